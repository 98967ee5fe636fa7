/- octavo/span.stretches, its iterator: what it hands to each round, and in which order. Conditions: the spans may be; the rounds leave the iterator's own block. -/
import Derived.RangeFuncNested
import Derived.RangeFuncBound
import Derived.RangeFuncCalls
import Derived.OwnWalkIn
import Derived.TacticsInMore
import Derived.LoopNIn
import Derived.LoopIn
import Derived.Test.YtmgdbgloacbacaaPk06

namespace Go.Proofs.Ytmgdbgloacbacaa.Spans
open Go.RowKit Go.Shelf
attribute [local go_sem ↓] Go.wp_at_zero Go.wp_at_succ

/-- Spans in memory that was there ahead. -/
def Low (B : Nat) (w : World) (v : Value) (l : List Sp) : Prop := Sps w v l ∧ (l = [] ∨ ∀ b, v.ownBlock = some b → b < B)
theorem Low.keeps {B : Nat} {w w' : World} {v : Value} {l : List Sp} (h : Low B w v l) (hb : Below B w w') : Low B w' v l := by
  refine ⟨?_, h.2⟩
  rcases h.2 with rfl | h2
  · obtain ⟨⟨h1, ao, cap, h3, h4, h5, h6, _⟩, _⟩ := h
    exact ⟨h1, ao, cap, h3, h4, h5, h6, .inl rfl⟩
  · exact Sees.stays h.1 hb.size (fun _ _ _ he => World.cell?_of_block (hb.block _ (h2 _ he)))
theorem low_of {w : World} {v : Value} {l : List Sp} (h : Sps w v l) : Low w.heap.size w v l := by
  refine ⟨h, ?_⟩
  obtain ⟨h1, ao, cap, rfl, h4, h5, h6, h7⟩ := h
  rcases h7 with h7 | ⟨b, off, rfl, h8, _⟩
  · left
    cases l with
    | nil => rfl
    | cons x l => simp [sps] at h7
  · right
    intro c hc
    cases hc
    exact h8
/-- What is handed to a round. -/
def encS (a b : List Sp) (s : Nat) : Array Value := #[.agg #[.int .u32 (s : Int), .int .u32 (til a b s : Int)], .agg #[.bool (nxt (fil a s) s).1, .bool (nxt (fil b s) s).1]]
/-- The three blocks of the iterator within a round. -/
def Mid (D G : Nat) (wo : World) (v u : Value) (x y : Bool) (e f : Nat) (w2 : World) : Prop :=
  wo.grownBy w2 (some D) ∧ w2.heap[D]? = some (.cells #[v, u] 119) ∧ w2.heap[G]? = some (.cells #[.bool x, .bool y] 110) ∧ w2.heap[G + 1]? = some (.cells #[.int .u32 (e : Int), .int .u32 (f : Int)] 127)
theorem Mid.cells {D G : Nat} {wo w2 : World} {v u : Value} {x y : Bool} {e f : Nat} (h : Mid D G wo v u x y e f w2) :
    (w2.cell? ⟨D, 0, none⟩ = some v ∧ w2.cell? ⟨D, 1, none⟩ = some u ∧ w2.frozen? ⟨D, 0, none⟩ = false ∧ w2.frozen? ⟨D, 1, none⟩ = false) ∧
    (w2.cell? ⟨G, 0, none⟩ = some (.bool x) ∧ w2.cell? ⟨G, 1, none⟩ = some (.bool y) ∧ w2.frozen? ⟨G, 0, none⟩ = false ∧ w2.frozen? ⟨G, 1, none⟩ = false) ∧
    w2.cell? ⟨G + 1, 0, none⟩ = some (.int .u32 (e : Int)) ∧ w2.cell? ⟨G + 1, 1, none⟩ = some (.int .u32 (f : Int)) ∧ w2.frozen? ⟨G + 1, 0, none⟩ = false ∧ w2.frozen? ⟨G + 1, 1, none⟩ = false :=
  ⟨⟨(two_blk h.2.1).1, (two_blk h.2.1).2, (two_free h.2.1).1, (two_free h.2.1).2⟩, ⟨(two_blk h.2.2.1).1, (two_blk h.2.2.1).2, (two_free h.2.2.1).1, (two_free h.2.2.1).2⟩,
    (two_blk h.2.2.2).1, (two_blk h.2.2.2).2, (two_free h.2.2.2).1, (two_free h.2.2.2).2⟩
theorem Mid.keeps {D G : Nat} {wo w2 w3 : World} {v u : Value} {x y : Bool} {e f : Nat} (h : Mid D G wo v u x y e f w2) (hb : Below w2.heap.size w2 w3) : Mid D G wo v u x y e f w3 := by
  have old : ∀ {k : Nat} {o : Obj}, w2.heap[k]? = some o → w3.heap[k]? = some o := fun hk => (hb.block _ (Array.getElem?_eq_some_iff.1 hk).1).trans hk
  exact ⟨grown_trans h.1 (grown_any hb), old h.2.1, old h.2.2.1, old h.2.2.2⟩
theorem grown_set {wo w2 : World} {D : Nat} {p : Addr} (d : Value) (h : wo.grownBy w2 (some D)) (hp : wo.heap.size ≤ p.block ∨ p.block = D) : wo.grownBy (w2.setCell p d) (some D) :=
  ⟨h.os, h.tape, h.output, by have := h.size; simpa [World.setCell] using this, fun k hk hr => (Below.heap_setCell _ _ _ _ (by
    intro e
    rcases hp with hp | hp
    · omega
    · exact hr (by rw [e, hp]))).trans (h.block k hk hr)⟩
theorem Mid.rest0 {D G : Nat} {wo w2 : World} {v u : Value} {x y : Bool} {e f : Nat} (h : Mid D G wo v u x y e f w2) (hDG : D < G) (v' : Value) : Mid D G wo v' u x y e f (w2.setCell ⟨D, 0, none⟩ v') := by
  refine ⟨grown_set _ h.1 (.inr rfl), heap_setCell_same w2 D 0 _ _ v' h.2.1, ?_, ?_⟩
  · rw [heap_setCell_other _ _ _ _ (show G ≠ D by omega)]; exact h.2.2.1
  · rw [heap_setCell_other _ _ _ _ (show G + 1 ≠ D by omega)]; exact h.2.2.2
theorem Mid.rest1 {D G : Nat} {wo w2 : World} {v u : Value} {x y : Bool} {e f : Nat} (h : Mid D G wo v u x y e f w2) (hDG : D < G) (v' : Value) : Mid D G wo v v' x y e f (w2.setCell ⟨D, 1, none⟩ v') := by
  refine ⟨grown_set _ h.1 (.inr rfl), heap_setCell_same w2 D 1 _ _ v' h.2.1, ?_, ?_⟩
  · rw [heap_setCell_other _ _ _ _ (show G ≠ D by omega)]; exact h.2.2.1
  · rw [heap_setCell_other _ _ _ _ (show G + 1 ≠ D by omega)]; exact h.2.2.2
theorem Mid.tell0 {D G : Nat} {wo w2 : World} {v u : Value} {x y : Bool} {e f : Nat} (h : Mid D G wo v u x y e f w2) (hDG : D < G) (hG : wo.heap.size = G) (x' : Bool) (e' : Nat) : Mid D G wo v u x' y e' f ((w2.setCell ⟨G, 0, none⟩ (.bool x')).setCell ⟨G + 1, 0, none⟩ (.int .u32 (e' : Int))) := by
  refine ⟨grown_set _ (grown_set _ h.1 (.inl (by simp; omega))) (.inl (by simp; omega)), ?_, ?_, ?_⟩
  · rw [heap_setCell_other _ _ _ _ (show D ≠ G + 1 by omega), heap_setCell_other _ _ _ _ (show D ≠ G by omega)]; exact h.2.1
  · rw [heap_setCell_other _ _ _ _ (show G ≠ G + 1 by omega)]; exact heap_setCell_same w2 G 0 _ _ _ h.2.2.1
  · exact heap_setCell_same _ (G + 1) 0 _ _ _ ((heap_setCell_other w2 ⟨G, 0, none⟩ (G + 1) _ (show G + 1 ≠ G by omega)).trans h.2.2.2)
theorem Mid.tell1 {D G : Nat} {wo w2 : World} {v u : Value} {x y : Bool} {e f : Nat} (h : Mid D G wo v u x y e f w2) (hDG : D < G) (hG : wo.heap.size = G) (x' : Bool) (e' : Nat) : Mid D G wo v u x x' e e' ((w2.setCell ⟨G, 1, none⟩ (.bool x')).setCell ⟨G + 1, 1, none⟩ (.int .u32 (e' : Int))) := by
  refine ⟨grown_set _ (grown_set _ h.1 (.inl (by simp; omega))) (.inl (by simp; omega)), ?_, ?_, ?_⟩
  · rw [heap_setCell_other _ _ _ _ (show D ≠ G + 1 by omega), heap_setCell_other _ _ _ _ (show D ≠ G by omega)]; exact h.2.1
  · rw [heap_setCell_other _ _ _ _ (show G ≠ G + 1 by omega)]; exact heap_setCell_same w2 G 1 _ _ _ h.2.2.1
  · exact heap_setCell_same _ (G + 1) 1 _ _ _ ((heap_setCell_other w2 ⟨G, 1, none⟩ (G + 1) _ (show G + 1 ≠ G by omega)).trans h.2.2.2)
theorem Mid.below {D G B : Nat} {wo w2 : World} {v u : Value} {x y : Bool} {e f : Nat} (h : Mid D G wo v u x y e f w2) (hB : B ≤ D) (hD : D < wo.heap.size) : Below B wo w2 :=
  (Below.refl B wo).grown h.1 (by omega) (fun k e => by cases e; exact hB)
theorem mid_new {D : Nat} {wo : World} {v u : Value} (h : wo.heap[D]? = some (.cells #[v, u] 119)) :
    Mid D wo.heap.size wo v u false false 0 0 ((wo.alloc (.cells #[.bool false, .bool false] 110)).alloc (.cells #[.int .u32 0, .int .u32 0] 127)) := by
  refine ⟨grown_any (((Below.refl _ _).alloc (Nat.le_refl _) _).alloc (by simp) _), kb_old (kb_old h), kb_old (kb_new rfl), kb_new (by simp)⟩
theorem upFrom_low {B : Nat} {v : Value} {p : List Sp} (n : Nat) {w : World} (hv : Low B w v p) :
    Calls Try.prog 94 #[v, .int .u32 (n : Int)] w fun e w' => ∃ v', e = .returned v' ∧ Low B w v' (upf p n) ∧ w = w' := by
  refine (upFrom_any n hv.1).mono ?_
  rintro e w' ⟨v', rfl, ⟨h1, h2⟩, rfl⟩
  refine ⟨v', rfl, ⟨h1, ?_⟩, rfl⟩
  rcases hv.2 with rfl | h3
  · exact .inl rfl
  · exact .inr (by rw [h2]; exact h3)

/-- Where the walk over the two lists stands. -/
def Turn2 (D G B : Nat) (wo : World) (pa pb : List Sp) (s : Nat) (i : Value) (w2 : World) : Prop :=
  ∃ va vb x y e f, Mid D G wo va vb x y e f w2 ∧
    ((i = .int .i64 0 ∧ Low B w2 va pa ∧ Low B w2 vb pb) ∨
     (i = .int .i64 1 ∧ Low B w2 va (upf pa s) ∧ Low B w2 vb pb ∧ x = (nxt (upf pa s) s).1 ∧ e = (nxt (upf pa s) s).2) ∨
     (i = .int .i64 2 ∧ Low B w2 va (upf pa s) ∧ Low B w2 vb (upf pb s) ∧ (x = (nxt (upf pa s) s).1 ∧ e = (nxt (upf pa s) s).2) ∧ y = (nxt (upf pb s) s).1 ∧ f = (nxt (upf pb s) s).2))

set_option maxRecDepth 100000 in
set_option maxHeartbeats 4000000 in
theorem stretches_go {n H B Bn : Nat} {a b : List Sp} {va vb : Value} {w : World} (hn : 1 ≤ n) (hB : B ≤ H) (ha : Fine a) (hb : Fine b) (hva : Low B w va a) (hvb : Low B w vb b)
    (hBn : w.heap[Bn]? = some (.cells #[va, vb] 119)) (hlt : Bn < H) :
    Goes n Try.prog 93 #[.pointer (some ⟨Bn, 0, none⟩)] (encS a b) (fun s => 1 ≤ s ∧ s ≤ 1073741824) (fun s => til a b s + 1) 1 1073741825 B H w := by
  intro J Jx W hW hbW hJ hJx hY h0
  rw [← hW] at hJ hJx
  simp only [← hW] at hY
  have hBW := (hbW.block Bn hlt).trans hBn
  obtain ⟨cn0, cn1⟩ := two_blk hBW
  have LA := Lib.hid (hva.keeps (hbW.mono hB))
  have LB := Lib.hid (hvb.keeps (hbW.mono hB))
  have HA := Lib.hid ha
  have HB := Lib.hid hb
  have HJ := Lib.hid hJ
  have HJX := Lib.hid hJx
  have HY := Lib.hid hY
  obtain ⟨Y, hYl⟩ : ∃ Y, Y = H + 1 := ⟨_, rfl⟩
  rw [← hYl] at HY ⊢
  have hBD : B ≤ W.heap.size := by omega
  have R0 : Hid (J 1 (W.alloc (.cells #[va, vb] 119)) ∧ Below B W (W.alloc (.cells #[va, vb] 119)) ∧ ∃ pa pb, (W.alloc (.cells #[va, vb] 119)).heap[W.heap.size]? = some (.cells #[va, vb] 119) ∧
      Low B (W.alloc (.cells #[va, vb] 119)) va pa ∧ Low B (W.alloc (.cells #[va, vb] 119)) vb pb ∧ upf pa 1 = fil a 1 ∧ upf pb 1 = fil b 1) := by
    have hx := (Below.refl B W).alloc hBD (.cells #[va, vb] 119)
    exact ⟨hJ 1 _ _ h0 (World.grownBy_alloc W _ _), hx, a, b, kb_new rfl, LA.out.keeps hx, LB.out.keeps hx, fil_start ha, fil_start hb⟩
  clear hva hvb hBn hlt hbW hBW ha hb hJ hJx hY h0 hYl hW hB
  obtain ⟨ao, cap, rfl⟩ := LA.out.1.shape
  obtain ⟨bo, cbp, rfl⟩ := LB.out.1.shape
  refine callsIn_of_wp Try.func93 rfl trivial ?_ rfl
  simp only [Try.ntmps93, List.size_toArray, List.length_cons, List.length_nil, Nat.reduceAdd, Nat.reduceSub, Array.replicate_succ, Array.replicate_zero, List.push_toArray, List.append_toArray, List.nil_append, List.cons_append]
  gi_wp2
  gi_loopw [4] (fun f wr => ∃ (s : Nat), 1 ≤ s ∧ s ≤ 1073741825 ∧ f = .int .u32 (s : Int) ∧ Hid (J s wr ∧ Below B W wr ∧ ∃ va vb pa pb, wr.heap[W.heap.size]? = some (.cells #[va, vb] 119) ∧ Low B wr va pa ∧ Low B wr vb pb ∧ upf pa s = fil a s ∧ upf pb s = fil b s)) (fun f _ => 1073741825 - (intOf f).toNat)
  case atStart => exact ⟨1, by omega, by omega, rfl, R0.out.1, R0.out.2.1, _, _, R0.out.2.2⟩
  case round =>
    clear R0 cn0 cn1 LA LB
    obtain ⟨s, hs1, hs2, rfl, hrel⟩ := hrel
    by_cases hs : s ≤ 1073741824
    · have t1 : decide (s ≤ 1073741824) = true := decide_eq_true hs
      have t2 : decide ((s : Int) ≤ 1073741824) = true := decide_eq_true (by omega)
      obtain ⟨wo, rfl⟩ : ∃ wo : World, wo = wr := ⟨_, rfl⟩
      obtain ⟨j0, hbel, va, vb, pa, pb, hD, la, lb, ea, eb⟩ := hrel
      have hDlt : W.heap.size < wo.heap.size := (Array.getElem?_eq_some_iff.1 hD).1
      have X0 := Lib.hid (mid_new (wo := wo) hD)
      have T0 : Hid (Turn2 W.heap.size wo.heap.size B wo pa pb s (.int .i64 0) ((wo.alloc (.cells #[.bool false, .bool false] 110)).alloc (.cells #[.int .u32 0, .int .u32 0] 127))) :=
        ⟨va, vb, false, false, 0, 0, X0.out, .inl ⟨rfl, la.keeps (X0.out.below hBD hDlt), lb.keeps (X0.out.below hBD hDlt)⟩⟩
      have OKA : Hid (∀ x ∈ upf pa s, Ok x) := by rw [ea]; exact (fil_rest s HA.out).1.all
      have OKB : Hid (∀ x ∈ upf pb s, Ok x) := by rw [eb]; exact (fil_rest s HB.out).1.all
      have J0 := Lib.hid j0
      have BEL := Lib.hid hbel
      have EA := Lib.hid ea
      have EB := Lib.hid eb
      clear j0 hbel hD la lb ea eb X0
      gi_wp2
      gi_loopw [12] (fun i w2 => Hid (Turn2 W.heap.size wo.heap.size B wo pa pb s i w2)) (fun i _ => 2 - (intOf i).toNat)
      case atStart => exact T0
      case round =>
        clear T0
        obtain ⟨w2, rfl⟩ : ∃ w2 : World, w2 = wr := ⟨_, rfl⟩
        obtain ⟨va, vb, x, y, e, f, hM, hc⟩ := hrel
        have hDG : W.heap.size < wo.heap.size := hDlt
        have HM := Lib.hid hM
        have hw2 : B ≤ w2.heap.size := by have := hM.1.size; omega
        obtain ⟨⟨c0, c1, c2, c3⟩, ⟨d0, d1, d2, d3⟩, e0, e1, e2, e3⟩ := hM.cells
        have n1 : ¬ W.heap.size = wo.heap.size := by omega
        have n2 : ¬ W.heap.size = wo.heap.size + 1 := by omega
        have n3 : ¬ wo.heap.size = W.heap.size := by omega
        have n4 : ¬ wo.heap.size + 1 = W.heap.size := by omega
        rcases hc with ⟨rfl, la, lb⟩ | ⟨rfl, la, lb, hx, he⟩ | ⟨rfl, la, lb, ⟨hx, he⟩, hy, hf⟩
        · have UP := Lib.hid (upFrom_low s la)
          have LO := Lib.hid lb
          obtain ⟨ao, ac, rfl⟩ := la.1.shape
          obtain ⟨bo, bc, rfl⟩ := lb.1.shape
          clear la lb hM
          gi_wp2_with fail
          refine ⟨trivial, (callsIn_wide.2 UP.out).mono ?_⟩
          rintro e w' ⟨v1, rfl, l1, rfl⟩
          obtain ⟨ao1, ac1, rfl⟩ := l1.1.shape
          obtain ⟨m1, hm1⟩ : ∃ m, m = (upf pa s).length := ⟨_, rfl⟩
          rw [← hm1] at l1
          rw [← hm1]
          have M1 := Lib.hid (HM.out.rest0 hDG (.slice ao1 m1 ac1))
          have S1 : Hid (Below B w2 (w2.setCell ⟨W.heap.size, 0, none⟩ (.slice ao1 m1 ac1))) := (Below.refl B w2).setCell (p := ⟨W.heap.size, 0, none⟩) hBD _
          have L1 := Lib.hid (l1.keeps S1.out)
          have NX := Lib.hid (next_any s L1.out.1 OKA.out)
          obtain ⟨q, hq⟩ : ∃ q, q = nxt (upf pa s) s := ⟨_, rfl⟩
          rw [← hq] at NX
          have HQ := Lib.hid hq
          obtain ⟨qx, qe⟩ := q
          simp only at NX
          clear l1 hq hm1
          gi_wp2_with fail
          refine ⟨trivial, (callsIn_wide.2 NX.out).mono ?_⟩
          rintro e w3 ⟨rfl, b3⟩
          have M3 := Lib.hid (M1.out.keeps b3)
          have S3 : Hid (Below B w2 ((w3.setCell ⟨wo.heap.size, 0, none⟩ (.bool qx)).setCell ⟨wo.heap.size + 1, 0, none⟩ (.int .u32 (qe : Int)))) :=
            ((S1.out.trans (b3.mono (Nat.le_trans (by omega) S1.out.size))).setCell (p := ⟨wo.heap.size, 0, none⟩) (by simp; omega) _).setCell (p := ⟨wo.heap.size + 1, 0, none⟩) (by simp; omega) _
          have L3 := Lib.hid (L1.out.keeps ((Below.refl B _).trans ((b3.mono (Nat.le_trans (by omega) S1.out.size)).setCell (p := ⟨wo.heap.size, 0, none⟩) (by simp; omega) (.bool qx) |>.setCell (p := ⟨wo.heap.size + 1, 0, none⟩) (by simp; omega) (.int .u32 (qe : Int)))))
          clear c0 c1 c2 c3 d0 d1 d2 d3 e0 e1 e2 e3
          obtain ⟨⟨c0, c1, c2, c3⟩, ⟨d0, d1, d2, d3⟩, e0, e1, e2, e3⟩ := M3.out.cells
          clear b3
          gi_wp2
          go_roundw
          case rel =>
            have h1 := congrArg Prod.fst HQ.out
            have h2 := congrArg Prod.snd HQ.out
            exact ⟨_, _, _, _, _, _, M3.out.tell0 hDG rfl qx qe, .inr (.inl ⟨by go_num, L3.out, LO.out.keeps S3.out, h1, h2⟩)⟩
          case measure => simp [intOf]
        · have UP := Lib.hid (upFrom_low s lb)
          have LO := Lib.hid la
          obtain ⟨ao, ac, rfl⟩ := la.1.shape
          obtain ⟨bo, bc, rfl⟩ := lb.1.shape
          clear la lb hM
          have HXE := Lib.hid (And.intro hx he)
          clear hx he
          gi_wp2_with fail
          refine ⟨trivial, (callsIn_wide.2 UP.out).mono ?_⟩
          rintro e w' ⟨v1, rfl, l1, rfl⟩
          obtain ⟨ao1, ac1, rfl⟩ := l1.1.shape
          obtain ⟨m1, hm1⟩ : ∃ m, m = (upf pb s).length := ⟨_, rfl⟩
          rw [← hm1] at l1
          rw [← hm1]
          have M1 := Lib.hid (HM.out.rest1 hDG (.slice ao1 m1 ac1))
          have S1 : Hid (Below B w2 (w2.setCell ⟨W.heap.size, 1, none⟩ (.slice ao1 m1 ac1))) := (Below.refl B w2).setCell (p := ⟨W.heap.size, 1, none⟩) hBD _
          have L1 := Lib.hid (l1.keeps S1.out)
          have NX := Lib.hid (next_any s L1.out.1 OKB.out)
          obtain ⟨q, hq⟩ : ∃ q, q = nxt (upf pb s) s := ⟨_, rfl⟩
          rw [← hq] at NX
          have HQ := Lib.hid hq
          obtain ⟨qx, qe⟩ := q
          simp only at NX
          clear l1 hq hm1
          gi_wp2_with fail
          refine ⟨trivial, (callsIn_wide.2 NX.out).mono ?_⟩
          rintro e w3 ⟨rfl, b3⟩
          have M3 := Lib.hid (M1.out.keeps b3)
          have S3 : Hid (Below B w2 ((w3.setCell ⟨wo.heap.size, 1, none⟩ (.bool qx)).setCell ⟨wo.heap.size + 1, 1, none⟩ (.int .u32 (qe : Int)))) :=
            ((S1.out.trans (b3.mono (Nat.le_trans (by omega) S1.out.size))).setCell (p := ⟨wo.heap.size, 1, none⟩) (by simp; omega) _).setCell (p := ⟨wo.heap.size + 1, 1, none⟩) (by simp; omega) _
          have L3 := Lib.hid (L1.out.keeps ((Below.refl B _).trans ((b3.mono (Nat.le_trans (by omega) S1.out.size)).setCell (p := ⟨wo.heap.size, 1, none⟩) (by simp; omega) (.bool qx) |>.setCell (p := ⟨wo.heap.size + 1, 1, none⟩) (by simp; omega) (.int .u32 (qe : Int)))))
          clear c0 c1 c2 c3 d0 d1 d2 d3 e0 e1 e2 e3
          obtain ⟨⟨c0, c1, c2, c3⟩, ⟨d0, d1, d2, d3⟩, e0, e1, e2, e3⟩ := M3.out.cells
          clear b3
          gi_wp2
          go_roundw
          case rel =>
            have h1 := congrArg Prod.fst HQ.out
            have h2 := congrArg Prod.snd HQ.out
            exact ⟨_, _, _, _, _, _, M3.out.tell1 hDG rfl qx qe, .inr (.inr ⟨by go_num, LO.out.keeps S3.out, L3.out, HXE.out, h1, h2⟩)⟩
          case measure => simp [intOf]
        · obtain ⟨T, hT⟩ : ∃ T, T = til a b s := ⟨_, rfl⟩
          have hTl := til_low HA.out HB.out hs
          rw [← hT] at hTl
          have hTm : T = min e f := by rw [hT, he, hf, EA.out, EB.out]; rfl
          have hE : encS a b s = #[.agg #[.int .u32 (s : Int), .int .u32 (T : Int)], .agg #[.bool x, .bool y]] := by
            unfold encS
            rw [← hT, hx, hy, EA.out, EB.out]
          have js2 := HJ.out s _ _ J0.out hM.1
          obtain ⟨fn, tmps, assign, body, hyl, hR⟩ := HY.out s w2 js2 ⟨hs1, hs⟩ (Array.getElem?_eq_some_iff.1 hM.2.1).1
          rw [hE] at hyl
          rw [← hT] at hR
          have HR := Lib.hid hR
          have LA := Lib.hid la
          have LB := Lib.hid lb
          have BB := Lib.hid (BEL.out.trans (hM.below hBD hDlt))
          have MD := Lib.hid hM.2.1
          have FA : Hid (upf (upf pa s) (T + 1) = fil a (T + 1)) := by
            rw [EA.out]
            exact fil_step HA.out hTl.1 (by have : T ≤ e := by omega
                                            rwa [he, EA.out] at this)
          have FB : Hid (upf (upf pb s) (T + 1) = fil b (T + 1)) := by
            rw [EB.out]
            exact fil_step HB.out hTl.1 (by have : T ≤ f := by omega
                                            rwa [hf, EB.out] at this)
          obtain ⟨hT1, hT2⟩ := hTl
          have eT : IntKind.u32.wrap ((T : Int) + 1) = (T : Int) + 1 := by rw [IntKind.wrap_u32]; omega
          clear hM la lb hx he hy hf hT hE js2 hR HY HJ
          have hcase : (e < f ∧ T = e) ∨ (e = f ∧ T = e) ∨ (f < e ∧ T = f) := by omega
          clear hTm
          have fin : ∀ W3 : World, J (T + 1) W3 → Below B w2 W3 → W3.heap[W.heap.size]? = w2.heap[W.heap.size]? → Hid (J (T + 1) W3 ∧ Below B W W3 ∧ ∃ va vb pa pb, W3.heap[W.heap.size]? = some (.cells #[va, vb] 119) ∧ Low B W3 va pa ∧ Low B W3 vb pb ∧ upf pa (T + 1) = fil a (T + 1) ∧ upf pb (T + 1) = fil b (T + 1)) :=
            fun W3 h1 h2 h3 => ⟨h1, BB.out.trans h2, va, vb, _, _, h3.trans MD.out, LA.out.keeps h2, LB.out.keeps h2, FA.out, FB.out⟩
          have FIN := Lib.hid fin
          clear fin
          rcases hcase with ⟨g1, rfl⟩ | ⟨rfl, rfl⟩ | ⟨g1, rfl⟩
          · have g2 : ¬ f < T := by omega
            have g3 : ¬ f ≤ T := by omega
            gi_wp2_with fail
            refine HR.out.mono ?_
            rintro e0 W3 (⟨rfl, hJ3, hb3, hD3⟩ | ⟨rfl, hJx3⟩)
            · have R := FIN.out W3 hJ3 hb3 hD3
              clear hJ3 hb3 hD3
              gi_wp2
              go_roundw
              case rel => exact ⟨T + 1, by omega, by omega, by go_num, R⟩
              case measure => simp [intOf]; omega
            · gi_wp2
              refine bodyPost_ret (results_none rfl _ _ _) rfl ?_
              exact ⟨⟨_, rfl⟩, .inr hJx3⟩
          · skip
            gi_wp2_with fail
            refine HR.out.mono ?_
            rintro e0 W3 (⟨rfl, hJ3, hb3, hD3⟩ | ⟨rfl, hJx3⟩)
            · have R := FIN.out W3 hJ3 hb3 hD3
              clear hJ3 hb3 hD3
              gi_wp2
              go_roundw
              case rel => exact ⟨T + 1, by omega, by omega, by go_num, R⟩
              case measure => simp [intOf]; omega
            · gi_wp2
              refine bodyPost_ret (results_none rfl _ _ _) rfl ?_
              exact ⟨⟨_, rfl⟩, .inr hJx3⟩
          · have g2 : ¬ e < T := by omega
            have g3 : ¬ e ≤ T := by omega
            gi_wp2_with fail
            refine HR.out.mono ?_
            rintro e0 W3 (⟨rfl, hJ3, hb3, hD3⟩ | ⟨rfl, hJx3⟩)
            · have R := FIN.out W3 hJ3 hb3 hD3
              clear hJ3 hb3 hD3
              gi_wp2
              go_roundw
              case rel => exact ⟨T + 1, by omega, by omega, by go_num, R⟩
              case measure => simp [intOf]; omega
            · gi_wp2
              refine bodyPost_ret (results_none rfl _ _ _) rfl ?_
              exact ⟨⟨_, rfl⟩, .inr hJx3⟩
    · obtain rfl : s = 1073741825 := by omega
      gi_wp2
      go_end0
      exact ⟨⟨_, rfl⟩, .inl hrel.1⟩
end Go.Proofs.Ytmgdbgloacbacaa.Spans

/- octavo/span.chosen: what it answers. Conditions: the chooser answers what it is asked for; the slices' cells are spans. -/
namespace Go.Proofs.Ytmgdbgloacbacaa.Spans
open Go.RowKit Go.Shelf
attribute [local go_sem ↓] Go.wp_at_zero Go.wp_at_succ
attribute [local go_sem] Oper.semAt_some

/-- The blocks that the call lays first. -/
def Pre (N gc : Nat) (v u : Value) (w W : World) : Prop :=
  Below N w W ∧ W.heap[N]? = some (.cells #[.func (.func gc) #[] #[]] 111) ∧ W.heap[N + 1]? = some (.cells #[.slice none 0 0] 48) ∧
    W.heap[N + 2]? = some (.cells #[.int .i64 0] 29) ∧ W.heap[N + 3]? = some (.cells #[v, u] 119)
theorem one_blk {X : World} {g : Nat} {c0 : Value} {e : TypeId} (h : X.heap[g]? = some (.cells #[c0] e)) : X.cell? ⟨g, 0, none⟩ = some c0 ∧ X.frozen? ⟨g, 0, none⟩ = false :=
  ⟨cell_of_row _ g 0 #[c0] e _ h, by simp [World.frozen?, h]⟩
theorem Pre.keeps {N gc : Nat} {v u : Value} {w W W' : World} (h : Pre N gc v u w W) (hb : Below W.heap.size W W') (hN : N ≤ W.heap.size) : Pre N gc v u w W' := by
  have old : ∀ {k : Nat} {o : Obj}, W.heap[k]? = some o → W'.heap[k]? = some o := fun hk => (hb.block _ (Array.getElem?_eq_some_iff.1 hk).1).trans hk
  exact ⟨h.1.trans (hb.mono hN), old h.2.1, old h.2.2.1, old h.2.2.2.1, old h.2.2.2.2⟩
theorem Pre.grown {N gc : Nat} {v u : Value} {w W W' : World} {r : Nat} (h : Pre N gc v u w W) (hg : W.grownBy W' (some r)) (hr : N + 4 ≤ r) : Pre N gc v u w W' := by
  have old : ∀ {k : Nat} {o : Obj}, k < N + 4 → W.heap[k]? = some o → W'.heap[k]? = some o := fun hlt hk => (hg.block _ (Array.getElem?_eq_some_iff.1 hk).1 (fun e => by cases e; omega)).trans hk
  have hs := (Array.getElem?_eq_some_iff.1 h.2.1).1
  exact ⟨h.1.grown hg (by omega) (fun k e => by cases e; omega), old (by omega) h.2.1, old (by omega) h.2.2.1, old (by omega) h.2.2.2.1, old (by omega) h.2.2.2.2⟩
theorem Pre.below {N gc B : Nat} {v u : Value} {w W W' : World} (h : Pre N gc v u w W) (hb : Below B W W') (hB : N + 4 ≤ B) : Pre N gc v u w W' := by
  have old : ∀ {k : Nat} {o : Obj}, k < N + 4 → W.heap[k]? = some o → W'.heap[k]? = some o := fun hlt hk => (hb.block _ (by omega)).trans hk
  exact ⟨h.1.trans (hb.mono (by omega)), old (by omega) h.2.1, old (by omega) h.2.2.1, old (by omega) h.2.2.2.1, old (by omega) h.2.2.2.2⟩
theorem pre_new (gc : Nat) (v u : Value) (w : World) : Pre w.heap.size gc v u w ((((w.alloc (.cells #[.func (.func gc) #[] #[]] 111)).alloc (.cells #[.slice none 0 0] 48)).alloc (.cells #[.int .i64 0] 29)).alloc (.cells #[v, u] 119)) :=
  ⟨((((Below.refl _ _).alloc (Nat.le_refl _) _).alloc (by simp) _).alloc (by simp; omega) _).alloc (by simp; omega) _, kb_old (kb_old (kb_old (kb_new rfl))), kb_old (kb_old (kb_new (by simp))), kb_old (kb_new (by simp)), kb_new (by simp)⟩

theorem idx_two0 (x y : Value) (W : World) : (Instr.index 119 (.agg #[x, y]) (.int .i64 0)).run Try.prog W = .ok x W := by
  simp [Instr.index, asIntOf, run_underlying Try.underlying119, go_sem]
theorem idx_two1 (x y : Value) (W : World) : (Instr.index 119 (.agg #[x, y]) (.int .i64 1)).run Try.prog W = .ok y W := by
  simp [Instr.index, asIntOf, run_underlying Try.underlying119, go_sem]
/-- The two results stored. -/
def put2 (N : Nat) (W : World) (v : Value) (c : Int) : World := (W.setCell ⟨N + 1, 0, none⟩ v).setCell ⟨N + 2, 0, none⟩ (.int .i64 c)
theorem put2_blk {N : Nat} {W : World} {v0 v : Value} {c0 c : Int} {e f : TypeId} (h1 : W.heap[N + 1]? = some (.cells #[v0] e)) (h2 : W.heap[N + 2]? = some (.cells #[.int .i64 c0] f)) :
    (put2 N W v c).heap[N + 1]? = some (.cells #[v] e) ∧ (put2 N W v c).heap[N + 2]? = some (.cells #[.int .i64 c] f) :=
  ⟨(heap_setCell_other (W.setCell ⟨N + 1, 0, none⟩ v) ⟨N + 2, 0, none⟩ (N + 1) (.int .i64 c) (show N + 1 ≠ N + 2 by omega)).trans (heap_setCell_same W (N + 1) 0 _ _ v h1),
    heap_setCell_same (W.setCell ⟨N + 1, 0, none⟩ v) (N + 2) 0 _ _ (.int .i64 c) ((heap_setCell_other W ⟨N + 1, 0, none⟩ (N + 2) _ (show N + 2 ≠ N + 1 by omega)).trans h2)⟩
theorem put2_below {N B : Nat} {w W : World} (v : Value) (c : Int) (h : Below B w W) (hB : B ≤ N + 1) : Below B w (put2 N W v c) :=
  (h.setCell (p := ⟨N + 1, 0, none⟩) hB _).setCell (p := ⟨N + 2, 0, none⟩) (by simp; omega) _
theorem put2_far {N k : Nat} {W : World} (v : Value) (c : Int) (hk : N + 2 < k) : (put2 N W v c).heap[k]? = W.heap[k]? :=
  (heap_setCell_other _ ⟨N + 2, 0, none⟩ k _ (show k ≠ N + 2 by omega)).trans (heap_setCell_other _ ⟨N + 1, 0, none⟩ k _ (show k ≠ N + 1 by omega))
theorem put2_own {N B n sz : Nat} {W : World} {e : TypeId} {x : Value} {cs : List Value} (v : Value) (c : Int) (h : W.ownsRow B e sz x n cs) (hB : N + 2 < B) : (put2 N W v c).ownsRow B e sz x n cs := by
  refine ⟨h.1, ?_⟩
  rcases h.2 with h0 | ⟨g, cap, cur, rfl, h1, hg, h2⟩
  · exact .inl h0
  · exact .inr ⟨g, cap, cur, rfl, h1, (put2_far v c (by omega)).trans hg, h2⟩
/-- What is said between two rounds: the blocks that were laid first, and what has been put out. -/
def Inv (N G gc : Nat) (v u : Value) (w : World) (r : List Sp) (s : Nat) (W : World) : Prop :=
  Pre N gc v u w W ∧ (low r s).length ≤ 1024 ∧ ∃ o, W.heap[G]? = some (.cells #[o] 48) ∧ W.ownsRow (G + 5) 53 2 o (low r s).length (sps (low r s))
/-- What is said where they came to be too many. -/
def InvX (N : Nat) (w : World) (r : List Sp) (W : World) : Prop :=
  1024 < r.length ∧ Below N w W ∧ W.heap[N + 1]? = some (.cells #[.slice none 0 0] 48) ∧ W.heap[N + 2]? = some (.cells #[.int .i64 4] 29)
theorem inv_rides {N G gc : Nat} {v u : Value} {w : World} {r : List Sp} {s : Nat} (h : N + 4 ≤ G) : Rides (G + 2) (Inv N G gc v u w r s) := by
  rintro A B q ⟨h1, h2, o, h3, h4⟩ hq1 hq2 hg
  refine ⟨h1.grown hg (by omega), h2, o, (hg.block _ (Array.getElem?_eq_some_iff.1 h3).1 (fun e => by cases e; omega)).trans h3, h4.kept hg ?_⟩
  rcases h4.2 with ⟨rfl, _⟩ | ⟨g, cap, cur, rfl, hb, _⟩
  · exact .inl rfl
  · refine .inr (fun e => ?_)
    simp only [Value.ownBlock, Option.some.injEq] at e
    omega
theorem invX_rides {N G : Nat} {w : World} {r : List Sp} (h : N + 4 ≤ G) : Rides (G + 2) (InvX N w r) := by
  rintro A B q ⟨h0, h1, h2, h3⟩ hq1 hq2 hg
  have old : ∀ {k : Nat} {o : Obj}, k < N + 4 → A.heap[k]? = some o → B.heap[k]? = some o := fun hlt hk => (hg.block _ (Array.getElem?_eq_some_iff.1 hk).1 (fun e => by cases e; omega)).trans hk
  have hs := (Array.getElem?_eq_some_iff.1 h2).1
  exact ⟨h0, h1.grown hg (by omega) (fun k e => by cases e; omega), old (by omega) h2, old (by omega) h3⟩

set_option maxRecDepth 100000 in
set_option maxHeartbeats 8000000 in
theorem chosen_any {ch : Bool → Bool → Bool} {gc : Nat} (eg : ∀ args w, (callFunc gc args).run Try.prog w = .ok (.enter gc args) w)
    (HC : ∀ (x y : Bool) (W : World), Calls Try.prog gc #[.agg #[.bool x, .bool y]] W fun e w' => e = .returned (.bool (ch x y)) ∧ Below W.heap.size W w')
    {a b r L : List Sp} {c : Int} {v u : Value} {w : World} (hv : Sps w v a) (hu : Sps w u b) (hbad : ¬ (mayB a = true ∧ mayB b = true) → L = [] ∧ c = 8)
    (hgood : mayB a = true → mayB b = true → Chosen ch a b r ∧ told r = (L, c)) :
    Calls Try.prog 82 #[v, u, .func (.func gc) #[] #[]] w (Done L c w) := by
  obtain ⟨n, hn⟩ : ∃ n : Nat, 3 ≤ n := ⟨3, Nat.le_refl _⟩
  have h1n : 1 ≤ n := by omega
  have h2n : 1 ≤ n - 1 - 1 := by omega
  refine (callsIn_wide (n := n)).1 ?_
  have PR := Lib.hid (pre_new gc v u w)
  have HV := Lib.hid hv
  have HU := Lib.hid hu
  have HCH := Lib.hid HC
  have HBad := Lib.hid hbad
  have HGood := Lib.hid hgood
  obtain ⟨ao, ac, rfl⟩ := hv.shape
  obtain ⟨bo, bc, rfl⟩ := hu.shape
  obtain ⟨la, hla⟩ : ∃ la, la = a.length := ⟨_, rfl⟩
  obtain ⟨lb, hlb⟩ : ∃ lb, lb = b.length := ⟨_, rfl⟩
  rw [← hla] at PR HV
  rw [← hlb] at PR HU
  rw [← hla, ← hlb]
  clear hv hu HC hbad hgood hla hlb
  have hN : w.heap.size ≤ w.heap.size := Nat.le_refl _
  refine callsIn_of_wp_marks Try.func82 rfl trivial ?_ rfl
  simp only [Try.ntmps82, List.size_toArray, List.length_cons, List.length_nil, Nat.reduceAdd, Nat.reduceSub, Array.replicate_succ, Array.replicate_zero, List.push_toArray, List.append_toArray, List.nil_append, List.cons_append]
  gi_wp2
  gi_loopw [19] (fun i wr => Hid (Pre w.heap.size gc (.slice ao la ac) (.slice bo lb bc) w wr) ∧ (i = .int .i64 0 ∨ (i = .int .i64 1 ∧ Hid (mayB a = true)) ∨ (i = .int .i64 2 ∧ Hid (mayB a = true) ∧ Hid (mayB b = true)))) (fun i _ => 2 - (intOf i).toNat)
  case atStart => exact ⟨PR, .inl rfl⟩
  case round =>
    clear PR
    obtain ⟨wo, rfl⟩ : ∃ wo : World, wo = wr := ⟨_, rfl⟩
    obtain ⟨hP, hc⟩ := hrel
    obtain ⟨p0, p1⟩ := one_blk hP.out.2.1
    obtain ⟨p2, p3⟩ := one_blk hP.out.2.2.1
    obtain ⟨p4, p5⟩ := one_blk hP.out.2.2.2.1
    obtain ⟨p6, p7⟩ := two_blk hP.out.2.2.2.2
    have hsz : w.heap.size ≤ wo.heap.size := hP.out.1.size
    rcases hc with rfl | ⟨rfl, hA⟩ | ⟨rfl, hA, hB⟩
    · have CK := Lib.hid (pCheck_any (HV.out.keeps hP.out.1))
      have I0 := Lib.hid (idx_two0 (.slice ao la ac) (.slice bo lb bc))
      obtain ⟨q, hq⟩ : ∃ q, mayB a = q := ⟨_, rfl⟩
      have HQ := Lib.hid hq
      have i0 := I0.out
      cases q
      · have e8 : chk a = 8 := by unfold chk; rw [hq]; rfl
        obtain ⟨rfl, rfl⟩ := HBad.out (fun h => by have := h.1; rw [hq] at this; cases this)
        rw [e8] at CK
        clear hq e8
        gi_wp2_with fail
        refine ⟨trivial, (callsIn_wide.2 CK.out).mono ?_⟩
        rintro e w1 ⟨rfl, b1⟩
        have P1 := Lib.hid (hP.out.keeps b1 hsz)
        clear b1 p0 p1 p2 p3 p4 p5 p6 p7
        obtain ⟨p2, p3⟩ := one_blk P1.out.2.2.1
        obtain ⟨p4, p5⟩ := one_blk P1.out.2.2.2.1
        have BX : Hid (Below w.heap.size w ((w1.setCell ⟨w.heap.size + 1, 0, none⟩ (.slice none 0 0)).setCell ⟨w.heap.size + 2, 0, none⟩ (.int .i64 8))) := (P1.out.1.setCell (p := ⟨w.heap.size + 1, 0, none⟩) (by simp) _).setCell (p := ⟨w.heap.size + 2, 0, none⟩) (by simp) _
        have c1 := ((heap_setCell_other (w1.setCell ⟨w.heap.size + 1, 0, none⟩ (.slice none 0 0)) ⟨w.heap.size + 2, 0, none⟩ (w.heap.size + 1) (.int .i64 8) (show w.heap.size + 1 ≠ w.heap.size + 2 by omega)).trans (heap_setCell_same w1 (w.heap.size + 1) 0 _ _ (.slice none 0 0) P1.out.2.2.1))
        have c2 := heap_setCell_same (w1.setCell ⟨w.heap.size + 1, 0, none⟩ (.slice none 0 0)) (w.heap.size + 2) 0 _ _ (.int .i64 8) ((heap_setCell_other w1 ⟨w.heap.size + 1, 0, none⟩ (w.heap.size + 2) _ (show w.heap.size + 2 ≠ w.heap.size + 1 by omega)).trans P1.out.2.2.2.1)
        have C := Lib.hid (And.intro (one_blk c1).1 (one_blk c2).1)
        clear c1 c2
        gi_wp2
        refine ⟨.tuple #[.slice none 0 0, .int .i64 8], ?_, none, 0, rfl, World.ownsRow_nil _ _ _ _, BX.out⟩
        obtain ⟨c1, c2⟩ := C.out
        simp [results, Try.f82, go_sem, c1, c2]
      · have e0 : chk a = 0 := by unfold chk; rw [hq]; rfl
        rw [e0] at CK
        clear hq e0
        gi_wp2_with fail
        refine ⟨trivial, (callsIn_wide.2 CK.out).mono ?_⟩
        rintro e w1 ⟨rfl, b1⟩
        have P1 := Lib.hid (hP.out.keeps b1 hsz)
        clear b1 p0 p1 p2 p3 p4 p5 p6 p7
        gi_wp2
        go_roundw
        case rel => exact ⟨P1, .inr (.inl ⟨by go_num, HQ⟩)⟩
        case measure => simp [intOf]
    · have CK := Lib.hid (pCheck_any (HU.out.keeps hP.out.1))
      have I0 := Lib.hid (idx_two1 (.slice ao la ac) (.slice bo lb bc))
      obtain ⟨q, hq⟩ : ∃ q, mayB b = q := ⟨_, rfl⟩
      have HQ := Lib.hid hq
      have i0 := I0.out
      cases q
      · have e8 : chk b = 8 := by unfold chk; rw [hq]; rfl
        obtain ⟨rfl, rfl⟩ := HBad.out (fun h => by have := h.2; rw [hq] at this; cases this)
        rw [e8] at CK
        clear hq e8
        gi_wp2_with fail
        refine ⟨trivial, (callsIn_wide.2 CK.out).mono ?_⟩
        rintro e w1 ⟨rfl, b1⟩
        have P1 := Lib.hid (hP.out.keeps b1 hsz)
        clear b1 p0 p1 p2 p3 p4 p5 p6 p7
        obtain ⟨p2, p3⟩ := one_blk P1.out.2.2.1
        obtain ⟨p4, p5⟩ := one_blk P1.out.2.2.2.1
        have BX : Hid (Below w.heap.size w ((w1.setCell ⟨w.heap.size + 1, 0, none⟩ (.slice none 0 0)).setCell ⟨w.heap.size + 2, 0, none⟩ (.int .i64 8))) := (P1.out.1.setCell (p := ⟨w.heap.size + 1, 0, none⟩) (by simp) _).setCell (p := ⟨w.heap.size + 2, 0, none⟩) (by simp) _
        have c1 := ((heap_setCell_other (w1.setCell ⟨w.heap.size + 1, 0, none⟩ (.slice none 0 0)) ⟨w.heap.size + 2, 0, none⟩ (w.heap.size + 1) (.int .i64 8) (show w.heap.size + 1 ≠ w.heap.size + 2 by omega)).trans (heap_setCell_same w1 (w.heap.size + 1) 0 _ _ (.slice none 0 0) P1.out.2.2.1))
        have c2 := heap_setCell_same (w1.setCell ⟨w.heap.size + 1, 0, none⟩ (.slice none 0 0)) (w.heap.size + 2) 0 _ _ (.int .i64 8) ((heap_setCell_other w1 ⟨w.heap.size + 1, 0, none⟩ (w.heap.size + 2) _ (show w.heap.size + 2 ≠ w.heap.size + 1 by omega)).trans P1.out.2.2.2.1)
        have C := Lib.hid (And.intro (one_blk c1).1 (one_blk c2).1)
        clear c1 c2
        gi_wp2
        refine ⟨.tuple #[.slice none 0 0, .int .i64 8], ?_, none, 0, rfl, World.ownsRow_nil _ _ _ _, BX.out⟩
        obtain ⟨c1, c2⟩ := C.out
        simp [results, Try.f82, go_sem, c1, c2]
      · have e0 : chk b = 0 := by unfold chk; rw [hq]; rfl
        rw [e0] at CK
        clear hq e0
        gi_wp2_with fail
        refine ⟨trivial, (callsIn_wide.2 CK.out).mono ?_⟩
        rintro e w1 ⟨rfl, b1⟩
        have P1 := Lib.hid (hP.out.keeps b1 hsz)
        clear b1 p0 p1 p2 p3 p4 p5 p6 p7
        gi_wp2
        go_roundw
        case rel => exact ⟨P1, .inr (.inr ⟨by go_num, hA, HQ⟩)⟩
        case measure => simp [intOf]
    · have hlt : w.heap.size + 3 < wo.heap.size := (Array.getElem?_eq_some_iff.1 hP.out.2.2.2.2).1
      have n1 : ¬ w.heap.size + 1 + 1 + 1 = wo.heap.size := by omega
      have n2 : ¬ wo.heap.size = w.heap.size + 1 + 1 + 1 := by omega
      have r6 : wo.cell? ⟨w.heap.size + 1 + 1 + 1, 0, none⟩ = some (.slice ao la ac) := p6
      have r7 : wo.cell? ⟨w.heap.size + 1 + 1 + 1, 1, none⟩ = some (.slice bo lb bc) := p7
      have PX := Lib.hid (hP.out.keeps (((Below.refl wo.heap.size wo).alloc (Nat.le_refl _) (.cells #[.slice none 0 0] 48)).alloc (by simp) (.cells #[.slice ao la ac, .slice bo lb bc] 119)) hsz)
      have hFa := ((mayB_iff a).1 hA.out).1
      have hFb := ((mayB_iff b).1 hB.out).1
      obtain ⟨hCh, hto⟩ := HGood.out hA.out hB.out
      have IT := Lib.hid (stretches_go (n := n - 1) (H := wo.heap.size + 2) (B := w.heap.size) (Bn := wo.heap.size + 1) (by omega) (by omega) hFa hFb ((low_of HV.out).keeps PX.out.1) ((low_of HU.out).keeps PX.out.1)
        (kb_new (X := wo.alloc (.cells #[.slice none 0 0] 48)) (o := .cells #[.slice ao la ac, .slice bo lb bc] 119) (by simp)) (by omega))
      have I0 : Hid (Inv w.heap.size wo.heap.size gc (.slice ao la ac) (.slice bo lb bc) w r 1 ((wo.alloc (.cells #[.slice none 0 0] 48)).alloc (.cells #[.slice ao la ac, .slice bo lb bc] 119))) := by
        refine ⟨PX.out, ?_, .slice none 0 0, kb_old (kb_new rfl), ?_⟩
        · rw [low_one hCh.1]; simp
        · rw [low_one hCh.1]; exact World.ownsRow_nil _ _ _ _
      have HFa := Lib.hid hFa
      have HFb := Lib.hid hFb
      have HCh := Lib.hid hCh
      have HTo := Lib.hid hto
      clear hFa hFb hCh hto PX HGood HBad p0 p1 p2 p3 p4 p5 p6 p7 HV HU
      gi_wp2_with fail
      refine ⟨trivial, (callsIn_wide.2 (stretches_any _ _ _)).mono ?_⟩
      rintro e w' ⟨rfl, rfl⟩
      clear r6 r7 n1 n2
      gi_wp2
      refine range_own h1n (gf := 93) (lb := #[.pointer (some ⟨wo.heap.size + 1, 0, none⟩)]) (by simp [go_sem]) (enters_of Try.func93 (by kernel_rfl) rfl) (H := wo.heap.size + 2) (by simp) IT.out (by omega) (fun _ => rfl)
        (Inv w.heap.size wo.heap.size gc (.slice ao la ac) (.slice bo lb bc) w r) (InvX w.heap.size w r) (fun s => inv_rides (by omega)) (invX_rides (by omega)) I0.out ?round ?done ?stop
      case round =>
        clear I0 IT
        intro s W hI hWs hd K hK
        obtain ⟨hs1, hs2⟩ := hd
        obtain ⟨T, hT⟩ : ∃ T, T = til a b s := ⟨_, rfl⟩
        obtain ⟨x, hx⟩ : ∃ x, x = (nxt (fil a s) s).1 := ⟨_, rfl⟩
        obtain ⟨y, hy⟩ : ∃ y, y = (nxt (fil b s) s).1 := ⟨_, rfl⟩
        have hE : encS a b s = #[.agg #[.int .u32 (s : Int), .int .u32 (T : Int)], .agg #[.bool x, .bool y]] := by unfold encS; rw [hT, hx, hy]
        have hTl := til_low HFa.out HFb.out hs2
        rw [← hT] at hTl hK
        have na := ((fil_rest s HFa.out).next hs2).2.2.1
        have nb := ((fil_rest s HFb.out).next hs2).2.2.1
        rw [← hx] at na
        rw [← hy] at nb
        have ma : ∀ m, s ≤ m → m ≤ T → inB a m = x := fun m h1 h2 => na m h1 (by unfold til at hT; omega)
        have mb : ∀ m, s ≤ m → m ≤ T → inB b m = y := fun m h1 h2 => nb m h1 (by unfold til at hT; omega)
        have yes : Hid (ch x y = true → low r (T + 1) = wth (low r s) (mk s T)) := fun h => stretch_yes HCh.out hs1 hTl.1 hTl.2 ma mb h
        have no : Hid (ch x y = false → low r (T + 1) = low r s) := fun h => stretch_no HCh.out hTl.1 ma mb h
        obtain ⟨hT1, hT2⟩ := hTl
        have HK := Lib.hid hK
        have HI := Lib.hid hI
        have hWsz : w.heap.size ≤ W.heap.size := by omega
        have B2 : Hid (Below W.heap.size W ((W.alloc (.cells #[.int .u32 (s : Int), .int .u32 (T : Int)] 53)).alloc (.cells #[.bool x, .bool y] 110))) := ((Below.refl _ _).alloc (Nat.le_refl _) _).alloc (by simp) _
        rw [hE]
        clear hT hx hy hE na nb ma mb hK hI
        gi_wp2
        refine HK.out _ _ (fun q h1 h2 => B2.out.block q (by omega)) (B2.out.mono hWsz) (((inv_rides (by omega)).new _ ((inv_rides (by omega)).new _ HI.out))) ?_
        intro W3 hg3 hI3
        have z0 : W3.heap[W.heap.size]? = some (.cells #[.int .u32 (s : Int), .int .u32 (T : Int)] 53) :=
          (hg3.block _ (by simp; omega) (fun e => by have := Option.some.inj e; omega)).trans (kb_old (kb_new rfl))
        have z1 : W3.heap[W.heap.size + 1]? = some (.cells #[.bool x, .bool y] 110) :=
          (hg3.block _ (by simp) (fun e => by have := Option.some.inj e; omega)).trans (kb_new (by simp))
        have hsz3 : wo.heap.size + 6 ≤ W3.heap.size := by have := (Array.getElem?_eq_some_iff.1 z1).1; omega
        obtain ⟨hP3, hl3, o, hG3, hO3⟩ := hI3
        obtain ⟨z2, z3⟩ := two_blk z0
        obtain ⟨z4, z5⟩ := two_blk z1
        obtain ⟨z6, z7⟩ := one_blk hP3.2.1
        have Z0 := Lib.hid z0
        have HP3 := Lib.hid hP3
        have HG3 := Lib.hid hG3
        have HO3 := Lib.hid hO3
        have HL3 := Lib.hid hl3
        have CC := Lib.hid (HCH.out x y W3)
        obtain ⟨q, hq⟩ : ∃ q, q = ch x y := ⟨_, rfl⟩
        rw [← hq] at CC yes no
        clear z0 z1 hP3 hG3 hO3 hl3 B2 HK HI hg3 hq
        gi_wp2_with fail
        refine ⟨trivial, (CallsIn.inRound _ (callsIn_wide.2 CC.out)).mono ?_⟩
        rintro e W4 ⟨rfl, b4⟩
        have P4 := Lib.hid (HP3.out.below b4 (by omega))
        have G4 := Lib.hid ((b4.block _ (Array.getElem?_eq_some_iff.1 HG3.out).1).trans HG3.out)
        have O4 := Lib.hid (own_stays HO3.out b4)
        have Z4 := Lib.hid ((b4.block _ (Array.getElem?_eq_some_iff.1 Z0.out).1).trans Z0.out)
        have T4 : Hid (Below (wo.heap.size + 5) W3 W4) := b4.mono (by omega)
        have hsz4 : wo.heap.size + 6 ≤ W4.heap.size := Nat.le_trans hsz3 b4.size
        clear z2 z3 z4 z5 z6 z7 b4 HP3 HG3 HO3 Z0 CC
        obtain ⟨z2, z3⟩ := two_blk Z4.out
        obtain ⟨z4, z5⟩ := one_blk G4.out
        obtain ⟨oo, oc, rfl⟩ := Sees.shape (Sees.own O4.out)
        have old5 : ∀ W5 : World, Below (wo.heap.size + 5) W4 W5 → Below (wo.heap.size + 5) W3 W5 := fun W5 h => T4.out.trans h
        cases q
        · have hlow := no.out rfl
          have IN : Hid (Three (wo.heap.size + 2) W3 W4 ∧ Below w.heap.size W3 W4 ∧ Inv w.heap.size wo.heap.size gc (.slice ao la ac) (.slice bo lb bc) w r (T + 1) W4) := by
            refine ⟨fun k h1 h2 => T4.out.block k (by omega), T4.out.mono (by omega), P4.out, ?_, _, G4.out, ?_⟩
            · rw [hlow]; exact HL3.out
            · rw [hlow]; exact O4.out
          have hl := HL3.out
          obtain ⟨m, hm⟩ : ∃ m, m = (low r s).length := ⟨_, rfl⟩
          rw [← hm] at hl z4
          have t1 : decide ((1024 : Int) < (m : Int)) = false := decide_eq_false (by omega)
          have t2 : decide (1024 < m) = false := decide_eq_false (by omega)
          clear hm hlow yes no O4 G4
          gi_wp2
          exact IN.out
        · have hwth := yes.out rfl
          have PW := pwith_any (s := mk s T) O4.out (by omega) (fun x hx => by have := (low_fine s HCh.out.1).all x hx; unfold Ok at this; omega) (by have := HL3.out; omega)
          rw [← hwth, mk_f (by omega), mk_t (by omega)] at PW
          have PW' := Lib.hid PW
          clear hwth PW
          gi_wp2_with fail
          refine ⟨trivial, (CallsIn.inRound _ (callsIn_wide.2 PW'.out)).mono ?_⟩
          rintro e W5 ⟨v5, rfl, o5, g5⟩
          have b5 : Below (wo.heap.size + 5) W4 W5 := (Below.refl _ _).grown g5 (by omega) (fun k hk => (O4.out.lt k hk).1)
          have P5 := P4.out.below b5 (by omega)
          have G5 := (b5.block wo.heap.size (by omega)).trans G4.out
          have b35 := T4.out.trans b5
          have hlr := low_len r (T + 1)
          obtain ⟨o5o, c5, rfl⟩ := Sees.shape (Sees.own o5)
          obtain ⟨m, hm⟩ : ∃ m, m = (low r (T + 1)).length := ⟨_, rfl⟩
          rw [← hm] at o5 hlr
          have HM := Lib.hid hm
          rw [← hm]
          have X6 : Hid (Pre w.heap.size gc (.slice ao la ac) (.slice bo lb bc) w (W5.setCell ⟨wo.heap.size, 0, none⟩ (.slice o5o m c5)) ∧ (W5.setCell ⟨wo.heap.size, 0, none⟩ (.slice o5o m c5)).heap[wo.heap.size]? = some (.cells #[.slice o5o m c5] 48) ∧
              (W5.setCell ⟨wo.heap.size, 0, none⟩ (.slice o5o m c5)).ownsRow (wo.heap.size + 5) 53 2 (.slice o5o m c5) m (sps (low r (T + 1))) ∧ Three (wo.heap.size + 2) W3 (W5.setCell ⟨wo.heap.size, 0, none⟩ (.slice o5o m c5)) ∧ Below w.heap.size W3 (W5.setCell ⟨wo.heap.size, 0, none⟩ (.slice o5o m c5))) := by
            refine ⟨P5.below ((Below.refl (w.heap.size + 4) W5).setCell (p := ⟨wo.heap.size, 0, none⟩) (by simp; omega) _) (Nat.le_refl _), heap_setCell_same _ _ 0 _ _ _ G5, ownsRow_setCell_below o5 (by simp) _, fun k h1 h2 => ?_, (b35.mono (by omega)).setCell (p := ⟨wo.heap.size, 0, none⟩) (by simp; omega) _⟩
            rw [heap_setCell_other _ _ _ _ (show k ≠ wo.heap.size by omega)]
            exact b35.block k (by omega)
          clear z2 z3 z4 z5
          obtain ⟨z4, z5⟩ := one_blk G5
          obtain ⟨p2, p3⟩ := one_blk P5.2.2.1
          obtain ⟨p4, p5⟩ := one_blk P5.2.2.2.1
          have n1 : ¬ wo.heap.size = w.heap.size + 1 := by omega
          have n2 : ¬ wo.heap.size = w.heap.size + 2 := by omega
          have n3 : ¬ w.heap.size + 1 = wo.heap.size := by omega
          have n4 : ¬ w.heap.size + 2 = wo.heap.size := by omega
          clear o5 g5 b5 P5 G5 b35 hm P4 G4 O4 T4 PW' yes no old5
          by_cases hbig : 1024 < m
          · have t1 : decide ((1024 : Int) < (m : Int)) = true := decide_eq_true (by omega)
            have t2 : decide (1024 < m) = true := decide_eq_true hbig
            have IN : Hid (Three (wo.heap.size + 2) W3 (put2 w.heap.size (W5.setCell ⟨wo.heap.size, 0, none⟩ (.slice o5o m c5)) (.slice none 0 0) 4) ∧ InvX w.heap.size w r (put2 w.heap.size (W5.setCell ⟨wo.heap.size, 0, none⟩ (.slice o5o m c5)) (.slice none 0 0) 4)) := by
              have hb := put2_blk (v := .slice none 0 0) (c := 4) X6.out.1.2.2.1 X6.out.1.2.2.2.1
              exact ⟨fun k h1 h2 => (put2_far _ _ (by omega)).trans (X6.out.2.2.2.1 k h1 h2), by omega, put2_below _ _ X6.out.1.1 (by omega), hb.1, hb.2⟩
            clear X6
            gi_wp2
            exact IN.out
          · have t1 : decide ((1024 : Int) < (m : Int)) = false := decide_eq_false (by omega)
            have t2 : decide (1024 < m) = false := decide_eq_false hbig
            have IN : Hid (Three (wo.heap.size + 2) W3 (W5.setCell ⟨wo.heap.size, 0, none⟩ (.slice o5o m c5)) ∧ Below w.heap.size W3 (W5.setCell ⟨wo.heap.size, 0, none⟩ (.slice o5o m c5)) ∧ Inv w.heap.size wo.heap.size gc (.slice ao la ac) (.slice bo lb bc) w r (T + 1) (W5.setCell ⟨wo.heap.size, 0, none⟩ (.slice o5o m c5))) := by
              refine ⟨X6.out.2.2.2.1, X6.out.2.2.2.2, X6.out.1, by rw [← HM.out]; omega, _, X6.out.2.1, ?_⟩
              rw [← HM.out]; exact X6.out.2.2.1
            clear X6
            gi_wp2
            exact IN.out
      case done =>
        intro W hI hD
        obtain ⟨hP3, hl, o, hG3, hO3⟩ := hI
        rw [low_all HCh.out.1] at hl hO3
        have hto := HTo.out
        unfold told at hto
        rw [if_neg (by omega)] at hto
        obtain ⟨rfl, rfl⟩ : r = L ∧ (0 : Int) = c := Prod.mk.inj hto
        obtain ⟨oo, oc, rfl⟩ := Sees.shape (Sees.own hO3)
        obtain ⟨m, hm⟩ : ∃ m, m = r.length := ⟨_, rfl⟩
        rw [← hm] at hO3 hG3
        have HM := Lib.hid hm
        have FB : Hid (Below w.heap.size w (put2 w.heap.size W (.slice oo m oc) 0)) := put2_below _ _ hP3.1 (by omega)
        have FD : Hid ((put2 w.heap.size W (.slice oo m oc) 0).heap[wo.heap.size + 2]? = some (.deferred (some []))) := (put2_far _ _ (by omega)).trans hD
        have FO := Lib.hid (put2_own (N := w.heap.size) (.slice oo m oc) 0 hO3 (by omega))
        have FC := Lib.hid (put2_blk (v := .slice oo m oc) (c := 0) hP3.2.2.1 hP3.2.2.2.1)
        obtain ⟨z4, z5⟩ := one_blk hG3
        obtain ⟨p2, p3⟩ := one_blk hP3.2.2.1
        obtain ⟨p4, p5⟩ := one_blk hP3.2.2.2.1
        clear hP3 hl hG3 hO3 hD hto hm I0 IT
        gi_wp2
        refine ⟨by simp, .inl ⟨_, _, rfl, run_takeDeferred FD.out, ?_⟩⟩
        have c1 := (one_blk ((World.putObj_heap_other (w := put2 w.heap.size W (.slice oo m oc) 0) (r := wo.heap.size + 2) (o := .deferred none) (k := w.heap.size + 1) (by omega)).trans FC.out.1)).1
        have c2 := (one_blk ((World.putObj_heap_other (w := put2 w.heap.size W (.slice oo m oc) 0) (r := wo.heap.size + 2) (o := .deferred none) (k := w.heap.size + 2) (by omega)).trans FC.out.2)).1
        have FE : Done r 0 w (.returned (.tuple #[.slice oo m oc, .int .i64 0])) ((put2 w.heap.size W (.slice oo m oc) 0).putObj (wo.heap.size + 2) (.deferred none)) := by
          refine ⟨oo, oc, by rw [HM.out], ?_, FB.out.trans (belowK_b (w := w) (Nat.le_refl _) _ _ _ _ (by omega) FD.out rfl rfl)⟩
          have h1 := own_base (ownsRow_putObj FO.out (.deferred none) FD.out rfl) (show w.heap.size ≤ wo.heap.size + 5 by omega)
          rw [← HM.out]
          exact h1
        refine ⟨.tuple #[.slice oo m oc, .int .i64 0], ?_, FE⟩
        unfold put2 at c1 c2
        simp [results, Try.f82, go_sem, c1, c2]
      case stop =>
        intro W hI hD
        obtain ⟨hl, hB3, h1, h2⟩ := hI
        have hto := HTo.out
        unfold told at hto
        rw [if_pos hl] at hto
        obtain ⟨rfl, rfl⟩ : [] = L ∧ (4 : Int) = c := Prod.mk.inj hto
        have HD := Lib.hid hD
        have HB3 := Lib.hid hB3
        have H1 := Lib.hid h1
        have H2 := Lib.hid h2
        clear hl hB3 h1 h2 hto I0 IT hD
        gi_wp2
        refine ⟨by simp, .inl ⟨_, _, rfl, run_takeDeferred HD.out, ?_⟩⟩
        have c1 := (one_blk ((World.putObj_heap_other (w := W) (r := wo.heap.size + 2) (o := .deferred none) (k := w.heap.size + 1) (by omega)).trans H1.out)).1
        have c2 := (one_blk ((World.putObj_heap_other (w := W) (r := wo.heap.size + 2) (o := .deferred none) (k := w.heap.size + 2) (by omega)).trans H2.out)).1
        refine ⟨.tuple #[.slice none 0 0, .int .i64 4], ?_, none, 0, rfl, World.ownsRow_nil _ _ _ _, HB3.out.trans (belowK_b (w := w) (Nat.le_refl _) _ _ _ _ (by omega) HD.out rfl rfl)⟩
        simp [results, Try.f82, go_sem, c1, c2]
end Go.Proofs.Ytmgdbgloacbacaa.Spans

/- octavo/span: what each answers. Conditions: the slices' cells are spans. -/
namespace Go.Proofs.Ytmgdbgloacbacaa.Spans
open Go.RowKit Go.Shelf
attribute [local go_sem ↓] Go.wp_at_zero Go.wp_at_succ

theorem pJoin_any {v u : Value} {a b : List Sp} {w : World} (hv : Sps w v a) (hu : Sps w u b) :
    Calls Try.prog 67 #[v, u] w (Done (joins a b).1 (joins a b).2 w) := by
  obtain ⟨L, c, hd⟩ : ∃ L c, joins a b = (L, c) := ⟨_, _, rfl⟩
  rw [hd]
  have C := Lib.hid (chosen_any (ch := fun x y => x || y) (r := both a b) (L := L) (c := c) (enters_of Try.func83 (by kernel_rfl) rfl) joinOne_any hv hu
    (fun h => by unfold joins at hd; rw [if_neg h] at hd; exact ⟨(Prod.mk.inj hd).1.symm, (Prod.mk.inj hd).2.symm⟩)
    (fun h1 h2 => ⟨chosen_both ((mayB_iff a).1 h1).1 ((mayB_iff b).1 h2).1, by unfold joins at hd; rwa [if_pos ⟨h1, h2⟩] at hd⟩))
  simp only
  clear hv hu hd
  go_enter Try.func67, Try.ntmps67
  go_wp2_with fail
  refine C.out.mono ?_
  rintro e w1 ⟨ao, cap, rfl, o1, b1⟩
  have O1 := Lib.hid o1
  clear o1
  go_wp2
  go_ret2
  exact ⟨ao, cap, rfl, O1.out, b1⟩
theorem mayB_one (f t : Nat) : mayB [mk f t] = decide (Ok (mk f t)) := by
  unfold mayB fineB
  simp
end Go.Proofs.Ytmgdbgloacbacaa.Spans
