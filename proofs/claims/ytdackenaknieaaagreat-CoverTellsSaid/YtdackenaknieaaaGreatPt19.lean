/- Sets of times, cut off below a time; two of them gone through side by side, stretch by stretch. Conditions: the spans may be. -/
import Derived.Shelf.Abstract
import Derived.RangeFuncBox
import Derived.RangeFuncLeaves
import Derived.RangeFuncNested
import Derived.RangeFuncBound
import Derived.RangeFuncCalls
import Derived.OwnWalkIn
import Derived.TacticsInMore
import Derived.LoopNIn
import Derived.LoopIn
import Derived.Maps.Own
import Derived.Maps.OwnOps
import Derived.Maps.Views
import Derived.Test.YtdackenaknieaaaGreatPt08
import Derived.Test.YtdackenaknieaaaGreatPt11
import Derived.Test.YtdackenaknieaaaGreatPt01
import Derived.Test.YtdackenaknieaaaGreatPt18
import Derived.Test.YtdackenaknieaaaGreatPt12
import Derived.Test.YtdackenaknieaaaGreatPt16
import Derived.Test.YtdackenaknieaaaGreatPt17

namespace Go.Proofs.YtdackenaknieaaaGreat.Spans

/-! ### A stretch behind spans -/

theorem nil_or_snoc {α : Type} (l : List α) : l = [] ∨ ∃ m x, l = m ++ [x] := by
  rcases List.eq_nil_or_concat l with h | ⟨m, x, h⟩
  · exact .inl h
  · exact .inr ⟨m, x, by rw [h, List.concat_eq_append]⟩
theorem fine_last : ∀ {l : List Sp} {x : Sp}, Fine (l ++ [x]) → ∀ a ∈ l, a.t + 2 ≤ x.f
  | [], _, _, a, ha => by simp at ha
  | y :: l, x, h, a, ha => by
    rw [List.cons_append] at h
    rw [List.mem_cons] at ha
    rcases ha with rfl | ha
    · exact h.far x (by simp)
    · exact fine_last h.tail a ha
theorem fine_snoc_ok {l : List Sp} {x : Sp} (h : Fine (l ++ [x])) : Ok x := h.all x (by simp)
/-! ### What is ahead of a time no more -/

def upf : List Sp → Nat → List Sp
  | [], _ => []
  | x :: l, n => if x.t < n then l else x :: l
def nxt : List Sp → Nat → Bool × Nat
  | [], _ => (false, 1073741824)
  | x :: _, n => if n < x.f then (false, x.f - 1) else (true, x.t)
theorem upf_cons (x : Sp) (l : List Sp) (n : Nat) : upf (x :: l) n = if x.t < n then l else x :: l := rfl
theorem nxt_cons (x : Sp) (l : List Sp) (n : Nat) : nxt (x :: l) n = if n < x.f then (false, x.f - 1) else (true, x.t) := rfl
/-- What of spans is left where all below a time has come: the last one that came may still be there. -/
def Rest (l p : List Sp) (n : Nat) : Prop := Fine p ∧ (∀ m, n ≤ m → (In l m ↔ In p m)) ∧ ∀ x ∈ p, n ≤ x.t + 1
def Rest1 (l p : List Sp) (n : Nat) : Prop := Fine p ∧ (∀ m, n ≤ m → (In l m ↔ In p m)) ∧ ∀ x ∈ p, n ≤ x.t
theorem Rest.up {l p : List Sp} {n : Nat} (h : Rest l p n) : Rest1 l (upf p n) n := by
  obtain ⟨h1, h2, h3⟩ := h
  cases p with
  | nil => exact ⟨trivial, h2, fun x hx => by simp [upf] at hx⟩
  | cons x p =>
    have hx := h1.head
    unfold Ok at hx
    have hn := h3 x (by simp)
    rw [upf_cons]
    by_cases g : x.t < n
    · rw [if_pos g]
      refine ⟨h1.tail, fun m hm => ?_, fun y hy => ?_⟩
      · rw [h2 m hm, in_cons]
        constructor
        · rintro (h4 | h4)
          · omega
          · exact h4
        · exact .inr
      · have h4 := h1.far y hy
        have h5 := h1.tail.all y hy
        unfold Ok at h5
        omega
    · rw [if_neg g]
      refine ⟨h1, h2, fun y hy => ?_⟩
      rw [List.mem_cons] at hy
      rcases hy with rfl | hy
      · omega
      · have h4 := h1.far y hy
        have h5 := h1.tail.all y hy
        unfold Ok at h5
        omega
theorem Rest1.next {l p : List Sp} {n : Nat} (h : Rest1 l p n) (hn : n ≤ 1073741824) : n ≤ (nxt p n).2 ∧ (nxt p n).2 ≤ 1073741824 ∧
    (∀ m, n ≤ m → m ≤ (nxt p n).2 → inB l m = (nxt p n).1) ∧ ∀ s, n ≤ s → s ≤ (nxt p n).2 → Rest l p (s + 1) := by
  obtain ⟨h1, h2, h3⟩ := h
  have hin : ∀ m, n ≤ m → (inB l m = true ↔ In p m) := fun m hm => (inB_iff l m).trans (h2 m hm)
  have hno : ∀ m, n ≤ m → ¬ In p m → inB l m = false := fun m hm h => by
    cases hb : inB l m
    · rfl
    · exact absurd ((hin m hm).1 hb) h
  cases p with
  | nil =>
    refine ⟨hn, Nat.le_refl _, fun m hm _ => hno m hm (in_nil m), fun s hs _ => ⟨trivial, fun m hm => h2 m (by omega), fun x hx => by simp at hx⟩⟩
  | cons x p =>
    have hx := h1.head
    unfold Ok at hx
    have hxn := h3 x (by simp)
    have hall : ∀ y ∈ x :: p, x.t ≤ y.t := fun y hy => by
      rw [List.mem_cons] at hy
      rcases hy with rfl | hy
      · exact Nat.le_refl _
      · have h4 := h1.far y hy
        have h5 := h1.tail.all y hy
        unfold Ok at h5
        omega
    rw [nxt_cons]
    by_cases g : n < x.f
    · rw [if_pos g]
      refine ⟨by simp only; omega, by simp only; omega, fun m hm h4 => hno m hm (fun h5 => ?_), fun s hs h4 => ⟨h1, fun m hm => h2 m (by omega), fun y hy => ?_⟩⟩
      · simp only at h4
        rcases in_cons.1 h5 with h6 | h6
        · omega
        · have := in_far h1 h6; omega
      · have := hall y hy
        simp only at h4
        omega
    · rw [if_neg g]
      refine ⟨hxn, hx.2.2, fun m hm h4 => (hin m hm).2 (in_cons.2 (.inl ⟨by omega, h4⟩)), fun s hs h4 => ⟨h1, fun m hm => h2 m (by omega), fun y hy => ?_⟩⟩
      have := hall y hy
      simp only at h4
      omega

/-! ### A stretch of two, chosen by which of them have it -/

/-! ### What is left, said of the whole -/
end Go.Proofs.YtdackenaknieaaaGreat.Spans

/- octavo/span: Check, Count, Twin, Same: what each answers. Conditions: the slices' cells are spans. -/
namespace Go.Proofs.YtdackenaknieaaaGreat.Spans
open Go.RowKit
attribute [local go_sem ↓] Go.wp_at_zero Go.wp_at_succ

end Go.Proofs.YtdackenaknieaaaGreat.Spans

/- octavo/span: Has with what it calls, the two choosers, upFrom, next, with, stretches: what each answers. Conditions: the slices' cells are spans. -/
namespace Go.Proofs.YtdackenaknieaaaGreat.Spans
open Go.RowKit Go.Shelf
attribute [local go_sem ↓] Go.wp_at_zero Go.wp_at_succ

/-! ### Has -/
/-! ### The choosers -/
/-! ### What is left, and the next stretch of one -/
end Go.Proofs.YtdackenaknieaaaGreat.Spans

/- octavo/span.with: what it answers. Conditions: the row is the call's own and holds spans that end at MaxTime at the most. -/
namespace Go.Proofs.YtdackenaknieaaaGreat.Spans
open Go.RowKit Go.Shelf
attribute [local go_sem ↓] Go.wp_at_zero Go.wp_at_succ

theorem grown_draw {a b : World} {row : Option Nat} (h : a.grownBy b row) (n : Nat) : a.grownBy (b.drewN n) row := ⟨h.os, h.tape, h.output, h.size, h.block⟩
theorem sps_set_last (l : List Sp) (x : Sp) (t : Nat) (ht : t < 4294967296) : (sps (l ++ [x])).set (l.length * 2 + 1) (.int .u32 (t : Int)) = sps (l ++ [mk x.f t]) := by
  rw [sps_append, sps_append, List.set_append_right _ _ (by rw [sps_len]; omega), sps_len]
  congr 1
  rw [show l.length * 2 + 1 - l.length * 2 = 1 by omega]
  simp only [sps, mk_f x.hf, mk_t ht, List.set_cons_succ, List.set_cons_zero]

end Go.Proofs.YtdackenaknieaaaGreat.Spans

/- A range over a function whose iterator has cells of its own in one block, laid when it is called: the caller's side. Conditions: the loop's body goes on, or returns; it turns neither the loop's two blocks nor the iterator's one. -/
namespace Go.Proofs.YtdackenaknieaaaGreat
open Go Go.RowKit Go.Shelf

/-- What is said of a world that stays so where one of three blocks side by side turns, and where new ones come. -/
def Rides (H : Nat) (I : World → Prop) : Prop := ∀ A B r, I A → H ≤ r → r ≤ H + 2 → A.grownBy B (some r) → I B
theorem Rides.put {H : Nat} {I : World → Prop} (h : Rides H I) {W : World} {r : Nat} (o : Obj) (hi : I W) (h1 : H ≤ r) (h2 : r ≤ H + 2) : I (W.putObj r o) := h _ _ r hi h1 h2 (grownBy_putObj' W r o)
theorem Rides.new {H : Nat} {I : World → Prop} (h : Rides H I) {W : World} (o : Obj) (hi : I W) : I (W.alloc o) := h _ _ H hi (Nat.le_refl _) (by omega) (World.grownBy_alloc W o _)

end Go.Proofs.YtdackenaknieaaaGreat

/- octavo/span.stretches, its iterator: what it hands to each round, and in which order. Conditions: the spans may be; the rounds leave the iterator's own block. -/
namespace Go.Proofs.YtdackenaknieaaaGreat.Spans
open Go.RowKit Go.Shelf
attribute [local go_sem ↓] Go.wp_at_zero Go.wp_at_succ

/-- Spans in memory that was there ahead. -/
def Low (B : Nat) (w : World) (v : Value) (l : List Sp) : Prop := Sps w v l ∧ (l = [] ∨ ∀ b, v.ownBlock = some b → b < B)
theorem Low.keeps {B : Nat} {w w' : World} {v : Value} {l : List Sp} (h : Low B w v l) (hb : Below B w w') : Low B w' v l := by
  refine ⟨?_, h.2⟩
  rcases h.2 with rfl | h2
  · obtain ⟨⟨h1, ao, cap, h3, h4, h5, h6, _⟩, _⟩ := h
    exact ⟨h1, ao, cap, h3, h4, h5, h6, .inl rfl⟩
  · exact Sees.stays h.1 hb.size (fun _ _ _ he => World.cell?_of_block (hb.block _ (h2 _ he)))
end Go.Proofs.YtdackenaknieaaaGreat.Spans

/- octavo/span.chosen: what it answers. Conditions: the chooser answers what it is asked for; the slices' cells are spans. -/
namespace Go.Proofs.YtdackenaknieaaaGreat.Spans
open Go.RowKit Go.Shelf
attribute [local go_sem ↓] Go.wp_at_zero Go.wp_at_succ
attribute [local go_sem] Oper.semAt_some

/-- The two results stored. -/
def put2 (N : Nat) (W : World) (v : Value) (c : Int) : World := (W.setCell ⟨N + 1, 0, none⟩ v).setCell ⟨N + 2, 0, none⟩ (.int .i64 c)
theorem put2_below {N B : Nat} {w W : World} (v : Value) (c : Int) (h : Below B w W) (hB : B ≤ N + 1) : Below B w (put2 N W v c) :=
  (h.setCell (p := ⟨N + 1, 0, none⟩) hB _).setCell (p := ⟨N + 2, 0, none⟩) (by simp; omega) _
end Go.Proofs.YtdackenaknieaaaGreat.Spans

/- octavo/span: what each answers. Conditions: the slices' cells are spans. -/
namespace Go.Proofs.YtdackenaknieaaaGreat.Spans
open Go.RowKit Go.Shelf
attribute [local go_sem ↓] Go.wp_at_zero Go.wp_at_succ

end Go.Proofs.YtdackenaknieaaaGreat.Spans

/- octavo/clock: Check, Count, Top, and stamp.Check: what each answers. Conditions: the slices' cells are replicas' spans. -/
namespace Go.Proofs.YtdackenaknieaaaGreat.Clocks
open Go.RowKit Go.Proofs.YtdackenaknieaaaGreat.Spans
attribute [local go_sem ↓] Go.wp_at_zero Go.wp_at_succ

def chkI (a : Id) : Int := if mayI a then 0 else 8
theorem stCheck_any (a : Id) (w : World) :
    Calls Tryz.prog 82 #[idv a] w fun e w' => e = .returned (.int .i64 (chkI a)) ∧ Below w.heap.size w w' := by
  obtain ⟨t, r, ht, hr⟩ := a
  unfold idv
  simp only
  obtain ⟨c, hc⟩ : ∃ c, c = chkI ⟨t, r, ht, hr⟩ := ⟨_, rfl⟩
  rw [← hc]
  have q : (decide ((t : Int) < 1) = true ∧ c = 8) ∨ (decide ((t : Int) < 1) = false ∧ decide ((1073741824 : Int) < (t : Int)) = true ∧ c = 8) ∨
      (decide ((t : Int) < 1) = false ∧ decide ((1073741824 : Int) < (t : Int)) = false ∧ decide ((8 : Int) ≤ (r : Int)) = true ∧ c = 8) ∨
      (decide ((t : Int) < 1) = false ∧ decide ((1073741824 : Int) < (t : Int)) = false ∧ decide ((8 : Int) ≤ (r : Int)) = false ∧ c = 0) := by
    rw [hc]
    unfold chkI mayI
    simp only
    by_cases h1 : t < 1
    · exact .inl ⟨decide_eq_true (by omega), if_neg (by omega)⟩
    · by_cases h2 : 1073741824 < t
      · exact .inr (.inl ⟨decide_eq_false (by omega), decide_eq_true (by omega), if_neg (by omega)⟩)
      · by_cases h3 : 8 ≤ r
        · exact .inr (.inr (.inl ⟨decide_eq_false (by omega), decide_eq_false (by omega), decide_eq_true (by omega), if_neg (by omega)⟩))
        · exact .inr (.inr (.inr ⟨decide_eq_false (by omega), decide_eq_false (by omega), decide_eq_false (by omega), if_pos (by omega)⟩))
  clear hc
  rcases q with ⟨q1, rfl⟩ | ⟨q1, q2, rfl⟩ | ⟨q1, q2, q3, rfl⟩ | ⟨q1, q2, q3, rfl⟩
  all_goals
    go_enter Tryz.func82, Tryz.ntmps82
    go_wp2
    go_ret
    exact ⟨rfl, (Below.refl _ _).alloc (Nat.le_refl _) _⟩

end Go.Proofs.YtdackenaknieaaaGreat.Clocks

/- A map from bytes to values of any type, as a function from numbers to values. Conditions: none. -/
namespace Go.Proofs.YtdackenaknieaaaGreat
open Go.RowKit Go.WideShapes
open Go.Maps (Keyed int_keyed IsMap keyOf_int_mk)

/-- A value as a token: every value reads so. -/
def tokR (v : Value) : Option (DataW Value × List MemPlace) := some (.held v, [])
theorem u8law : Keyed Tryz.prog 5 := int_keyed Tryz.underlying5
theorem u8wf {r : Nat} (h : r < 256) : (Lit.int .u8 (r : Int)).wf = true := by
  have h1 : IntKind.u8.min = 0 := by decide
  have h2 : IntKind.u8.max = 255 := by decide
  simp [Lit.wf, h1, h2]
  omega
theorem u8key {r : Nat} (h : r < 256) : keyOf Tryz.prog 5 (.int .u8 (r : Int)) = some (.int .u8 (r : Int)) := keyOf_int_mk Tryz.underlying5 (u8wf h)
/-- Block b is a map of at most n entries; where M is none it has no entry. -/
def MapV (w : World) (b n : Nat) (M : Nat → Option Value) : Prop :=
  ∃ D : DataW Value, w.ownsMap Tryz.prog 5 tokR b n D ∧ IsMap D ∧ ∀ r : Nat, r < 256 → ∀ z, D.atKey (.int .u8 (r : Int)) (.held z) = .held ((M r).getD z)
theorem MapV.made (w : World) : MapV (w.alloc (.map #[] 0)) w.heap.size 0 (fun _ => none) := ⟨_, World.ownsMap_made w _ _ _, Maps.isMap_empty, fun _ _ _ => rfl⟩
theorem MapV.keeps {w w' : World} {b n : Nat} {M : Nat → Option Value} (h : MapV w b n M) (hb : Below w.heap.size w w') : MapV w' b n M := by
  obtain ⟨D, ⟨es, clock, h1, h2, h3, h4⟩, h5, h6⟩ := h
  exact ⟨D, ⟨es, clock, (hb.block b (Array.getElem?_eq_some_iff.1 h1).1).trans h1, h2, h3, h4⟩, h5, h6⟩
theorem MapV.other {w w' : World} {b n : Nat} {M : Nat → Option Value} (h : MapV w b n M) (hb : w'.heap[b]? = w.heap[b]?) : MapV w' b n M := by
  obtain ⟨D, ⟨es, clock, h1, h2, h3, h4⟩, h5, h6⟩ := h
  exact ⟨D, ⟨es, clock, hb.trans h1, h2, h3, h4⟩, h5, h6⟩
theorem MapV.lt {w : World} {b n : Nat} {M : Nat → Option Value} (h : MapV w b n M) : b < w.heap.size := by
  obtain ⟨D, h1, _⟩ := h
  exact h1.lt
theorem MapV.run {w : World} {b n : Nat} {M : Nat → Option Value} (h : MapV w b n M) {t e : TypeId} (ht : Tryz.prog.underlying t = some (.map 5 e)) {z : Value} (hz : (zeroValue e).run Tryz.prog w = .ok z w) {r : Nat} (hr : r < 256) :
    (Instr.lookup t (.map (some b)) (.int .u8 (r : Int)) false).run Tryz.prog w = .ok ((M r).getD z) w := by
  obtain ⟨D, h1, h2, h3⟩ := h
  obtain ⟨v, ps, hrun, hv⟩ := h1.lookup u8law ht hz (zd := .held z) (zp := []) rfl (u8key hr)
  rw [h3 r hr] at hv
  have : v = (M r).getD z := by
    have := (Prod.mk.inj (Option.some.inj hv)).1
    exact DataW.held.inj this
  rw [← this]
  exact hrun
theorem MapV.put {w' : World} {b n : Nat} {M : Nat → Option Value} {D : DataW Value} {r : Nat} {v : Value} (hD : IsMap D) (hat : ∀ r : Nat, r < 256 → ∀ z, D.atKey (.int .u8 (r : Int)) (.held z) = .held ((M r).getD z))
    (h : w'.ownsMap Tryz.prog 5 tokR b n (D.put (.int .u8 (r : Int)) (.held v))) : MapV w' b n (fun k => if k = r then some v else M k) := by
  refine ⟨_, h, hD.put _ _, fun k hk z => ?_⟩
  by_cases hkr : k = r
  · subst hkr
    rw [Maps.atKey_put_same hD (show WideAt.IsKeyLit (.int .u8 (k : Int)) from trivial)]
    simp
  · rw [Maps.atKey_put_other (by intro h; injection h with _ h; omega), hat k hk]
    simp [hkr]
/-- A look-up, at the operation. -/
theorem wpList_lookup_v (w : World) {ops : Array Oper} {rest : List Oper} {o : Oper} {a : Act} {Q : Exit → Act → World → Prop}
    (hg : o.guard = none) (m x : Operand) (t e : TypeId) (hop : o.op = Op.lookup t m x false) (ht : Tryz.prog.underlying t = some (.map 5 e)) (z : Value) (hz : (zeroValue e).run Tryz.prog w = .ok z w)
    (b n r : Nat) (M : Nat → Option Value) (hM : MapV w b n M) (hm : a.eval m = .map (some b)) (hx : a.eval x = .int .u8 (r : Int)) (hr : r < 256)
    (hK : wpList Tryz.prog ops Q rest (a.put o.dst ((M r).getD z)) w) : wpList Tryz.prog ops Q (o :: rest) a w := by
  refine wpList_plain hg fun K' hK' => ?_
  have hrun := hM.run ht hz hr
  unfold Oper.wp
  simp [execOp, hop, hm, hx, hrun, Result.andThen]
  exact hK' _ _ hK
end Go.Proofs.YtdackenaknieaaaGreat

/- octavo/clock: byReplica and told: what each answers. Conditions: the clock may be; the function that is told answers spans of its own. -/
namespace Go.Proofs.YtdackenaknieaaaGreat.Clocks
open Go.RowKit Go.Proofs.YtdackenaknieaaaGreat.Spans
attribute [local go_sem ↓] Go.wp_at_zero Go.wp_at_succ

/-! ### told -/
/-- What lies below B stays, and what has come from H on. -/
def Apart (B H : Nat) (w w' : World) : Prop := Below B w w' ∧ ∀ j, H ≤ j → j < w.heap.size → w'.heap[j]? = w.heap[j]?
theorem Apart.of {B H : Nat} {w w' : World} (h : Below w.heap.size w w') (hB : B ≤ w.heap.size) : Apart B H w w' := ⟨h.mono hB, fun j _ hj => h.block j hj⟩
theorem own_apart {B H sz n : Nat} {w w' : World} {e : TypeId} {v : Value} {cs : List Value} (h : w.ownsRow H e sz v n cs) (ha : Apart B H w w') : w'.ownsRow H e sz v n cs := by
  refine ⟨h.1, ?_⟩
  rcases h.2 with h0 | ⟨g, cap, cur, rfl, h1, hg, h2⟩
  · exact .inl h0
  · exact .inr ⟨g, cap, cur, rfl, h1, (ha.2 g h1 (Array.getElem?_eq_some_iff.1 hg).1).trans hg, h2⟩
theorem holdO_apart {B H : Nat} {w w' : World} (ha : Apart B H w w') : ∀ {cs : List Value} {c : List Tm}, HoldO w H cs c → HoldO w' H cs c
  | [], [], _ => trivial
  | _ :: _ :: _, _ :: _, h => ⟨h.1, h.2.1, own_apart h.2.2.1 ha, holdO_apart ha h.2.2.2⟩
theorem ownC_apart {B H : Nat} {w w' : World} {v : Value} {c : List Tm} (h : OwnC w H v c) (ha : Apart B H w w') : OwnC w' H v c := by
  obtain ⟨cs, h1, h2⟩ := h
  exact ⟨cs, own_apart h1 ha, holdO_apart ha h2⟩

set_option maxRecDepth 100000 in
set_option maxHeartbeats 4000000 in
theorem told_any {gf : Nat} {lb : Array Value} (eg : ∀ args w, (callFunc gf args).run Tryz.prog w = .ok (.enter gf args) w) {B : Nat} {w : World} (g : Nat → List Sp) (St : Nat → World → Prop) (h0 : St 0 w) (hB : B ≤ w.heap.size)
    (hst : ∀ k W W', St k W → w.heap.size ≤ W.heap.size → Below w.heap.size W W' → St k W')
    (hcall : ∀ (k : Nat) (W : World), k < 8 → w.heap.size ≤ W.heap.size → St k W → Calls Tryz.prog gf (#[.int .u8 (k : Int)] ++ lb) W fun e w' => ∃ v', e = .returned (.tuple #[v', .int .i64 0]) ∧
      w'.ownsRow W.heap.size 102 2 v' (g k).length (sps (g k)) ∧ Apart B w.heap.size W w' ∧ St (k + 1) w') :
    Calls Tryz.prog 102 #[.func (.func gf) #[] lb] w fun e w' => ∃ v', e = .returned (.tuple #[v', .int .i64 0]) ∧ OwnC w' w.heap.size v' (clkFrom g 0 8) ∧ Below B w w' := by
  have H0 := Lib.hid h0
  have HST := Lib.hid hst
  have HCA := Lib.hid hcall
  clear h0 hst hcall
  have O0 : Hid (OwnC w w.heap.size (.slice none 0 0) (clkFrom g 0 0)) := OwnC.nil _ _
  have B0 := Lib.hid (Below.refl B w)
  go_enter Tryz.func102, Tryz.ntmps102
  go_wp2
  go_loopw [4, 8] (fun o i wr => ∃ k : Nat, k ≤ 8 ∧ i = .int .u8 (k : Int) ∧ Hid (OwnC wr w.heap.size o (clkFrom g 0 k)) ∧ Hid (St k wr) ∧ Hid (Below B w wr)) (fun _ i _ => 8 - (intOf i).toNat)
  case atStart => exact ⟨0, by omega, rfl, O0, H0, B0⟩
  case round =>
    clear O0 H0 B0
    obtain ⟨k, hk, rfl, hown, hs, hbel⟩ := hrel
    by_cases hk8 : k < 8
    · have q1 : decide ((k : Int) < 8) = true := decide_eq_true (by omega)
      have q2 : decide (k < 8) = true := decide_eq_true hk8
      have hsz := hbel.out.size
      have CA := Lib.hid (HCA.out k wr hk8 hsz hs.out)
      have hln := clkFrom_len g k 0
      have hsn := clkFrom_snoc g k 0
      rw [Nat.zero_add] at hsn
      have HSN : Hid (clkFrom g 0 (k + 1) = putC (clkFrom g 0 k) k (g k)) := hsn
      have e1 : IntKind.u8.wrap ((k : Int) + 1) = (k : Int) + 1 := by rw [IntKind.wrap_u8]; omega
      have HLN := Lib.hid hln
      clear hsn hln hs
      go_wp2_with fail
      refine CA.out.mono ?_
      rintro e w1 ⟨v1, rfl, o1, a1, s1⟩
      have hsz1 : w.heap.size ≤ w1.heap.size := Nat.le_trans hsz a1.1.size
      have OC := Lib.hid (ownC_apart hown.out a1)
      have O1 := Lib.hid (own_base o1 hsz)
      have B1 := Lib.hid (hbel.out.trans a1.1)
      have S1 := Lib.hid s1
      clear o1 a1 s1 CA hown
      obtain ⟨l, hl⟩ : ∃ l, l = g k := ⟨_, rfl⟩
      rw [← hl] at O1 HSN
      clear hl
      obtain ⟨c, hc⟩ : ∃ c, c = clkFrom g 0 k := ⟨_, rfl⟩
      rw [← hc] at OC HSN HLN
      clear hc
      obtain ⟨m, hm⟩ : ∃ m, m = l.length := ⟨_, rfl⟩
      have HM := Lib.hid hm
      rw [← hm] at O1
      obtain ⟨cs, hv1, hv2⟩ := OC.out
      obtain ⟨ao, cap, rfl⟩ := Sees.shape (Sees.own hv1)
      obtain ⟨so, sc, rfl⟩ := Sees.shape (Sees.own O1.out)
      obtain ⟨n, hn⟩ : ∃ n, n = c.length := ⟨_, rfl⟩
      have HN := Lib.hid hn
      rw [← hn] at hv1 HLN ⊢
      have hln : n ≤ 8 := by have := HLN.out; omega
      have HV1 := Lib.hid hv1
      have HV2 := Lib.hid hv2
      clear hv1 hv2 HLN
      by_cases hm0 : m = 0
      · have hl0 : l = [] := List.length_eq_zero_iff.1 (by omega)
        have e : putC c k l = c := by unfold putC; rw [if_pos hl0, List.append_nil]
        rw [e] at HSN
        have O2 : Hid (OwnC w1 w.heap.size (.slice ao n cap) (clkFrom g 0 (k + 1))) := by show OwnC _ _ _ _; rw [HSN.out]; exact ⟨cs, by rw [← HN.out]; exact HV1.out, HV2.out⟩
        have t1 : decide ((0 : Int) < (m : Int)) = false := decide_eq_false (by omega)
        have t2 : decide (0 < m) = false := decide_eq_false (by omega)
        clear hm hn e hl0 OC
        go_wp2
        go_roundw
        case rel => exact ⟨k + 1, by omega, by go_num, O2, S1, B1⟩
        case measure => simp [intOf]; omega
      · have hl0 : l ≠ [] := fun h => hm0 (by rw [hm, h]; rfl)
        have t1 : decide ((0 : Int) < (m : Int)) = true := decide_eq_true (by omega)
        have t2 : decide (0 < m) = true := decide_eq_true (by omega)
        have e : putC c k l = c ++ [(k, l)] := by unfold putC; rw [if_neg hl0]
        rw [e] at HSN
        have hlen : (c ++ [(k, l)]).length = n + 1 := by simp [hn]
        have HLEN := Lib.hid hlen
        have SE : Hid (Sees (w1.alloc (.cells #[.int .u8 (k : Int), .slice so m sc] 72)) (.slice (some ⟨w1.heap.size, 0, none⟩) 1 1) 2 1 [.int .u8 (k : Int), .slice so m sc]) := sees_new w1 [.int .u8 (k : Int), .slice so m sc] 2 1 rfl (by omega) _ _
        have BX := Lib.hid ((Below.refl w1.heap.size w1).alloc (Nat.le_refl _) (.cells #[.int .u8 (k : Int), .slice so m sc] 72))
        clear hm hn e hl0 hlen OC
        go_wp2_with (at_builtin; go_loud (refine wpList_append_sees rfl (.tmp 23) (.tmp 27) 22 72 rfl Tryz.underlying22 times_info rfl (by decide) w.heap.size _ n cs rfl (own_stays HV1.out BX.out) _ 1 _ rfl SE.out (by intro z hz; simp at hz; rcases hz with rfl | rfl <;> rfl) ?a1 ?a2 ?a3 ?_))
        case a1 => omega
        case a2 => omega
        case a3 => exact Nat.le_trans hsz1 BX.out.size
        rintro v5 w5 o5 g5 b5
        have OW : Hid (OwnC w5 w.heap.size v5 (clkFrom g 0 (k + 1))) := by
          show OwnC _ _ _ _
          rw [HSN.out]
          have hx := own_stays HV1.out BX.out
          refine ⟨cs ++ [.int .u8 (k : Int), .slice so m sc], by rw [HLEN.out]; exact o5, HoldO.append (hold_grown (HV2.out.keeps BX.out) g5 (times_row hx)) ⟨rfl, by show k < 256; omega, ?_, trivial⟩⟩
          have := own_kept_span (own_stays O1.out BX.out) hx g5
          rw [HM.out] at this
          rw [HM.out]
          exact this
        have BH : Below w.heap.size w1 w5 := (BX.out.mono hsz1).trans b5
        have BB := Lib.hid (B1.out.trans (BH.mono hB))
        have SS := Lib.hid (HST.out _ _ _ S1.out hsz1 BH)
        obtain ⟨a5, c5, rfl⟩ : ∃ ao cap, v5 = .slice ao (n + 1) cap := Sees.shape (Sees.own o5)
        clear o5 g5 b5 SE BX BH
        go_wp2
        go_roundw
        case rel => exact ⟨k + 1, by omega, by go_num, OW, SS, BB⟩
        case measure => simp [intOf]; omega
    · have q1 : decide ((k : Int) < 8) = false := decide_eq_false (by omega)
      have q2 : decide (k < 8) = false := decide_eq_false hk8
      obtain rfl : k = 8 := by omega
      go_wp2
      go_ret2
      exact ⟨_, rfl, hown.out, hbel.out⟩
end Go.Proofs.YtdackenaknieaaaGreat.Clocks

/- octavo/marks.Live: what it answers. Conditions: the slice's cells are operations. -/
namespace Go.Proofs.YtdackenaknieaaaGreat.Marks
open Go.RowKit Go.WideShapes Stamp Go.Proofs.YtdackenaknieaaaGreat.Place Ops Codes Bags
attribute [local go_sem ↓] Go.wp_at_zero Go.wp_at_succ

/-- The live marks of a list, in its order. -/
def pickM (L l : List Opn) : List Opn := l.filter (fun o => decide (o.k = 2) && !ended L (idO o))
theorem pick_yes {L l : List Opn} {x : Opn} (hk : x.k = 2) (he : ended L (idO x) = false) : pickM L (l ++ [x]) = pickM L l ++ [x] := by
  unfold pickM
  rw [List.filter_append, List.filter_cons_of_pos (by simp [hk, he])]
  rfl
theorem pick_no {L l : List Opn} {x : Opn} (h : ¬ (x.k = 2 ∧ ended L (idO x) = false)) : pickM L (l ++ [x]) = pickM L l := by
  unfold pickM
  rw [List.filter_append, List.filter_cons_of_neg (by simpa using h)]
  simp
theorem pick_is {l m : List Opn} (hl : Bag l) (hp : m.Perm (pickM l l)) (hs : m.Pairwise (fun a b => ¬ cmp b.pl a.pl < 0)) : livesM l l = m := by
  have hmem : ∀ y, y ∈ m ↔ y ∈ l ∧ y.k = 2 ∧ ended l (idO y) = false := fun y => by
    rw [hp.mem_iff]
    unfold pickM
    simp
  refine lives_ext hl (fun x hx => hl.2.1 x ((hmem x).1 hx).1) ?_ hmem
  have hd : m.Pairwise (fun a b => idO a ≠ idO b) := by
    refine (hp.pairwise_iff (fun {a b} h => Ne.symm h)).2 ?_
    unfold pickM
    exact (hl.2.2.imp (fun h => lessO_ne h)).filter _
  refine List.Pairwise.imp_of_mem ?_ (hs.and hd)
  intro a b ha hb h
  have h1 := (hmem a).1 ha
  have h2 := (hmem b).1 hb
  rcases mark_ne (hl.2.1 a h1.1) (hl.2.1 b h2.1) h1.2.1 h2.2.1 h.2 with h3 | h3
  · exact h3
  · exact absurd h3 h.1
theorem grown_apart {w w' : World} {N : Nat} (hN : N ≤ w.heap.size) (h : w.grownBy w' (some N)) : Clocks.Apart N (N + 1) w w' :=
  ⟨⟨h.os, h.tape, h.output, h.size, fun k hk => h.block k (by omega) (by intro e; injection e with e; omega)⟩, fun k h1 h2 => h.block k h2 (by intro e; injection e with e; omega)⟩
theorem holdP_apart {B H : Nat} {w w' : World} (ha : Clocks.Apart B H w w') : ∀ {cs : List Value} {l : List Opn}, HoldP w H cs l → HoldP w' H cs l
  | _, [], h => h
  | _, _ :: _, ⟨v, d, h1, h2, h3⟩ => ⟨v, d, h1, Clocks.own_apart h2 ha, holdP_apart ha h3⟩
theorem ownL_apart {B H : Nat} {w w' : World} {v : Value} {l : List Opn} (h : OwnL w H v l) (ha : Clocks.Apart B H w w') : OwnL w' H v l := by
  obtain ⟨cs, h1, h2⟩ := h
  exact ⟨cs, Clocks.own_apart h1 ha, holdP_apart ha h2⟩
/-- What is told of the map: of the stamps that are still to come it tells whether they are joined. -/
def Ahead (l : List Opn) (j : Nat) (N n : Nat) (wr : World) : Prop := ∃ S, SetI wr N n S ∧ ∀ (i : Nat) (h : i < l.length), j ≤ i → S (idO (l[i]'h)) = ended l (idO (l[i]'h))
theorem Ahead.keeps {l : List Opn} {j N n : Nat} {w w' : World} (h : Ahead l j N n w) (hb : Below w.heap.size w w') : Ahead l j N n w' := by
  obtain ⟨S, h1, h2⟩ := h
  exact ⟨S, h1.keeps hb, h2⟩
theorem Ahead.next {l : List Opn} {j N n : Nat} {w : World} (h : Ahead l j N n w) : Ahead l (j + 1) N n w := by
  obtain ⟨S, h1, h2⟩ := h
  exact ⟨S, h1, fun i hi hj => h2 i hi (by omega)⟩
theorem bag_ids {l : List Opn} (hl : Bag l) {i j : Nat} (hi : i < l.length) (hj : j < l.length) (h : j < i) : idO (l[i]'hi) ≠ idO (l[j]'hj) :=
  fun e => lessO_ne (List.pairwise_iff_getElem.1 hl.2.2 j i hj hi h) e.symm

set_option maxRecDepth 100000 in
set_option maxHeartbeats 8000000 in
theorem mLive_any {v : Value} {l : List Opn} {w : World} (hv : OpL w v l) : Calls Tryz.prog 49 #[v] w (DoneN (liveL l) (chkL l) w) := by
  have CK := Lib.hid (bCheck_any hv)
  obtain ⟨ao, cap, rfl⟩ := hv.shape
  obtain ⟨n, hn⟩ : ∃ n, n = l.length := ⟨_, rfl⟩
  have HV : Hid (∀ W : World, Below w.heap.size w W → OpL W (.slice ao l.length cap) l) := fun W h => hv.keeps h
  have HN := Lib.hid hn
  by_cases hbag : Bag l
  rotate_left
  · have e1 : chkL l = 8 := chkL_no hbag
    have e2 : liveL l = [] := by unfold liveL; rw [bagB_no hbag]; rfl
    rw [e1] at CK ⊢
    rw [e2]
    rw [← hn] at CK ⊢
    clear hv hn e1 e2
    go_enter Tryz.func49, Tryz.ntmps49
    go_wp2_with fail
    refine CK.out.mono ?_
    rintro e w1 ⟨rfl, b1⟩
    have B1 := Lib.hid b1
    clear b1
    go_wp2
    go_ret2
    exact ⟨_, rfl, OwnL.nil _ _, B1.out⟩
  have e1 : chkL l = 0 := chkL_yes hbag
  have e2 : liveL l = livesM l l := by unfold liveL; rw [(bagB_iff l).2 hbag]; rfl
  have HB := Lib.hid hbag
  rw [e1] at CK ⊢
  rw [e2]
  have JI : Hid (∀ W : World, Below w.heap.size w W → Calls Tryz.prog 88 #[.slice ao l.length cap] W fun e w' => e = .returned (.map (some W.heap.size)) ∧ Ahead l 0 W.heap.size n w' ∧ Below W.heap.size W w') := fun W h => by
    refine (joinedIn_any (hv.keeps h) hbag.2.1 hbag.1).mono ?_
    rintro e w' ⟨rfl, h1, h2⟩
    exact ⟨rfl, ⟨_, by rw [HN.out]; exact h1, fun _ _ _ => rfl⟩, h2⟩
  have SO : Hid (∀ (W : World) (v : Value) (base : Nat), OwnL W base v (pickM l l) → base ≤ W.heap.size → Calls Tryz.prog 90 #[v, .func (.func 91) #[] #[]] W fun e w' => e = .returned (.tuple #[]) ∧ OwnL w' base v (livesM l l) ∧ Below base W w') := fun W v base h hB => by
    refine (sortL_any h (fun o ho => anyB_may (mayO_parts (hbag.2.1 o (List.mem_filter.1 ho).1)).2.1) (by have h1 := hbag.1; have h2 : (pickM l l).length ≤ l.length := List.length_filter_le _ _; omega)).mono ?_
    rintro e w' ⟨rfl, l', h1, h2, h3, h4⟩
    rw [pick_is hbag h1 h2]
    exact ⟨rfl, h3, h4⟩
  have hnm : n ≤ 1024 := by rw [hn]; exact hbag.1
  obtain ⟨R, hR⟩ : ∃ z, livesM l l = z := ⟨_, rfl⟩
  rw [hR] at SO ⊢
  rw [← hn] at CK JI ⊢
  clear hv hn e1 e2 hR hbag
  go_enter Tryz.func49, Tryz.ntmps49
  go_wp2_with fail
  refine CK.out.mono ?_
  rintro e w1 ⟨rfl, b1⟩
  have B1 := Lib.hid b1
  clear b1 CK
  go_wp2_with fail
  refine (JI.out _ B1.out).mono ?_
  rintro e w2 ⟨rfl, s2, b2⟩
  obtain ⟨N, hN⟩ : ∃ N, w1.heap.size = N := ⟨_, rfl⟩
  have hNw : w.heap.size ≤ N := by rw [← hN]; exact B1.out.size
  have hN2 : N < w2.heap.size := by obtain ⟨S, h1, _⟩ := s2; rw [hN] at h1; exact h1.lt
  rw [hN] at s2
  have S2 := Lib.hid s2
  have B2 := Lib.hid (bt B1.out b2)
  have L2 : Hid (OwnL w2 (N + 1) (.slice none 0 0) (pickM l (l.take 0))) := OwnL.nil _ _
  have M2 : Hid (0 = (pickM l (l.take 0)).length) := rfl
  have Z2 := Lib.hid hN2
  rw [hN]
  clear s2 b2 hN hN2 B1 JI
  have HNW := Lib.hid hNw
  clear hNw
  go_wp2
  go_loopw [6, 18] (fun v i wr => ∃ j m : Nat, j ≤ n ∧ m ≤ j ∧ i = .int .i64 (j : Int) ∧ (∃ ao cap, v = .slice ao m cap) ∧ Hid (m = (pickM l (l.take j)).length) ∧ Hid (OwnL wr (N + 1) v (pickM l (l.take j))) ∧ Hid (Ahead l j N n wr) ∧ Hid (N < wr.heap.size) ∧ Hid (Below w.heap.size w wr)) (fun _ i _ => n - (intOf i).toNat)
  case atStart => exact ⟨0, 0, by omega, by omega, rfl, ⟨none, 0, rfl⟩, M2, L2, S2, Z2, B2⟩
  case round =>
    clear S2 B2 L2 M2 Z2
    obtain ⟨j, m, hj, hmj, rfl, ⟨aoL, capL, rfl⟩, hm, hown, hset, hz, hbel⟩ := hrel
    by_cases hjn : j < n
    rotate_left
    · have q3 : decide (j < n) = false := by simpa using hjn
      have hkk : l.take j = l := List.take_of_length_le (by have := HN.out; omega)
      rw [hkk] at hown
      clear hkk hm hset
      have SX := Lib.hid (SO.out _ _ _ hown.out hz.out)
      clear SO
      go_wp2_with fail
      refine SX.out.mono ?_
      rintro e w3 ⟨rfl, o3, b3⟩
      have O3 : Hid (OwnL w3 w.heap.size (.slice aoL m capL) R) := o3.base (Nat.le_succ_of_le HNW.out)
      have B3 := Lib.hid (hbel.out.trans (b3.mono (Nat.le_succ_of_le HNW.out)))
      clear o3 b3 SX hown
      go_wp2
      go_ret2
      exact ⟨_, rfl, O3.out, B3.out⟩
    have q3 : decide (j < n) = true := by simpa using hjn
    have q4 : (0 : Int) ≤ (j : Int) := by omega
    have q5 : (j : Int) < (n : Int) := by omega
    have hjl : j < l.length := by rw [← HN.out]; exact hjn
    obtain ⟨bb, oo, u, e, hbb, hru, h0, h1, h2, h3, h4⟩ := opl_at (HV.out w (Below.refl _ _)) j hjl
    subst e
    replace h0 := (hbel.out.cell (p := ⟨bb, oo + j * 5, none⟩) hbb).trans h0
    replace h1 := (hbel.out.cell (p := ⟨bb, oo + j * 5 + 1, none⟩) hbb).trans h1
    replace h2 := (hbel.out.cell (p := ⟨bb, oo + j * 5 + 2, none⟩) hbb).trans h2
    replace h3 := (hbel.out.cell (p := ⟨bb, oo + j * 5 + 3, none⟩) hbb).trans h3
    replace h4 := (hbel.out.cell (p := ⟨bb, oo + j * 5 + 4, none⟩) hbb).trans h4
    obtain ⟨x, hx⟩ : ∃ x, x = l[j]'hjl := ⟨_, rfl⟩
    rw [← hx] at hru h0 h1 h2 h4
    have RU : Hid (∀ W : World, Below w.heap.size w W → Runs W u x.pl) := fun W h => hru.keeps h
    have hxm : x ∈ l := by rw [hx]; exact List.getElem_mem _
    have hpx : x.pl.length ≤ 8796093022208 := by have := mayO_fits (HB.out.2.1 x hxm); omega
    have hst : l.take (j + 1) = l.take j ++ [x] := by rw [List.take_succ_eq_append_getElem hjl, hx]
    have FY : Hid (x.k = 2 → ended l (idO x) = false → pickM l (l.take (j + 1)) = pickM l (l.take j) ++ [x]) := fun h h2 => by rw [hst]; exact pick_yes h h2
    have FN : Hid (¬ (x.k = 2 ∧ ended l (idO x) = false) → pickM l (l.take (j + 1)) = pickM l (l.take j)) := fun h => by rw [hst]; exact pick_no h
    have TO : Hid (∀ W : World, Ahead l j N n W → N < W.heap.size → Calls Tryz.prog 89 #[.map (some N), .agg #[.int .u32 (x.t : Int), .int .u8 (x.r : Int)]] W fun e w' => e = .returned (.bool (ended l (idO x))) ∧ Ahead l (j + 1) N n w' ∧ Clocks.Apart N (N + 1) W w') := fun W ⟨S, s1, s2⟩ hW => by
      refine (takeOut_any (idO x) s1).mono ?_
      rintro e w' ⟨rfl, k1, k2⟩
      refine ⟨by rw [hx, s2 j hjl (Nat.le_refl _)], ⟨_, k1, fun i hi hji => ?_⟩, grown_apart (Nat.le_of_lt hW) k2⟩
      show (S _ && !decide _) = _
      rw [s2 i hi (by omega), hx, decide_eq_false (bag_ids HB.out hi hjl (by omega))]
      simp
    have TW : Hid (∀ W : World, Below w.heap.size w W → Calls Tryz.prog 57 #[opv x u] W fun e w' => ∃ ao cap, e = .returned (opv x (.slice ao x.pl.length cap)) ∧ w'.ownsRow W.heap.size 49 3 (.slice ao x.pl.length cap) x.pl.length (runs x.pl) ∧ Below W.heap.size W w') := fun W h => by
      refine (oTwin_any (hru.keeps h) hpx).mono ?_
      rintro e w' ⟨v', rfl, ho, hb⟩
      obtain ⟨ao', cap', rfl⟩ : ∃ ao cap, v' = .slice ao x.pl.length cap := Sees.shape (Sees.own ho)
      exact ⟨ao', cap', rfl, ho, hb⟩
    have HO : Hid (∀ v : Value, opv x v = .agg #[.int .u8 (x.k : Int), .int .u32 (x.t : Int), .int .u8 (x.r : Int), v, .int .i64 x.p]) := fun v => rfl
    obtain ⟨uo, uc, rfl⟩ := hru.shape
    obtain ⟨nu, hnu⟩ : ∃ n, n = x.pl.length := ⟨_, rfl⟩
    have HNU := Lib.hid hnu
    rw [← hnu] at h3 TW
    obtain ⟨q, hq⟩ : ∃ q, ended l (idO x) = q := ⟨_, rfl⟩
    rw [hq] at FY FN TO
    clear hru hx hxm hpx hst hnu hq RU
    obtain ⟨k, hk⟩ : ∃ z, x.k = z := ⟨_, rfl⟩
    obtain ⟨t, ht⟩ : ∃ z, x.t = z := ⟨_, rfl⟩
    obtain ⟨r, hr⟩ : ∃ z, x.r = z := ⟨_, rfl⟩
    obtain ⟨p, hp⟩ : ∃ z, x.p = z := ⟨_, rfl⟩
    have HFV : Hid (∀ v : Value, [.int .u8 (k : Int), .int .u32 (t : Int), .int .u8 (r : Int), v, .int .i64 p] = [Value.int .u8 (x.k : Int), .int .u32 (x.t : Int), .int .u8 (x.r : Int), v, .int .i64 x.p]) := fun v => by rw [hk, ht, hr, hp]
    rw [hk, ht, hr, hp] at HO
    simp only [HO.out] at TW
    rw [ht, hr] at TO
    rw [hk] at h0 FY FN
    rw [ht] at h1
    rw [hr] at h2
    rw [hp] at h4
    have BL : Hid (Below wr.heap.size wr (wr.alloc (.cells #[.int .u8 (k : Int), .int .u32 (t : Int), .int .u8 (r : Int), .slice uo nu uc, .int .i64 p] 31))) := (Below.refl _ _).alloc (Nat.le_refl _) _
    have BW := Lib.hid (bt hbel.out BL.out)
    have OW := Lib.hid (hown.out.keeps BL.out)
    have SW := Lib.hid (hset.out.keeps BL.out)
    have ZW : Hid (N < (wr.alloc (.cells #[.int .u8 (k : Int), .int .u32 (t : Int), .int .u8 (r : Int), .slice uo nu uc, .int .i64 p] 31)).heap.size) := Nat.lt_of_lt_of_le hz.out BL.out.size
    have X0 : Hid ((wr.alloc (.cells #[.int .u8 (k : Int), .int .u32 (t : Int), .int .u8 (r : Int), .slice uo nu uc, .int .i64 p] 31)).heap[wr.heap.size]? = some (.cells #[.int .u8 (k : Int), .int .u32 (t : Int), .int .u8 (r : Int), .slice uo nu uc, .int .i64 p] 31)) := blk_new rfl
    clear hk ht hr hp HO hown hset
    by_cases hk2 : k = 2
    rotate_left
    · have qk : ((k : Int) == 2) = false := by simp; omega
      have qk2 : decide ((k : Int) = 2) = false := decide_eq_false (by omega)
      have FT := Lib.hid (FN.out (fun h => hk2 h.1))
      have SN := Lib.hid SW.out.next
      rw [← FT.out] at OW hm
      clear FY FN FT TO TW hk2 SW X0 hbb hz
      go_wp2
      go_roundw
      case rel => exact ⟨j + 1, m, by omega, by omega, by go_num, ⟨_, _, rfl⟩, hm, OW, SN, ZW, BW⟩
      case measure => simp [intOf]; omega
    subst hk2
    have HF2 : Hid (∀ v : Value, [.int .u8 2, .int .u32 (t : Int), .int .u8 (r : Int), v, .int .i64 p] = [Value.int .u8 (x.k : Int), .int .u32 (x.t : Int), .int .u8 (x.r : Int), v, .int .i64 x.p]) := HFV.out
    go_wp2_with fail
    refine (TO.out _ SW.out ZW.out).mono ?_
    rintro e w3 ⟨rfl, s3, a3⟩
    have S3 := Lib.hid s3
    have O3 := Lib.hid (ownL_apart OW.out a3)
    have B3 := Lib.hid (BW.out.trans (a3.1.mono HNW.out))
    have Z3 : Hid (N < w3.heap.size) := Nat.lt_of_lt_of_le ZW.out a3.1.size
    have X3 : Hid (w3.heap[wr.heap.size]? = some (.cells #[.int .u8 2, .int .u32 (t : Int), .int .u8 (r : Int), .slice uo nu uc, .int .i64 p] 31)) := (a3.2 wr.heap.size hz.out (Array.getElem?_eq_some_iff.1 X0.out).1).trans X0.out
    clear s3 a3 OW SW BW ZW X0 TO BL hz hbb
    cases q
    rotate_left
    · have FT := Lib.hid (FN.out (by simp))
      rw [← FT.out] at O3 hm
      clear FY FN FT TW X3
      go_wp2
      go_roundw
      case rel => exact ⟨j + 1, m, by omega, by omega, by go_num, ⟨_, _, rfl⟩, hm, O3, S3, Z3, B3⟩
      case measure => simp [intOf]; omega
    have FT := Lib.hid (FY.out (by first | trivial | rfl) (by first | trivial | rfl))
    clear FY FN
    have c0 := cell_of_row _ _ 0 _ _ _ X3.out
    have c1 := cell_of_row _ _ 1 _ _ _ X3.out
    have c2 := cell_of_row _ _ 2 _ _ _ X3.out
    have c3 := cell_of_row _ _ 3 _ _ _ X3.out
    have c4 := cell_of_row _ _ 4 _ _ _ X3.out
    go_wp2_with fail
    clear c0 c1 c2 c3 c4 X3
    refine (TW.out _ B3.out).mono ?_
    rintro e w5 ⟨aoO, capO, rfl, o5, b5⟩
    have L5 := Lib.hid (O3.out.keeps b5)
    have B5 := Lib.hid (bt B3.out b5)
    have S5 := Lib.hid (S3.out.keeps b5)
    have Z5 : Hid (N < w5.heap.size) := Nat.lt_of_lt_of_le Z3.out b5.size
    obtain ⟨cs, lo, lh⟩ := L5.out
    rw [← hm.out] at lo
    have LO := Lib.hid lo
    have LH := Lib.hid lh
    have PO : Hid (w5.ownsRow (N + 1) 49 3 (.slice aoO nu capO) nu (runs x.pl)) := op_base o5 Z3.out
    have SE : Hid (Sees (w5.alloc (.cells #[.int .u8 2, .int .u32 (t : Int), .int .u8 (r : Int), .slice aoO nu capO, .int .i64 p] 31)) (.slice (some ⟨w5.heap.size, 0, none⟩) 1 1) 5 1 [.int .u8 2, .int .u32 (t : Int), .int .u8 (r : Int), .slice aoO nu capO, .int .i64 p]) := sees_new w5 [.int .u8 2, .int .u32 (t : Int), .int .u8 (r : Int), .slice aoO nu capO, .int .i64 p] 5 1 rfl (by omega) 31 (0, 0)
    have BX : Hid (Below w5.heap.size w5 (w5.alloc (.cells #[.int .u8 2, .int .u32 (t : Int), .int .u8 (r : Int), .slice aoO nu capO, .int .i64 p] 31))) := (Below.refl _ _).alloc (Nat.le_refl _) _
    have OA := Lib.hid (own_stays LO.out BX.out)
    have SA := Lib.hid (S5.out.keeps BX.out)
    have FO : ∀ z ∈ [Value.int .u8 2, .int .u32 (t : Int), .int .u8 (r : Int), .slice aoO nu capO, .int .i64 p], z.oneCell' = true := by rw [HF2.out]; exact five_one x _ ⟨_, _, _, rfl⟩
    have FO2 := Lib.hid FO
    have bz : N + 1 ≤ (w5.alloc (.cells #[.int .u8 2, .int .u32 (t : Int), .int .u8 (r : Int), .slice aoO nu capO, .int .i64 p] 31)).heap.size := Nat.le_trans Z5.out BX.out.size
    clear o5 b5 lo lh FO O3 B3 S3 L5 TW
    go_wp2_with (at_builtin; refine wpList_append_sees rfl (.tmp 32) (.tmp 35) 33 31 rfl Tryz.underlying33 op_info rfl (by decide) (N + 1) _ m cs rfl OA.out _ 1 [.int .u8 2, .int .u32 (t : Int), .int .u8 (r : Int), .slice aoO nu capO, .int .i64 p] rfl SE.out FO2.out ?k1 ?k2 ?k3 ?_)
    case k1 => omega
    case k2 => omega
    case k3 => exact bz
    rintro v6 w6 o6 g6 b6
    have L6 : Hid (OwnL w6 (N + 1) v6 (pickM l (l.take (j + 1)))) := by
      have lo2 := LO.out
      have o7 := o6
      rw [HF2.out] at o7
      have po := own_stays PO.out BX.out
      have gx := g6
      unfold Hid
      rw [FT.out]
      rw [HNU.out] at po o7
      rw [hm.out] at lo2 gx
      refine OwnL.snoc (W := w5) (W8 := w5.alloc (.cells #[.int .u8 2, .int .u32 (t : Int), .int .u8 (r : Int), .slice aoO nu capO, .int .i64 p] 31)) (m := m + 1) lo2 LH.out BX.out ?_ gx o7 (by rw [← hm.out])
      rw [HNU.out]
      exact po
    have M6 : Hid (m + 1 = (pickM l (l.take (j + 1))).length) := by unfold Hid; rw [FT.out, List.length_append, List.length_singleton, ← hm.out]
    have S6 : Hid (Ahead l (j + 1) N n w6) := by
      obtain ⟨S, s1, s2⟩ := SA.out
      exact ⟨S, by
        obtain ⟨D, d1, d2⟩ := s1
        obtain ⟨es, clock, hb, d3⟩ := d1
        refine ⟨D, ⟨es, clock, (b6.block N (Nat.lt_succ_self _)).trans hb, d3⟩, d2⟩, s2⟩
    have B6 : Hid (Below w.heap.size w w6) := (bt B5.out BX.out).trans (b6.mono (Nat.le_succ_of_le HNW.out))
    have Z6 : Hid (N < w6.heap.size) := Nat.lt_of_lt_of_le bz b6.size
    obtain ⟨va, vc, rfl⟩ : ∃ ao cap, v6 = .slice ao (m + 1) cap := Sees.shape (Sees.own o6)
    clear o6 g6 b6 OA SE LO LH PO B5 bz SA S5 Z5 BX FO2 HFV HF2 hm
    go_wp2
    go_roundw
    case rel => exact ⟨j + 1, m + 1, by omega, by omega, by go_num, ⟨va, vc, rfl⟩, M6, L6, S6, Z6, B6⟩
    case measure => simp [intOf]; omega
end Go.Proofs.YtdackenaknieaaaGreat.Marks

/- octavo/home.Of, All, Ahead, Span: what each answers. Conditions: the slices' cells are operations, runs. -/
namespace Go.Proofs.YtdackenaknieaaaGreat.Homes
open Go.RowKit Go.WideShapes Stamp Go.Proofs.YtdackenaknieaaaGreat.Place Ops Codes Bags Marks
attribute [local go_sem ↓] Go.wp_at_zero Go.wp_at_succ
attribute [local go_sem] yielded_undef

theorem live_yes {l : List Opn} (h : Bag l) : liveL l = livesM l l := by unfold liveL; rw [(bagB_iff l).2 h]; rfl
theorem live_no {l : List Opn} (h : ¬ Bag l) : liveL l = [] := by unfold liveL; rw [bagB_no h]; rfl
set_option maxRecDepth 100000 in
set_option maxHeartbeats 4000000 in
theorem hSpan_any {v : Value} {l : List Opn} (s : Id) {w : World} (hv : OpL w v l) : Calls Tryz.prog 62 #[v, .agg #[.int .u32 (s.t : Int), .int .u8 (s.r : Int)]] w (TwoR (fromL l s) (toL l s) (spanE l s) w) := by
  obtain ⟨wl, hwl⟩ : ∃ x, x = w.alloc (.cells #[.int .u32 (s.t : Int), .int .u8 (s.r : Int)] 28) := ⟨_, rfl⟩
  have Y0 : Hid (wl.heap[w.heap.size]? = some (.cells #[.int .u32 (s.t : Int), .int .u8 (s.r : Int)] 28)) := by rw [hwl]; exact blk_new rfl
  have B0 : Hid (Below w.heap.size w wl) := by rw [hwl]; exact (Below.refl _ _).alloc (Nat.le_refl _) _
  have HW := Lib.hid hwl
  have LV : Hid (Calls Tryz.prog 49 #[v] wl (DoneN (liveL l) (chkL l) wl)) := mLive_any (hv.keeps B0.out)
  have NU : Hid (Bag l → ∀ (W : World) (y : Value), OpL W y (livesM l l) → Calls Tryz.prog 105 #[y, .agg #[.int .u32 (s.t : Int), .int .u8 (s.r : Int)]] W fun e w' => NumI (whereM (livesM l l) s) e ∧ Below W.heap.size W w') := fun hb W y h => hNumber_any s h (by have := (lives_fits hb).1; omega)
  have BG : Hid (∀ (W : World) (y : Value) (V : List Opn) (i : Nat), V.length ≤ 1024 → i ≤ 1025 → OwnL W w.heap.size y V → Calls Tryz.prog 106 #[y, .int .i64 (i : Int)] W fun e w' => (∃ ao cap, e = .returned (.slice ao (beginM V i).length cap) ∧ W.ownsRow w.heap.size 49 3 (.slice ao (beginM V i).length cap) (beginM V i).length (runs (beginM V i))) ∧ w' = W) := fun W y V i h1 h2 h => hBegin_any h i (by omega)
  clear hv hwl
  by_cases hb : Bag l
  rotate_left
  · have e1 : fromL l s = [] := by unfold fromL; rw [bagB_no hb]; rfl
    have e2 : toL l s = [] := by unfold toL; rw [bagB_no hb]; rfl
    have e3 : spanE l s = 8 := by unfold spanE; rw [bagB_no hb]; rfl
    rw [chkL_no hb, live_no hb] at LV
    rw [e1, e2, e3]
    clear NU BG hb e1 e2 e3
    go_enter Tryz.func62, Tryz.ntmps62
    go_wp2_with fail
    rw [← HW.out]
    refine LV.out.mono ?_
    rintro e w1 ⟨v1, rfl, o1, b1⟩
    have B1 := Lib.hid (bt B0.out b1)
    have O1 := Lib.hid o1.opl
    have OB := Lib.hid (o1.base (b' := w.heap.size) B0.out.size)
    clear b1 o1 O1 OB Y0 B0 HW LV
    go_wp2
    exact bodyPost_ret (v := .tuple #[.slice none 0 0, .slice none 0 0, .int .i64 8]) (by simp [results, Tryz.results62, go_sem]) rfl ⟨_, _, rfl, World.ownsRow_nil _ _ _ _, World.ownsRow_nil _ _ _ _, B1.out⟩
  rw [chkL_yes hb, live_yes hb] at LV
  have NU2 := Lib.hid (NU.out hb)
  have hbb := (bagB_iff l).2 hb
  have hlen := (lives_fits hb).1
  clear NU hb
  obtain ⟨V, hV⟩ : ∃ z, livesM l l = z := ⟨_, rfl⟩
  have aF : fromL l s = if 0 ≤ whereM V s then beginM V (whereM V s) else [] := by unfold fromL; rw [hV, hbb]; simp
  have aT : toL l s = if 0 ≤ whereM V s then beginM V (whereM V s + 1) else [] := by unfold toL; rw [hV, hbb]; simp
  have aE : spanE l s = if 0 ≤ whereM V s then 0 else 130 := by unfold spanE; rw [hV, hbb]; simp
  rw [hV] at LV NU2 hlen
  rw [aF, aT, aE]
  have hlo := where_lo V s
  obtain ⟨x, hx⟩ : ∃ x, whereM V s = x := ⟨_, rfl⟩
  rw [hx] at NU2 hlo ⊢
  clear aF aT aE hV hbb hx
  by_cases hx : 0 ≤ x
  rotate_left
  · rw [if_neg hx, if_neg hx, if_neg hx]
    have NI : Hid (∀ e, NumI x e → e = .returned (.tuple #[.int .i64 0, .bool false])) := fun e h => by
      unfold NumI at h
      rwa [if_neg hx, decide_eq_false hx] at h
    clear BG hlen hlo hx
    go_enter Tryz.func62, Tryz.ntmps62
    go_wp2_with fail
    rw [← HW.out]
    refine LV.out.mono ?_
    rintro e w1 ⟨v1, rfl, o1, b1⟩
    have B1 := Lib.hid (bt B0.out b1)
    have O1 := Lib.hid o1.opl
    have OB := Lib.hid (o1.base (b' := w.heap.size) B0.out.size)
    have Y1 := Lib.hid (blk_below b1 Y0.out)
    have d0 := cell_of_row _ _ 0 _ _ _ Y1.out
    have d1 := cell_of_row _ _ 1 _ _ _ Y1.out
    clear b1 o1 Y0 B0 HW LV
    go_wp2_with fail
    refine (NU2.out _ _ O1.out).mono ?_
    rintro e w2 ⟨hnum, b2⟩
    obtain rfl := NI.out e hnum
    have B2 := Lib.hid (bt B1.out b2)
    have O2 := Lib.hid (OB.out.keeps b2)
    clear b2 hnum d0 d1 Y1 B1 O1 OB NU2 NI
    clear O2
    go_wp2
    exact bodyPost_ret (v := .tuple #[.slice none 0 0, .slice none 0 0, .int .i64 130]) (by simp [results, Tryz.results62, go_sem]) rfl ⟨_, _, rfl, World.ownsRow_nil _ _ _ _, World.ownsRow_nil _ _ _ _, B2.out⟩
  rw [if_pos hx, if_pos hx, if_pos hx]
  obtain ⟨k, rfl⟩ : ∃ k : Nat, x = (k : Int) := ⟨x.toNat, by omega⟩
  have NI : Hid (∀ e, NumI (k : Int) e → e = .returned (.tuple #[.int .i64 (k : Int), .bool true])) := fun e h => by
    unfold NumI at h
    rwa [if_pos hx, decide_eq_true hx] at h
  have ek : (k : Int) + 1 = ((k + 1 : Nat) : Int) := by omega
  have q2 : IntKind.i64.wrap ((k : Int) + 1) = (k : Int) + 1 := IntWalk.i64_in _ (by omega)
  have g1 := Lib.hid (fun W y h => BG.out W y V k hlen (by omega) h)
  have g2 := Lib.hid (fun W y h => BG.out W y V (k + 1) hlen (by omega) h)
  rw [← ek] at g2
  obtain ⟨F, hF⟩ : ∃ z, beginM V (k : Int) = z := ⟨_, rfl⟩
  obtain ⟨T, hT⟩ : ∃ z, beginM V ((k : Int) + 1) = z := ⟨_, rfl⟩
  simp only [hF] at g1 ⊢
  simp only [hT] at g2 ⊢
  clear BG hF hT hlen hlo hx ek
  go_enter Tryz.func62, Tryz.ntmps62
  go_wp2_with fail
  rw [← HW.out]
  refine LV.out.mono ?_
  rintro e w1 ⟨v1, rfl, o1, b1⟩
  have B1 := Lib.hid (bt B0.out b1)
  have O1 := Lib.hid o1.opl
  have OB := Lib.hid (o1.base (b' := w.heap.size) B0.out.size)
  have Y1 := Lib.hid (blk_below b1 Y0.out)
  have d0 := cell_of_row _ _ 0 _ _ _ Y1.out
  have d1 := cell_of_row _ _ 1 _ _ _ Y1.out
  clear b1 o1 Y0 B0 HW LV
  go_wp2_with fail
  refine (NU2.out _ _ O1.out).mono ?_
  rintro e w2 ⟨hnum, b2⟩
  obtain rfl := NI.out e hnum
  have B2 := Lib.hid (bt B1.out b2)
  have O2 := Lib.hid (OB.out.keeps b2)
  clear b2 hnum d0 d1 Y1 B1 O1 OB NU2 NI
  go_wp2_with fail
  refine (g1.out _ _ O2.out).mono ?_
  rintro e w3 ⟨⟨fo, fc, rfl, r3⟩, rfl⟩
  have R3 := Lib.hid r3
  clear r3 g1
  go_wp2_with fail
  refine (g2.out _ _ O2.out).mono ?_
  rintro e w4 ⟨⟨eo, ec, rfl, r4⟩, rfl⟩
  have R4 := Lib.hid r4
  clear r4 g2 O2
  go_wp2
  exact bodyPost_ret (v := .tuple #[.slice fo F.length fc, .slice eo T.length ec, .int .i64 0]) (by simp [results, Tryz.results62, go_sem]) rfl ⟨_, _, rfl, R3.out, R4.out, B2.out⟩
end Go.Proofs.YtdackenaknieaaaGreat.Homes
