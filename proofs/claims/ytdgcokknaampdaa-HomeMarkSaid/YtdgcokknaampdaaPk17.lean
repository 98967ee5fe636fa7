/- 'copy' between slices whose elements have several cells, the target a row known whole; 'append' of a make onto a part without room. Conditions: none. -/
import Derived.Laws.CopyOwn
import Derived.Deep.AppendSrc
import Derived.Lib.AppendZeros
import Derived.Laws.MakeOwn
import Derived.WalkKit
import Derived.WalkSpells
import Derived.WalkLawsBesides
import Derived.RegionTactic
import Derived.Deep.DrawnRows
import Derived.Deep.QuietTactic
import Derived.BigQuiet
import Derived.Deep.DeepCutAuto
import Derived.IntWalk
import Derived.Deep.RegionHeld3
import Derived.Laws.Bits64
import Derived.Test.YtdgcokknaampdaaPk01
import Derived.Test.YtdgcokknaampdaaPk07
import Derived.Test.YtdgcokknaampdaaPk16
import Derived.Test.YtdgcokknaampdaaPk15
import Derived.Test.YtdgcokknaampdaaPk09

namespace Go.Proofs.Ytdgcokknaampdaa
open Go.RowKit Go.WideShapes

theorem run_copy_sz {P : Program} (w : World) (dT sT ty elem : TypeId) (g o dLen dCap n sz : Nat) (a : Addr) (sLen sCap : Nat) (cur : Array Value) (t : TypeId) (cs : List Value)
    (hu : P.underlying dT = some (.slice elem)) (hs : (P.info? elem).map (·.size) = some sz)
    (hg : w.heap[g]? = some (.cells cur t (0, 0))) (hn : Nat.min sLen dLen = n) (hl : cs.length = n * sz)
    (hsrc : ∀ j v, cs[j]? = some v → w.cell? (a.add j) = some v) (hfit : o + cs.length ≤ cur.size) (h1 : ∀ v ∈ cs, v.oneCell' = true) :
    (Builtin.copy_ #[dT, sT] ty #[.slice (some ⟨g, o, none⟩) dLen dCap, .slice (some a) sLen sCap]).run P w =
      .ok (goInt n) (w.setRow g (cur.toList.take o ++ cs ++ cur.toList.drop (o + cs.length)).toArray) := by
  have hld := run_loadCells_list (P := P) w a cs hsrc
  have hst := run_storeCells_at P g o t cs 0 cur w hg (by simpa using hfit) h1
  cases hq : P.info? elem with
  | none => simp [hq] at hs
  | some i =>
    have hi : i.size = sz := by simpa [hq] using hs
    simp [Builtin.copy_, run_underlying hu, Builtin.lenOf, Builtin.firstCells, sizeOf, typeInfo, hq, hi, hn, ← hl, hld, hst]
theorem run_copy_sz_none {P : Program} (w : World) (dT sT ty elem : TypeId) (d a : Option Addr) (dLen dCap sLen sCap sz : Nat) (hu : P.underlying dT = some (.slice elem)) (hs : (P.info? elem).map (·.size) = some sz) (hn : Nat.min sLen dLen = 0) :
    (Builtin.copy_ #[dT, sT] ty #[.slice d dLen dCap, .slice a sLen sCap]).run P w = .ok (goInt 0) w := by
  cases hq : P.info? elem with
  | none => simp [hq] at hs
  | some i =>
    have hl : ∀ (x : Addr), (loadCells x 0).run P w = .ok #[] w := fun x => by simpa using run_loadCells_list (P := P) w x [] (by simp)
    cases d <;> cases a <;> simp [Builtin.copy_, run_underlying hu, Builtin.lenOf, Builtin.firstCells, sizeOf, typeInfo, hq, hn, storeCells, hl]

/-- What a copy of n elements does: the row behind it, all else as it was. -/
def Copied (w : World) (g : Nat) (cur : List Value) (off : Nat) (cs : List Value) (t : TypeId) (w' : World) : Prop :=
  w'.heap[g]? = some (.cells (splice cur off cs).toArray t (0, 0)) ∧ (∀ k, k ≠ g → w'.heap[k]? = w.heap[k]?) ∧ w'.heap.size = w.heap.size ∧ ∀ B, B ≤ g → Below B w w'
theorem copied_none {w : World} {g : Nat} {cur : List Value} {off : Nat} {t : TypeId} (hg : w.heap[g]? = some (.cells cur.toArray t (0, 0))) : Copied w g cur off [] t w :=
  ⟨by simpa [splice] using hg, fun _ _ => rfl, rfl, fun _ _ => Below.refl _ _⟩
theorem copied_row {w : World} {g : Nat} {cur : List Value} {off : Nat} {cs : List Value} {t : TypeId} (hg : w.heap[g]? = some (.cells cur.toArray t (0, 0))) :
    Copied w g cur off cs t (w.setRow g (cur.toArray.toList.take off ++ cs ++ cur.toArray.toList.drop (off + cs.length)).toArray) :=
  ⟨by simpa [splice] using setRow_heap w g _ _ t _ hg, fun k hk => setRow_other w g k _ (fun h => hk h), by simp [World.setRow], fun _ hB => below_setRow (Below.refl _ _) hB _⟩

theorem run_copy_any {P : Program} (w : World) (dT sT ty elem : TypeId) (hu : P.underlying dT = some (.slice elem)) {sz : Nat} (hsz : (P.info? elem).map (·.size) = some sz) (dp sp : Option Addr) (dLen dCap sLen sCap n : Nat)
    (g off : Nat) (cur : List Value) (t : TypeId) (hg : w.heap[g]? = some (.cells cur.toArray t (0, 0))) (hn : Nat.min sLen dLen = n) (cs : List Value) (hl : cs.length = n * sz)
    (hpos : 0 < n → dp = some ⟨g, off, none⟩ ∧ ∃ ad, sp = some ad ∧ ∀ j v, cs[j]? = some v → w.cell? (ad.add j) = some v)
    (hfit : off + cs.length ≤ cur.length) (h1 : ∀ v ∈ cs, v.oneCell' = true) :
    ∃ w', (Builtin.copy_ #[dT, sT] ty #[.slice dp dLen dCap, .slice sp sLen sCap]).run P w = .ok (goInt n) w' ∧ Copied w g cur off cs t w' := by
  by_cases h0 : n = 0
  · subst h0
    obtain rfl : cs = [] := List.eq_nil_of_length_eq_zero (by omega)
    exact ⟨w, run_copy_sz_none w dT sT ty elem dp sp dLen dCap sLen sCap sz hu hsz hn, copied_none hg⟩
  · obtain ⟨rfl, ad, rfl, hsrc⟩ := hpos (by omega)
    exact ⟨_, run_copy_sz w dT sT ty elem g off dLen dCap n sz ad sLen sCap cur.toArray t cs hu hsz hg hn hl hsrc (by simpa using hfit) h1, copied_row hg⟩
theorem wpList_copy_any {P : Program} {w : World} {ops : Array Oper} {rest : List Oper} {o : Oper} {a : Act} {Q : Exit → Act → World → Prop} (hgd : o.guard = none) (d s : Operand) (dT sT : TypeId)
    (ho : o.op = .call { callee := .builtin .copy, args := #[d, s], argTypes := #[dT, sT] }) (elem : TypeId) (hu : P.underlying dT = some (.slice elem)) {sz : Nat} (hsz : (P.info? elem).map (·.size) = some sz)
    (dp sp : Option Addr) (dLen dCap sLen sCap n : Nat) (hd : a.eval d = .slice dp dLen dCap) (hs : a.eval s = .slice sp sLen sCap)
    (g off : Nat) (cur : List Value) (t : TypeId) (hg : w.heap[g]? = some (.cells cur.toArray t (0, 0))) (hn : Nat.min sLen dLen = n) (cs : List Value) (hl : cs.length = n * sz)
    (hpos : 0 < n → dp = some ⟨g, off, none⟩ ∧ ∃ ad, sp = some ad ∧ ∀ j v, cs[j]? = some v → w.cell? (ad.add j) = some v)
    (hfit : off + cs.length ≤ cur.length) (h1 : ∀ v ∈ cs, v.oneCell' = true)
    (h : ∀ w', Hid (Copied w g cur off cs t w') → wpList P ops Q rest (a.put o.dst (goInt n)) w') : wpList P ops Q (o :: rest) a w := by
  refine wpList_plain hgd fun K hK => ?_
  obtain ⟨w', hrun, hc⟩ := run_copy_any (P := P) w dT sT o.type elem hu hsz dp sp dLen dCap sLen sCap n g off cur t hg hn cs hl hpos hfit h1
  unfold Oper.wp
  simp [execOp, ho, resolve, invoke, builtin, hd, hs, hrun, Result.andThen]
  exact hK _ _ (h w' hc)
theorem step_copy_any {P : Program} {ops : Array Oper} {o : Oper} {a : Act} {w : World} {K : Act → World → Prop} {Q : Exit → Act → World → Prop} {E : Prop} (hgd : o.guard = none) (d s : Operand) (dT sT : TypeId)
    (ho : o.op = .call { callee := .builtin .copy, args := #[d, s], argTypes := #[dT, sT] }) (elem : TypeId) (hu : P.underlying dT = some (.slice elem)) {sz : Nat} (hsz : (P.info? elem).map (·.size) = some sz)
    (dp sp : Option Addr) (dLen dCap sLen sCap n : Nat) (hd : a.eval d = .slice dp dLen dCap) (hs : a.eval s = .slice sp sLen sCap)
    (g off : Nat) (cur : List Value) (t : TypeId) (hg : w.heap[g]? = some (.cells cur.toArray t (0, 0))) (hn : Nat.min sLen dLen = n) (cs : List Value) (hl : cs.length = n * sz)
    (hpos : 0 < n → dp = some ⟨g, off, none⟩ ∧ ∃ ad, sp = some ad ∧ ∀ j v, cs[j]? = some v → w.cell? (ad.add j) = some v)
    (hfit : off + cs.length ≤ cur.length) (h1 : ∀ v ∈ cs, v.oneCell' = true)
    (h : ∀ w', Hid (Copied w g cur off cs t w') → K (a.put o.dst (goInt n)) w') :
    if Region.wanted o (yielded ops a.tmps) = true then Oper.wp P o a w K Q else E := by
  have hw : Region.wanted o (yielded ops a.tmps) = true := by simp [Region.wanted, hgd]
  rw [if_pos hw]
  obtain ⟨w', hrun, hc⟩ := run_copy_any (P := P) w dT sT o.type elem hu hsz dp sp dLen dCap sLen sCap n g off cur t hg hn cs hl hpos hfit h1
  unfold Oper.wp
  simp [execOp, ho, resolve, invoke, builtin, hd, hs, hrun, Result.andThen]
  exact h w' hc
end Go.Proofs.Ytdgcokknaampdaa

/- Five cells stored in a row that is known whole; rows of another kind stay; lists of operations in such a row. Conditions: none. -/
namespace Go.Proofs.Ytdgcokknaampdaa.Codes
open Go.RowKit Go.WideShapes Go.Proofs.Ytdgcokknaampdaa.Place Ops

theorem splice_nil {α : Type} (L : List α) (o : Nat) : splice L o [] = L := by simp [splice]
theorem splice_cons {α : Type} (L : List α) (o : Nat) (v : α) (vs : List α) (h : o + (vs.length + 1) ≤ L.length) : splice L o (v :: vs) = splice (L.set o v) (o + 1) vs := by
  unfold splice
  have h1 : (L.set o v).take (o + 1) = L.take o ++ [v] := by
    rw [List.take_succ_eq_append_getElem (by simp; omega), List.take_set_of_le (Nat.le_refl _), List.getElem_set_self]
  have h2 : (L.set o v).drop (o + 1 + vs.length) = L.drop (o + (v :: vs).length) := by
    rw [List.drop_set_of_lt (by omega)]
    congr 1
    simp; omega
  rw [h1, h2]
  simp
theorem put_step {X : World} {g o : Nat} {cur : List Value} {t : TypeId} (d : Value) (h : X.heap[g]? = some (.cells cur.toArray t (0, 0))) :
    (X.setCell ⟨g, o, none⟩ d).heap[g]? = some (.cells (cur.set o d).toArray t (0, 0)) := by
  have := heap_setCell_same X g o _ _ d h
  simpa using this
theorem put5_copied {X : World} {g o : Nat} {cur : List Value} {t : TypeId} (d0 d1 d2 d3 d4 : Value) (h : X.heap[g]? = some (.cells cur.toArray t (0, 0))) (hl : o + 5 ≤ cur.length) :
    Copied X g cur o [d0, d1, d2, d3, d4] t (((((X.setCell ⟨g, o, none⟩ d0).setCell ⟨g, o + 1, none⟩ d1).setCell ⟨g, o + 2, none⟩ d2).setCell ⟨g, o + 3, none⟩ d3).setCell ⟨g, o + 4, none⟩ d4) := by
  refine ⟨?_, ?_, ?_, ?_⟩
  · have h5 := put_step d4 (o := o + 4) (put_step d3 (o := o + 3) (put_step d2 (o := o + 2) (put_step d1 (o := o + 1) (put_step d0 (o := o) h))))
    rw [h5, splice_cons _ _ _ _ (by simpa using hl), splice_cons _ _ _ _ (by simp; omega), splice_cons _ _ _ _ (by simp; omega), splice_cons _ _ _ _ (by simp; omega), splice_cons _ _ _ _ (by simp; omega), splice_nil]
  · intro k hk
    rw [heap_setCell_other _ _ _ _ hk, heap_setCell_other _ _ _ _ hk, heap_setCell_other _ _ _ _ hk, heap_setCell_other _ _ _ _ hk, heap_setCell_other _ _ _ _ hk]
  · simp
  · intro B hB
    exact (((((Below.refl B X).setCell (p := ⟨g, o, none⟩) hB _).setCell (p := ⟨g, o + 1, none⟩) hB _).setCell (p := ⟨g, o + 2, none⟩) hB _).setCell (p := ⟨g, o + 3, none⟩) hB _).setCell (p := ⟨g, o + 4, none⟩) hB _
/-- A row of another kind stays. -/
theorem own_copied {w w' : World} {base g sz n : Nat} {e t : TypeId} {v : Value} {cs cur cs' : List Value} {o : Nat} (h : w.ownsRow base e sz v n cs) (hg : w.heap[g]? = some (.cells cur.toArray t (0, 0))) (hne : t ≠ e) (hc : Copied w g cur o cs' t w') : w'.ownsRow base e sz v n cs := by
  refine ⟨h.1, h.2.imp id ?_⟩
  rintro ⟨b, cap, c2, e1, e2, e3, e4⟩
  refine ⟨b, cap, c2, e1, e2, ?_, e4⟩
  rw [hc.2.1 b (fun e => by
    subst e
    rw [hg] at e3
    injection e3 with e3
    injection e3 with e5 e6
    exact hne e6)]
  exact e3
theorem HoldP.copied {w w' : World} {base g : Nat} {cur cs' : List Value} {o : Nat} (hg : w.heap[g]? = some (.cells cur.toArray 39 (0, 0))) (hc : Copied w g cur o cs' 39 w') : ∀ {cs : List Value} {l : List Opn}, HoldP w base cs l → HoldP w' base cs l
  | _, [], h => h
  | _, _ :: _, ⟨v, d, h1, h2, h3⟩ => ⟨v, d, h1, own_copied h2 hg (by decide) hc, HoldP.copied hg hc h3⟩
theorem HoldP.len {w : World} {base : Nat} {cs : List Value} {l : List Opn} (h : HoldP w base cs l) : cs.length = l.length * 5 := Enc.rows_len (E := opE) h.rows
/-- A list in a row that is known whole. -/
theorem ownl_row {w : World} {base g cap : Nat} {cs d : List Value} {l : List Opn} {n : Nat} (hg : w.heap[g]? = some (.cells (cs ++ d).toArray 39 (0, 0))) (hb : base ≤ g) (h : HoldP w base cs l) (hn : n = l.length) (hc : (cs ++ d).length = cap * 5) (hm : cap ≤ maxLen) : OwnL w base (.slice (some ⟨g, 0, none⟩) n cap) l := by
  have hl := h.len
  subst hn
  refine ⟨cs, ⟨hl, .inr ⟨g, cap, _, rfl, hb, hg, ?_, hm, by simpa using hc, ?_⟩⟩, h⟩
  · rw [List.length_append, hl] at hc; omega
  · rw [← hl]; simp

/-! ### A list copied, its places made anew one by one -/
def TwR (w wr : World) (l : List Opn) (c0 : List Value) (j : Nat) : Prop :=
  ∃ A, HoldP wr w.heap.size A (l.take j) ∧ wr.heap[w.heap.size]? = some (.cells (A ++ c0.drop (j * 5)).toArray 39 (0, 0))
theorem twr_len {w wr : World} {l : List Opn} {j : Nat} {A : List Value} (h : HoldP wr w.heap.size A (l.take j)) (hj : j ≤ l.length) : A.length = j * 5 := by
  rw [h.len, List.length_take, Nat.min_eq_left hj]
theorem twr_at {w wr : World} {l : List Opn} {c0 : List Value} {j : Nat} (hc : opE.rows w c0 l) (h : TwR w wr l c0 j) (hj : j < l.length) :
    ∃ v, Runs w v (l[j]'hj).pl ∧ wr.cell? ⟨w.heap.size, j * 5, none⟩ = some (.int .u8 ((l[j]'hj).k : Int)) ∧ wr.cell? ⟨w.heap.size, j * 5 + 1, none⟩ = some (.int .u32 ((l[j]'hj).t : Int)) ∧ wr.cell? ⟨w.heap.size, j * 5 + 2, none⟩ = some (.int .u8 ((l[j]'hj).r : Int)) ∧
      wr.cell? ⟨w.heap.size, j * 5 + 3, none⟩ = some v ∧ wr.cell? ⟨w.heap.size, j * 5 + 4, none⟩ = some (.int .i64 (l[j]'hj).p) := by
  obtain ⟨A, h1, h2⟩ := h
  have hl := twr_len h1 (Nat.le_of_lt hj)
  obtain ⟨c, ⟨v, rfl, hr⟩, hcs⟩ := Enc.rows_at j hj hc
  have hcell : ∀ i u, i < 5 → ([Value.int .u8 ((l[j]'hj).k : Int), .int .u32 ((l[j]'hj).t : Int), .int .u8 ((l[j]'hj).r : Int), v, .int .i64 (l[j]'hj).p][i]? = some u) → wr.cell? ⟨w.heap.size, j * 5 + i, none⟩ = some u := fun i u hi hu => by
    rw [cell_of_row wr w.heap.size (j * 5 + i) _ _ _ h2]
    have h3 := hcs i hi
    rw [show opE.sz = 5 from rfl, hu] at h3
    rw [List.getElem?_toArray, List.getElem?_append_right (by omega), hl, List.getElem?_drop, show j * 5 + (j * 5 + i - j * 5) = j * 5 + i by omega]
    exact h3
  exact ⟨v, hr, hcell 0 _ (by decide) rfl, hcell 1 _ (by decide) rfl, hcell 2 _ (by decide) rfl, hcell 3 _ (by decide) rfl, hcell 4 _ (by decide) rfl⟩
theorem twr_step {w wr W8 X : World} {l : List Opn} {c0 : List Value} {j : Nat} {x : Opn} {u : Value} (hc : opE.rows w c0 l) (h : TwR w wr l c0 j) (hj : j < l.length) (hx : x = l[j]'hj) (hb : Below wr.heap.size wr W8)
    (ho : W8.ownsRow w.heap.size 35 3 u x.pl.length (runs x.pl))
    (hX : X = (((((W8.setCell ⟨w.heap.size, j * 5, none⟩ (.int .u8 (x.k : Int))).setCell ⟨w.heap.size, j * 5 + 1, none⟩ (.int .u32 (x.t : Int))).setCell ⟨w.heap.size, j * 5 + 2, none⟩ (.int .u8 (x.r : Int))).setCell ⟨w.heap.size, j * 5 + 3, none⟩ u).setCell ⟨w.heap.size, j * 5 + 4, none⟩ (.int .i64 x.p))) :
    TwR w X l c0 (j + 1) ∧ ∀ B, B ≤ w.heap.size → Below B W8 X := by
  obtain ⟨A, h1, h2⟩ := h
  have hl := twr_len h1 (Nat.le_of_lt hj)
  have h3 := blk_below hb h2
  have hcl : c0.length = l.length * 5 := Enc.rows_len hc
  have hc8 := put5_copied (o := j * 5) (.int .u8 (x.k : Int)) (.int .u32 (x.t : Int)) (.int .u8 (x.r : Int)) u (.int .i64 x.p) h3 (by rw [List.length_append, List.length_drop, hcl, hl]; omega)
  rw [← hX] at hc8
  refine ⟨⟨A ++ [.int .u8 (x.k : Int), .int .u32 (x.t : Int), .int .u8 (x.r : Int), u, .int .i64 x.p], ?_, ?_⟩, hc8.2.2.2⟩
  · rw [List.take_succ_eq_append_getElem hj, ← hx]
    exact HoldP.append (HoldP.copied h3 hc8 (h1.keeps hb)) ⟨u, [], rfl, own_copied ho h3 (by decide) hc8, rfl⟩
  · rw [hc8.1]
    congr 3
    unfold splice
    rw [List.take_append_of_le_length (by omega), List.take_of_length_le (by omega), List.append_assoc]
    congr 2
    rw [List.drop_append, List.drop_eq_nil_of_le (by simp; omega), List.nil_append, List.drop_drop]
    congr 1
    simp; omega
end Go.Proofs.Ytdgcokknaampdaa.Codes

/- octavo/bag.Twin: what it answers. Conditions: the slice's cells are operations, not more than memory holds. -/
namespace Go.Proofs.Ytdgcokknaampdaa.Bags
open Go.RowKit Go.WideShapes Stamp Go.Proofs.Ytdgcokknaampdaa.Place Ops Codes
attribute [local go_sem ↓] Go.wp_at_zero Go.wp_at_succ

theorem made_opsN (n : Nat) (hn : n ≤ 1000000000) : ∃ Z : List Value, Z.length = n * 5 ∧ ∀ w : World, (Instr.makeSlice 28 (.int .i64 (n : Int)) (.int .i64 (n : Int))).run Try.prog w = .ok (.slice (some ⟨w.heap.size, 0, none⟩) n n) (w.alloc (.cells Z.toArray 39)) := by
  obtain ⟨i, hi, hz0, hz1, hz2⟩ := info_parts op_info
  refine ⟨(madeCells (Value.agg #[.int .u8 0, .int .u32 0, .int .u8 0, .slice none 0 0, .int .i64 0]).cells (n * 5)).toList, by simp [size_madeCells], fun w => ?_⟩
  have h := run_make (P := Try.prog) w 28 39 i _ Try.underlying28 hi hz0 .i64 .i64 (n : Int) (n : Int) (by omega) (by omega) (by rw [hz2]; omega) (by omega)
  rw [hz1] at h
  simpa using h

set_option maxRecDepth 100000 in
set_option maxHeartbeats 8000000 in
theorem bTwinX_any {v : Value} {l : List Opn} {w : World} (hv : OpL w v l) (hl : l.length ≤ 1000000000) (hp : ∀ o ∈ l, o.pl.length ≤ 8796093022208) :
    Calls Try.prog 53 #[v] w fun e w' => e = .returned (.slice (some ⟨w.heap.size, 0, none⟩) l.length l.length) ∧ OwnL w' w.heap.size (.slice (some ⟨w.heap.size, 0, none⟩) l.length l.length) l ∧ Below w.heap.size w w' := by
  obtain ⟨ao, cap, rfl⟩ := hv.shape
  obtain ⟨c0, hs0, hr0⟩ := hv
  obtain ⟨n, hn⟩ : ∃ n, n = l.length := ⟨_, rfl⟩
  have HN := Lib.hid hn
  have HP := Lib.hid hp
  have HR := Lib.hid hr0
  have hcl : c0.length = n * 5 := by rw [hn]; exact Enc.rows_len hr0
  obtain ⟨Z, hZ, MK⟩ := made_opsN n (by omega)
  have HC : Hid (∀ W : World, Below w.heap.size w W → 0 < n → ∃ ad, ao = some ad ∧ ∀ j v, c0[j]? = some v → W.cell? (ad.add j) = some v) := fun W hW h0 => by
    rcases (hs0.keeps hW).2 with ⟨ao', cap', he, _, _, _, h5⟩
    obtain ⟨rfl, -, rfl⟩ := Value.slice.inj he
    rcases h5 with h5 | ⟨b, off, rfl, hb, hc⟩
    · rw [h5] at hcl; simp at hcl; omega
    · exact ⟨_, rfl, fun j v hj => by rw [add_plain]; exact hc j v hj⟩
  have HON : Hid (∀ v ∈ c0, v.oneCell' = true) := Enc.rows_one hr0
  have HCL := Lib.hid hcl
  have HZ := Lib.hid hZ
  rw [← hn]
  rw [← hn] at hl
  have B0 : Hid (Below w.heap.size w (w.alloc (.cells Z.toArray 39))) := (Below.refl _ _).alloc (Nat.le_refl _) _
  have G0 : Hid ((w.alloc (.cells Z.toArray 39)).heap[w.heap.size]? = some (.cells Z.toArray 39)) := blk_new rfl
  clear hn hp hr0 hs0 hcl hZ
  go_enter Try.func53, Try.ntmps53
  go_wp2_with (refine wpList_copy_any rfl (.tmp 9) (.tmp 10) 28 28 rfl 39 Try.underlying28 (sz := 5) (by kernel_rfl) (some ⟨w.heap.size, 0, none⟩) ao n n n cap n rfl rfl w.heap.size 0 Z 39 G0.out (Nat.min_self n) c0 HCL.out (fun h0 => ⟨rfl, HC.out _ B0.out h0⟩) (by rw [HCL.out, HZ.out]; omega) HON.out ?_)
  rintro w2 hc2
  have T0 : Hid (TwR w w2 l c0 0) := ⟨[], rfl, by
    rw [hc2.out.1]
    congr 3
    simp [splice, HCL.out, ← HZ.out]⟩
  have B2 : Hid (Below w.heap.size w w2) := B0.out.trans (hc2.out.2.2.2 _ (Nat.le_refl _))
  clear hc2 B0 G0 MK
  go_wp2
  go_loopw [14] (fun i wr => ∃ j : Nat, j ≤ n ∧ i = .int .i64 (j : Int) ∧ Hid (TwR w wr l c0 j) ∧ Hid (Below w.heap.size w wr)) (fun i _ => n - (intOf i).toNat)
  case atStart => exact ⟨0, by omega, rfl, T0, B2⟩
  case round =>
    clear T0 B2
    obtain ⟨j, hj, rfl, htw, hbel⟩ := hrel
    by_cases hjn : j < n
    rotate_left
    · have q3 : decide (j < n) = false := by simpa using hjn
      have R1 : Hid (OwnL wr w.heap.size (.slice (some ⟨w.heap.size, 0, none⟩) n n) l) := by
        obtain ⟨A, h1, h2⟩ := htw.out
        obtain rfl : j = n := by omega
        rw [List.take_of_length_le (by rw [← HN.out]; omega)] at h1
        exact ownl_row h2 (Nat.le_refl _) h1 HN.out (by rw [List.length_append, List.length_drop, HCL.out, h1.len, ← HN.out]; omega) (by unfold maxLen; omega)
      clear htw
      go_wp2
      go_ret
      exact ⟨rfl, R1.out, hbel.out⟩
    have q3 : decide (j < n) = true := by simpa using hjn
    have q4 : (0 : Int) ≤ (j : Int) := by omega
    have q5 : (j : Int) < (n : Int) := by omega
    have hjl : j < l.length := by rw [← HN.out]; exact hjn
    obtain ⟨u, hru, h0, h1, h2, h3, h4⟩ := twr_at HR.out htw.out hjl
    obtain ⟨x, hx⟩ : ∃ x, x = l[j]'hjl := ⟨_, rfl⟩
    have hpx : x.pl.length ≤ 8796093022208 := HP.out x (by rw [hx]; exact List.getElem_mem hjl)
    rw [← hx] at hru h0 h1 h2 h4
    obtain ⟨uo, uc, rfl⟩ := hru.shape
    obtain ⟨nu, hnu⟩ : ∃ n, n = x.pl.length := ⟨_, rfl⟩
    rw [← hnu] at hru h3
    have ST : Hid (∀ (W8 X : World) (u : Value), Below wr.heap.size wr W8 → W8.ownsRow w.heap.size 35 3 u x.pl.length (runs x.pl) → X = (((((W8.setCell ⟨w.heap.size, j * 5, none⟩ (.int .u8 (x.k : Int))).setCell ⟨w.heap.size, j * 5 + 1, none⟩ (.int .u32 (x.t : Int))).setCell ⟨w.heap.size, j * 5 + 2, none⟩ (.int .u8 (x.r : Int))).setCell ⟨w.heap.size, j * 5 + 3, none⟩ u).setCell ⟨w.heap.size, j * 5 + 4, none⟩ (.int .i64 x.p)) →
        TwR w X l c0 (j + 1) ∧ ∀ B, B ≤ w.heap.size → Below B W8 X) := fun W8 X u hb ho hX => twr_step HR.out htw.out hjl hx hb ho hX
    have HSZ : Hid (w.heap.size ≤ wr.heap.size) := hbel.out.size
    have HGB : Hid (w.heap.size < wr.heap.size) := by
      obtain ⟨A, _, g2⟩ := htw.out
      exact (Array.getElem?_eq_some_iff.1 g2).1
    have HFR : Hid (∀ (W : World) (o : Nat), Below wr.heap.size wr W → W.frozen? ⟨w.heap.size, o, none⟩ = false) := fun W o hW => by
      obtain ⟨A, _, g2⟩ := htw.out
      exact free5 (blk_below hW g2) o
    have TW : Hid (∀ W : World, Below wr.heap.size wr W → Calls Try.prog 55 #[opv x (.slice uo nu uc)] W fun e w' => ∃ ao cap, e = .returned (opv x (.slice ao nu cap)) ∧ w'.ownsRow w.heap.size 35 3 (.slice ao nu cap) x.pl.length (runs x.pl) ∧ Below W.heap.size W w') := fun W hW => by
      refine (oTwin_any ((hru.keeps hbel.out).keeps hW) hpx).mono ?_
      rintro e w' ⟨v', rfl, ho, hb⟩
      obtain ⟨ao', cap', rfl⟩ : ∃ ao cap, v' = .slice ao x.pl.length cap := Sees.shape (Sees.own ho)
      rw [← hnu] at ho ⊢
      exact ⟨ao', cap', rfl, op_base ho (Nat.le_trans HSZ.out hW.size), hb⟩
    have HO : Hid (∀ v : Value, opv x v = .agg #[.int .u8 (x.k : Int), .int .u32 (x.t : Int), .int .u8 (x.r : Int), v, .int .i64 x.p]) := fun v => rfl
    obtain ⟨k, hk⟩ : ∃ k, x.k = k := ⟨_, rfl⟩
    obtain ⟨t, ht⟩ : ∃ k, x.t = k := ⟨_, rfl⟩
    obtain ⟨r, hr⟩ : ∃ k, x.r = k := ⟨_, rfl⟩
    obtain ⟨p, hp⟩ : ∃ k, x.p = k := ⟨_, rfl⟩
    rw [hk, ht, hr, hp] at HO ST
    rw [hk] at h0
    rw [ht] at h1
    rw [hr] at h2
    rw [hp] at h4
    simp only [HO.out] at TW
    have BL : Hid (Below wr.heap.size wr (wr.alloc (.cells #[.int .u8 (k : Int), .int .u32 (t : Int), .int .u8 (r : Int), .slice uo nu uc, .int .i64 p] 39))) := (Below.refl _ _).alloc (Nat.le_refl _) _
    have F0 : Hid (FiveAt wr w.heap.size (j * 5) (.int .u8 (k : Int)) (.int .u32 (t : Int)) (.int .u8 (r : Int)) (.slice uo nu uc) (.int .i64 p)) := ⟨HGB.out, h0, h1, h2, h3, h4⟩
    clear hru hx hk ht hr hp hnu htw hpx
    go_wp2_with fail
    refine (TW.out _ BL.out).mono ?_
    rintro e w5 ⟨a5, c5, rfl, o5, b5⟩
    have B5 := Lib.hid (bt BL.out b5)
    have O5 := Lib.hid o5
    have hf := fun o => HFR.out w5 o B5.out
    obtain ⟨_, g0, g1, g2, g3, g4⟩ := F0.out.keeps B5.out
    clear o5 b5 h0 h1 h2 h3 h4
    go_wp2
    obtain ⟨X, hX⟩ : ∃ X, X = (((((w5.setCell ⟨w.heap.size, j * 5, none⟩ (.int .u8 (k : Int))).setCell ⟨w.heap.size, j * 5 + 1, none⟩ (.int .u32 (t : Int))).setCell ⟨w.heap.size, j * 5 + 2, none⟩ (.int .u8 (r : Int))).setCell ⟨w.heap.size, j * 5 + 3, none⟩ (.slice a5 nu c5)).setCell ⟨w.heap.size, j * 5 + 4, none⟩ (.int .i64 p)) := ⟨_, rfl⟩
    have SX := ST.out w5 X _ B5.out O5.out hX
    rw [← hX]
    have TX := Lib.hid SX.1
    have BX := Lib.hid ((bt hbel.out B5.out).trans (SX.2 _ (Nat.le_refl _)))
    clear SX hX
    go_roundw
    case rel => exact ⟨j + 1, by omega, by go_num, TX, BX⟩
    case measure => simp [intOf]; omega
end Go.Proofs.Ytdgcokknaampdaa.Bags

/- Rows of numbers that are put in order where they stand: what stays, what comes to be in order. Conditions: none. -/
namespace Go.Proofs.Ytdgcokknaampdaa.Srt

/-- Between a and b the same ones in whatever order; elsewhere nothing has turned. -/
structure Sw (a b : Nat) (xs ys : List Nat) : Prop where
  len : ys.length = xs.length
  out : ∀ i, i < a ∨ b ≤ i → ys.getD i 0 = xs.getD i 0
  tto : ∀ i, a ≤ i → i < b → ∃ j, a ≤ j ∧ j < b ∧ ys.getD i 0 = xs.getD j 0
  fro : ∀ j, a ≤ j → j < b → ∃ i, a ≤ i ∧ i < b ∧ xs.getD j 0 = ys.getD i 0
theorem Sw.refl (a b : Nat) (xs : List Nat) : Sw a b xs xs := ⟨rfl, fun _ _ => rfl, fun i h1 h2 => ⟨i, h1, h2, rfl⟩, fun j h1 h2 => ⟨j, h1, h2, rfl⟩⟩
theorem Sw.trans {a b : Nat} {xs ys zs : List Nat} (h : Sw a b xs ys) (k : Sw a b ys zs) : Sw a b xs zs := by
  refine ⟨k.len.trans h.len, fun i hi => (k.out i hi).trans (h.out i hi), fun i h1 h2 => ?_, fun j h1 h2 => ?_⟩
  · obtain ⟨p, p1, p2, p3⟩ := k.tto i h1 h2
    obtain ⟨q, q1, q2, q3⟩ := h.tto p p1 p2
    exact ⟨q, q1, q2, p3.trans q3⟩
  · obtain ⟨p, p1, p2, p3⟩ := h.fro j h1 h2
    obtain ⟨q, q1, q2, q3⟩ := k.fro p p1 p2
    exact ⟨q, q1, q2, p3.trans q3⟩
theorem Sw.mono {a b a' b' : Nat} {xs ys : List Nat} (h : Sw a b xs ys) (ha : a' ≤ a) (hb : b ≤ b') : Sw a' b' xs ys := by
  refine ⟨h.len, fun i hi => h.out i (by omega), fun i h1 h2 => ?_, fun j h1 h2 => ?_⟩
  · by_cases hi : a ≤ i ∧ i < b
    · obtain ⟨j, j1, j2, j3⟩ := h.tto i hi.1 hi.2
      exact ⟨j, by omega, by omega, j3⟩
    · exact ⟨i, h1, h2, h.out i (by omega)⟩
  · by_cases hj : a ≤ j ∧ j < b
    · obtain ⟨i, i1, i2, i3⟩ := h.fro j hj.1 hj.2
      exact ⟨i, by omega, by omega, i3⟩
    · exact ⟨j, h1, h2, (h.out j (by omega)).symm⟩
theorem Sw.all {a b : Nat} {xs ys : List Nat} (h : Sw a b xs ys) {P : Nat → Prop} (hp : ∀ i, a ≤ i → i < b → P (xs.getD i 0)) : ∀ i, a ≤ i → i < b → P (ys.getD i 0) := fun i h1 h2 => by
  obtain ⟨j, j1, j2, j3⟩ := h.tto i h1 h2
  rw [j3]
  exact hp j j1 j2
/-- Two exchanged: the value of j at i, then that of i at j. -/
def ex (xs : List Nat) (i j : Nat) : List Nat := (xs.set i (xs.getD j 0)).set j (xs.getD i 0)
theorem ex_len (xs : List Nat) (i j : Nat) : (ex xs i j).length = xs.length := by simp [ex]
theorem ex_get {xs : List Nat} {i j : Nat} (hi : i < xs.length) (hj : j < xs.length) (k : Nat) : (ex xs i j).getD k 0 = if k = j then xs.getD i 0 else if k = i then xs.getD j 0 else xs.getD k 0 := by
  unfold ex
  by_cases h1 : k = j
  · subst h1
    rw [if_pos rfl]
    simp only [List.getD, List.getElem?_set, List.length_set]
    simp [hj]
  · rw [if_neg h1]
    by_cases h2 : k = i
    · subst h2
      rw [if_pos rfl]
      simp only [List.getD, List.getElem?_set, List.length_set]
      simp [hi, show ¬ j = k from fun e => h1 e.symm]
    · rw [if_neg h2]
      simp only [List.getD, List.getElem?_set, List.length_set]
      simp [show ¬ j = k from fun e => h1 e.symm, show ¬ i = k from fun e => h2 e.symm]
theorem Sw.ex {a b i j : Nat} {xs : List Nat} (h1 : a ≤ i) (h2 : i < b) (h3 : a ≤ j) (h4 : j < b) (hb : b ≤ xs.length) : Sw a b xs (ex xs i j) := by
  have g := ex_get (xs := xs) (i := i) (j := j) (by omega) (by omega)
  refine ⟨ex_len _ _ _, fun k hk => ?_, fun k k1 k2 => ?_, fun k k1 k2 => ?_⟩
  · rw [g, if_neg (by omega), if_neg (by omega)]
  · by_cases e : k = j
    · exact ⟨i, h1, h2, by rw [g, if_pos e]⟩
    · by_cases e2 : k = i
      · exact ⟨j, h3, h4, by rw [g, if_neg e, if_pos e2]⟩
      · exact ⟨k, k1, k2, by rw [g, if_neg e, if_neg e2]⟩
  · by_cases e : k = i
    · exact ⟨j, h3, h4, by rw [g, if_pos rfl, e]⟩
    · by_cases e2 : k = j
      · refine ⟨i, h1, h2, ?_⟩
        rw [g]
        by_cases e3 : i = j
        · rw [if_pos e3, e2, e3]
        · rw [if_neg e3, if_pos rfl, e2]
      · exact ⟨k, k1, k2, by rw [g, if_neg e2, if_neg e]⟩

/-- In order between a and b. -/
def Inc (a b : Nat) (xs : List Nat) : Prop := ∀ i j, a ≤ i → i ≤ j → j < b → xs.getD i 0 ≤ xs.getD j 0
/-! ### Heaps -/
end Go.Proofs.Ytdgcokknaampdaa.Srt

/- A row of 32-bit numbers of the call's own, put in order where it stands: its cells; cmp.Less. Conditions: none. -/
namespace Go.Proofs.Ytdgcokknaampdaa.Srt
open Go.RowKit

def us (xs : List Nat) : List Value := xs.map fun (x : Nat) => .int .u32 (x : Int)
theorem us_len (xs : List Nat) : (us xs).length = xs.length := by simp [us]
theorem us_get (xs : List Nat) (j : Nat) (h : j < xs.length) : (us xs)[j]? = some (.int .u32 ((xs.getD j 0 : Nat) : Int)) := by
  simp [us, List.getD, List.getElem?_eq_getElem h]
theorem us_set (xs : List Nat) (k v : Nat) : us (xs.set k v) = (us xs).set k (.int .u32 (v : Int)) := by simp [us, List.map_set]
theorem us_append (xs ys : List Nat) : us (xs ++ ys) = us xs ++ us ys := by simp [us]
/-- The row. -/
def Row (w : World) (B g n cap : Nat) (xs : List Nat) : Prop := w.ownsRow B 22 1 (.slice (some ⟨g, 0, none⟩) n cap) n (us xs)
theorem Row.len {w : World} {B g n cap : Nat} {xs : List Nat} (h : Row w B g n cap xs) : xs.length = n := by
  have := h.1
  rw [us_len] at this
  omega
theorem Row.cell {w : World} {B g n cap : Nat} {xs : List Nat} (h : Row w B g n cap xs) (k : Nat) (hk : k < n) : w.cell? ⟨g, k, none⟩ = some (.int .u32 ((xs.getD k 0 : Nat) : Int)) := by
  have := World.ownsRow.cellAt h k (by omega)
  rw [this]
  exact us_get xs k (by rw [h.len]; exact hk)
theorem Row.lt {w : World} {B g n cap : Nat} {xs : List Nat} (h : Row w B g n cap xs) : g < w.heap.size := (World.ownsRow.lt h g rfl).2
theorem Row.base {w : World} {B g n cap : Nat} {xs : List Nat} (h : Row w B g n cap xs) : B ≤ g := (World.ownsRow.lt h g rfl).1
theorem Row.max {w : World} {B g n cap : Nat} {xs : List Nat} (h : Row w B g n cap xs) : n ≤ 9223372036854775807 := Sees.max (Sees.own h)
theorem Row.keeps {w w' : World} {B g n cap : Nat} {xs : List Nat} (h : Row w B g n cap xs) (hb : Below w.heap.size w w') : Row w' B g n cap xs := own_stays h hb
theorem grown_tr {a b c : World} {row : Option Nat} (h : a.grownBy b row) (k : b.grownBy c row) : a.grownBy c row :=
  ⟨k.os.trans h.os, k.tape.trans h.tape, k.output.trans h.output, Nat.le_trans h.size k.size, fun i hi hr => (k.block i (Nat.lt_of_lt_of_le hi h.size) hr).trans (h.block i hi hr)⟩
/-- Two exchanged. -/
theorem Row.ex {w : World} {B g n cap : Nat} {xs : List Nat} (h : Row w B g n cap xs) (i j : Nat) :
    Row ((w.setCell ⟨g, i, none⟩ (.int .u32 ((xs.getD j 0 : Nat) : Int))).setCell ⟨g, j, none⟩ (.int .u32 ((xs.getD i 0 : Nat) : Int))) B g n cap (ex xs i j) ∧
      w.grownBy ((w.setCell ⟨g, i, none⟩ (.int .u32 ((xs.getD j 0 : Nat) : Int))).setCell ⟨g, j, none⟩ (.int .u32 ((xs.getD i 0 : Nat) : Int))) (some g) := by
  have h1 := World.ownsRow.stored h i (.int .u32 ((xs.getD j 0 : Nat) : Int))
  have h2 := World.ownsRow.stored h1.1 j (.int .u32 ((xs.getD i 0 : Nat) : Int))
  refine ⟨?_, grown_tr h1.2 h2.2⟩
  show World.ownsRow _ _ _ _ _ _ _
  unfold Srt.ex
  rw [us_set, us_set]
  exact h2.1

end Go.Proofs.Ytdgcokknaampdaa.Srt

/- slices.insertionSortOrdered over 32-bit numbers: it puts in order. Conditions: the row is the call's own. -/
namespace Go.Proofs.Ytdgcokknaampdaa.Srt
open Go.RowKit
attribute [local go_sem ↓] Go.wp_at_zero Go.wp_at_succ

end Go.Proofs.Ytdgcokknaampdaa.Srt

/- math/bits.Len of numbers up to 1024: how many digits they have. Conditions: as said. -/
namespace Go.Proofs.Ytdgcokknaampdaa.Srt
open Go.RowKit
attribute [local go_sem ↓] Go.wp_at_zero Go.wp_at_succ

/-- k is how many binary digits x has. -/
def Dig (x k : Nat) : Prop := k ≤ 11 ∧ x < 2 ^ k ∧ (1 ≤ x → 2 ^ k ≤ 2 * x)
instance (x k : Nat) : Decidable (Dig x k) := inferInstanceAs (Decidable (_ ∧ _ ∧ _))
end Go.Proofs.Ytdgcokknaampdaa.Srt

/- slices.Sort over 32-bit numbers, of at most twelve of them, and of none: it puts in order. Conditions: the row is the call's own. -/
namespace Go.Proofs.Ytdgcokknaampdaa.Srt
open Go.RowKit
attribute [local go_sem ↓] Go.wp_at_zero Go.wp_at_succ

end Go.Proofs.Ytdgcokknaampdaa.Srt

/- octavo/clock.inShort: what it answers. Conditions: the row is the call's own; its numbers are times; slices.Sort puts so many in order. -/
namespace Go.Proofs.Ytdgcokknaampdaa.Clocks
open Go.RowKit Go.Proofs.Ytdgcokknaampdaa.Spans
attribute [local go_sem ↓] Go.wp_at_zero Go.wp_at_succ

end Go.Proofs.Ytdgcokknaampdaa.Clocks

/- octavo/clock: done with its closure, Join, Less, Add: what each answers. Conditions: the slices' cells are replicas' spans; no replica has more than 1024 spans in both together. -/
namespace Go.Proofs.Ytdgcokknaampdaa.Clocks
open Go.RowKit Go.Proofs.Ytdgcokknaampdaa.Spans
attribute [local go_sem ↓] Go.wp_at_zero Go.wp_at_succ

end Go.Proofs.Ytdgcokknaampdaa.Clocks

/- octavo/clock: Join, Less, Add: what each answers. Conditions: the slices' cells are replicas' spans; no replica has more than 1024 spans in both together. -/
namespace Go.Proofs.Ytdgcokknaampdaa.Clocks
open Go.RowKit Go.Proofs.Ytdgcokknaampdaa.Spans
attribute [local go_sem ↓] Go.wp_at_zero Go.wp_at_succ

end Go.Proofs.Ytdgcokknaampdaa.Clocks

/- octavo/clock.Of: the times that each replica has, kept in a map; what it answers. Conditions: the slice's cells are stamps; slices.Sort puts so many in order. -/
namespace Go.Proofs.Ytdgcokknaampdaa.Clocks
open Go.RowKit Go.Proofs.Ytdgcokknaampdaa.Spans Go.Proofs.Ytdgcokknaampdaa.Srt
attribute [local go_sem ↓] Go.wp_at_zero Go.wp_at_succ

/-- The times that a replica has among stamps. -/
def trs (l : List Id) (r : Nat) : List Nat := (l.filter fun a => decide (a.r = r)).map (·.t)
theorem trs_snoc (l : List Id) (a : Id) (r : Nat) : trs (l ++ [a]) r = if a.r = r then trs l r ++ [a.t] else trs l r := by
  unfold trs
  rw [List.filter_append, List.map_append]
  by_cases h : a.r = r
  · simp [h]
  · simp [h]
def rowOf (M : Nat → Option Value) (r : Nat) : Value := (M r).getD (.slice none 0 0)
/-- A row for each replica that is asked for, each in a block of its own ahead of H; its map in block N, the map's place in block N + 1. -/
def Rws (N H : Nat) (M : Nat → Option Value) (f : Nat → List Nat) (from' : Nat) (wr : World) : Prop :=
  (∀ r, from' ≤ r → r < 256 → wr.ownsRow (N + 2) 22 1 (rowOf M r) (f r).length (us (f r))) ∧
  (∀ r q, r < 256 → q < 256 → r ≠ q → ∀ g, (rowOf M r).ownBlock = some g → (rowOf M q).ownBlock ≠ some g) ∧ (∀ r, r < 256 → ∀ g, (rowOf M r).ownBlock = some g → N + 2 ≤ g ∧ g < H)
theorem Rws.nil (N H : Nat) (l : List Id) (wr : World) : Rws N H (fun _ => none) (trs (l.take 0)) 0 wr :=
  ⟨fun r _ _ => World.ownsRow_nil _ _ _ _, fun r q _ _ _ g hg => by simp [rowOf, Value.ownBlock] at hg, fun r _ g hg => by simp [rowOf, Value.ownBlock] at hg⟩
theorem Rws.keeps {N H k : Nat} {M : Nat → Option Value} {f : Nat → List Nat} {w w' : World} (h : Rws N H M f k w) (hb : ∀ j, N + 2 ≤ j → j < H → w'.heap[j]? = w.heap[j]?) : Rws N H M f k w' := by
  refine ⟨fun r h1 h2 => ?_, h.2.1, h.2.2⟩
  have ho := h.1 r h1 h2
  refine ⟨ho.1, ?_⟩
  rcases ho.2 with h0 | ⟨g, cap, cur, h3, h4, hg, h5⟩
  · exact .inl h0
  · exact .inr ⟨g, cap, cur, h3, h4, (hb g h4 (h.2.2 r h2 g (by rw [h3]; rfl)).2).trans hg, h5⟩
/-- A stamp more. -/
theorem Rws.put {N H : Nat} {M : Nat → Option Value} {l : List Id} {k : Nat} {w4 w5 : World} (h : Rws N H M (trs (l.take k)) 0 w4) {x : Id} (hs : l.take (k + 1) = l.take k ++ [x]) (hx : x.r < 256) {v5 : Value}
    (o5 : w5.ownsRow (N + 2) 22 1 v5 ((trs (l.take k) x.r).length + 1) (us (trs (l.take k) x.r) ++ [.int .u32 (x.t : Int)])) (g5 : w4.grownBy w5 (rowOf M x.r).ownBlock) (hH : H ≤ w4.heap.size)
    (l5 : v5.ownBlock = (rowOf M x.r).ownBlock ∨ v5.ownBlock = some w4.heap.size) :
    Rws N w5.heap.size (fun j => if j = x.r then some v5 else M j) (trs (l.take (k + 1))) 0 w5 := by
  have e1 : rowOf (fun j => if j = x.r then some v5 else M j) x.r = v5 := by simp [rowOf]
  have e2 : ∀ q, q ≠ x.r → rowOf (fun j => if j = x.r then some v5 else M j) q = rowOf M q := fun q hq => by simp [rowOf, hq]
  refine ⟨fun r _ hr => ?_, fun r q hr hq hne g hg => ?_, fun r hr g hg => ?_⟩
  · rw [hs, trs_snoc]
    by_cases hrx : r = x.r
    · subst hrx
      rw [e1, if_pos rfl, us_append, List.length_append]
      exact o5
    · rw [e2 r hrx, if_neg (fun e => hrx e.symm)]
      refine (h.1 r (by omega) hr).kept g5 ?_
      by_cases hn : (rowOf M r).ownBlock = none
      · exact .inl hn
      · refine .inr (fun e => ?_)
        obtain ⟨g, hg⟩ := Option.ne_none_iff_exists'.1 hn
        exact h.2.1 r x.r hr hx hrx g hg (e ▸ hg)
  · by_cases hrx : r = x.r
    · subst hrx
      rw [e1] at hg
      rw [e2 q (fun e => hne e.symm)]
      intro hq2
      rcases l5 with h5 | h5
      · exact h.2.1 _ q hr hq hne g (by rw [← h5]; exact hg) hq2
      · rw [h5] at hg
        cases hg
        have := (h.2.2 q hq _ hq2).2
        omega
    · rw [e2 r hrx] at hg
      by_cases hqx : q = x.r
      · subst hqx
        rw [e1]
        intro hq2
        rcases l5 with h5 | h5
        · exact h.2.1 r _ hr hq hne g hg (by rw [← h5]; exact hq2)
        · rw [h5] at hq2
          cases hq2
          have := (h.2.2 r hr _ hg).2
          omega
      · rw [e2 q hqx]
        exact h.2.1 r q hr hq hne g hg
  · by_cases hrx : r = x.r
    · subst hrx
      rw [e1] at hg
      exact o5.lt g hg
    · rw [e2 r hrx] at hg
      have := h.2.2 r hr g hg
      have := g5.size
      omega

/-! ### What is told of a replica -/
/-! ### A map's steps in a region that draws -/
end Go.Proofs.Ytdgcokknaampdaa.Clocks

/- slices.partialInsertionSortOrdered over 32-bit numbers: what it answers true of is in order. Conditions: the row is the call's own; what stands ahead of the range is no greater than any in it. -/
namespace Go.Proofs.Ytdgcokknaampdaa.Srt
open Go.RowKit
attribute [local go_sem ↓] Go.wp_at_zero Go.wp_at_succ

/-- What stands ahead of the range is no greater than any in it. -/
def Pre (a b : Nat) (xs : List Nat) : Prop := 0 < a → ∀ k, a ≤ k → k < b → xs.getD (a - 1) 0 ≤ xs.getD k 0
theorem Pre.keep {a b : Nat} {xs ys : List Nat} (h : Pre a b xs) (s : Sw a b xs ys) : Pre a b ys := fun ha k h1 h2 => by
  rw [s.out (a - 1) (.inl (by omega))]
  exact s.all (P := fun v => xs.getD (a - 1) 0 ≤ v) (fun i i1 i2 => h ha i i1 i2) k h1 h2
end Go.Proofs.Ytdgcokknaampdaa.Srt

/- slices: order2, median, medianAdjacent, choosePivot over 32-bit numbers: a place in the range; the row stays as it was. Conditions: the row is the call's own. -/
namespace Go.Proofs.Ytdgcokknaampdaa.Srt
open Go.RowKit
attribute [local go_sem ↓] Go.wp_at_zero Go.wp_at_succ

end Go.Proofs.Ytdgcokknaampdaa.Srt

/- slices.partitionOrdered over 32-bit numbers. Conditions: the row is the call's own; the pivot stands in the range. -/
namespace Go.Proofs.Ytdgcokknaampdaa.Srt
open Go.RowKit
attribute [local go_sem ↓] Go.wp_at_zero Go.wp_at_succ

/-- What stands behind it: the place mid parts the range. -/
def Pt (a b mid : Nat) (ys : List Nat) : Prop := (∀ k, a ≤ k → k < mid → ys.getD k 0 < ys.getD mid 0) ∧ (∀ k, mid < k → k < b → ys.getD mid 0 ≤ ys.getD k 0)
end Go.Proofs.Ytdgcokknaampdaa.Srt

/- slices.partitionEqualOrdered over 32-bit numbers. Conditions: the row is the call's own; the pivot stands in the range. -/
namespace Go.Proofs.Ytdgcokknaampdaa.Srt
open Go.RowKit
attribute [local go_sem ↓] Go.wp_at_zero Go.wp_at_succ

end Go.Proofs.Ytdgcokknaampdaa.Srt

/- slices: choosePivot and reverseRange over 32-bit numbers. Conditions: the row is the call's own; the range has more than twelve. -/
namespace Go.Proofs.Ytdgcokknaampdaa.Srt
open Go.RowKit
attribute [local go_sem ↓] Go.wp_at_zero Go.wp_at_succ

end Go.Proofs.Ytdgcokknaampdaa.Srt

/- slices: xorshift's Next, nextPowerOfTwo, breakPatterns over 32-bit numbers: exchanges within the range. Conditions: the row is the call's own. -/
namespace Go.Proofs.Ytdgcokknaampdaa.Srt
open Go.RowKit
attribute [local go_sem ↓] Go.wp_at_zero Go.wp_at_succ

end Go.Proofs.Ytdgcokknaampdaa.Srt

/- slices.siftDownOrdered, slices.heapSortOrdered over 32-bit numbers. Conditions: the row is the call's own. -/
namespace Go.Proofs.Ytdgcokknaampdaa.Srt
open Go.RowKit
attribute [local go_sem ↓] Go.wp_at_zero Go.wp_at_succ

end Go.Proofs.Ytdgcokknaampdaa.Srt

/- slices.heapSortOrdered over 32-bit numbers. Conditions: the row is the call's own. -/
namespace Go.Proofs.Ytdgcokknaampdaa.Srt
open Go.RowKit
attribute [local go_sem ↓] Go.wp_at_zero Go.wp_at_succ

end Go.Proofs.Ytdgcokknaampdaa.Srt

/- slices.pdqsortOrdered, slices.Sort over at most 1024 32-bit numbers: they put in order. Conditions: the row is the call's own. -/
namespace Go.Proofs.Ytdgcokknaampdaa.Srt
open Go.RowKit
attribute [local go_sem ↓] Go.wp_at_zero Go.wp_at_succ

/-- Of two between a0 and b0 that do not both lie between a and b, the first is no greater. -/
def Dn (a0 b0 a b : Nat) (ys : List Nat) : Prop := ∀ i j, a0 ≤ i → i ≤ j → j < b0 → (i < a ∨ b ≤ j) → ys.getD i 0 ≤ ys.getD j 0
theorem Dn.keep {a0 b0 a b : Nat} {ys zs : List Nat} (h : Dn a0 b0 a b ys) (s : Sw a b ys zs) (hb : b ≤ b0) (ha : a0 ≤ a) : Dn a0 b0 a b zs := fun i j h1 h2 h3 h4 => by
  by_cases hi : a ≤ i ∧ i < b
  · have hj : b ≤ j := by omega
    rw [s.out j (.inr hj)]
    exact s.all (P := fun v => v ≤ ys.getD j 0) (fun k k1 k2 => h k j (by omega) (by omega) h3 (.inr hj)) i hi.1 hi.2
  · rw [s.out i (by omega)]
    by_cases hj : a ≤ j ∧ j < b
    · exact s.all (P := fun v => ys.getD i 0 ≤ v) (fun k k1 k2 => h i k h1 (by omega) (by omega) (.inl (by omega))) j hj.1 hj.2
    · rw [s.out j (by omega)]
      exact h i j h1 h2 h3 h4
theorem Dn.done {a0 b0 a b : Nat} {ys : List Nat} (h : Dn a0 b0 a b ys) (hi : Inc a b ys) : Inc a0 b0 ys := fun i j h1 h2 h3 => by
  by_cases hc : i < a ∨ b ≤ j
  · exact h i j h1 h2 h3 hc
  · exact hi i j (by omega) h2 (by omega)
end Go.Proofs.Ytdgcokknaampdaa.Srt

/- octavo/bag.Ids: what it answers. Conditions: the slice's cells are operations. -/
namespace Go.Proofs.Ytdgcokknaampdaa.Bags
open Go.RowKit Go.WideShapes Stamp Go.Proofs.Ytdgcokknaampdaa.Place Ops Codes
attribute [local go_sem ↓] Go.wp_at_zero Go.wp_at_succ

end Go.Proofs.Ytdgcokknaampdaa.Bags

/- What the landed bag's walks come to: two bags gone through side by side, where a stamp stands or would. Conditions: none. -/
namespace Go.Proofs.Ytdgcokknaampdaa.Bags
open Ops Stamp

/-! ### Two side by side -/
/-! ### Where a stamp stands, or would -/
def lessI (x : Opn) (a : Id) : Prop := x.t < a.t ∨ x.t = a.t ∧ x.r < a.r
instance (x : Opn) (a : Id) : Decidable (lessI x a) := inferInstanceAs (Decidable (_ ∨ _))
def moreI (x : Opn) (a : Id) : Prop := a.t < x.t ∨ a.t = x.t ∧ a.r < x.r
instance (x : Opn) (a : Id) : Decidable (moreI x a) := inferInstanceAs (Decidable (_ ∨ _))
theorem lessI_eq {x : Opn} {a : Id} : (¬ lessI x a ∧ ¬ moreI x a) ↔ idO x = a := by
  rw [Id.eq_iff]
  show _ ↔ x.t = a.t ∧ x.r = a.r
  unfold lessI moreI; omega
theorem lessI_trans {x y : Opn} {a : Id} (h : lessO x y) (k : lessI y a) : lessI x a := by unfold lessO at h; unfold lessI at *; omega
def Pos (l : List Opn) (a : Id) (k : Nat) : Prop := k ≤ l.length ∧ (∀ i (h : i < l.length), i < k → lessI (l[i]'h) a) ∧ ∀ i (h : i < l.length), k ≤ i → ¬ lessI (l[i]'h) a
theorem pw_get {l : List Opn} (hp : l.Pairwise lessO) {i j : Nat} (hj : j < l.length) (hij : i < j) : lessO (l[i]'(by omega)) (l[j]'hj) := List.pairwise_iff_getElem.1 hp i j (by omega) hj hij
theorem lessI_mono {l : List Opn} (hp : l.Pairwise lessO) {a : Id} {i j : Nat} (hj : j < l.length) (hij : i ≤ j) (h : lessI (l[j]'hj) a) : lessI (l[i]'(by omega)) a := by
  rcases Nat.lt_or_ge i j with h1 | h1
  · exact lessI_trans (pw_get hp hj h1) h
  · obtain rfl : i = j := by omega
    exact h
theorem pos_find {l : List Opn} {a : Id} {k : Nat} (hp : l.Pairwise lessO) (_h : Pos l a k) (hk : k < l.length) (he : idO (l[k]'hk) = a) : findO l a = some (l[k]'hk) := by
  rw [← he]; exact findO_mem hp (List.getElem_mem hk)
theorem pos_none {l : List Opn} {a : Id} {k : Nat} (hp : l.Pairwise lessO) (h : Pos l a k) (he : ∀ hk : k < l.length, idO (l[k]'hk) ≠ a) : hasO l a = false := by
  rw [hasO_no]
  intro o ho e
  obtain ⟨i, hi, rfl⟩ := List.getElem_of_mem ho
  have h3 := (lessI_eq.2 e).1
  have h1 : k ≤ i := Nat.not_lt.1 (fun hlt => h3 (h.2.1 i hi hlt))
  rcases Nat.lt_or_ge k i with h2 | h2
  · have h4 := pw_get hp hi h2
    refine h.2.2 k (by omega) (Nat.le_refl _) ?_
    have h5 : (l[i]'hi).t = a.t ∧ (l[i]'hi).r = a.r := by rw [Id.eq_iff] at e; exact e
    unfold lessO at h4; unfold lessI; omega
  · obtain rfl : i = k := by omega
    exact he hi e
theorem pos_with {l : List Opn} {o : Opn} {k : Nat} (h : Pos l (idO o) k) (hno : hasO l (idO o) = false) : withO l o = l.take k ++ o :: l.drop k := by
  unfold withO
  rw [if_neg (by rw [hno]; decide)]
  have ht : ∀ x ∈ l.take k, lessO x o := fun x hx => by
    obtain ⟨i, hi, rfl⟩ := List.getElem_of_mem hx
    rw [List.length_take] at hi
    rw [List.getElem_take]
    exact h.2.1 i (by omega) (by omega)
  have hd : ∀ x ∈ l.drop k, lessO o x := fun x hx => by
    have hm := List.mem_of_mem_drop hx
    obtain ⟨i, hi, rfl⟩ := List.getElem_of_mem hx
    rw [List.length_drop] at hi
    have h1 : ¬ lessO _ o := h.2.2 (k + i) (by omega) (by omega)
    have h2 := hasO_no.1 hno _ hm
    rw [List.getElem_drop] at h2 ⊢
    rcases lessO_three (l[k + i]'(by omega)) o with h3 | h3 | h3
    · exact absurd h3 h1
    · exact absurd h3 h2
    · exact h3
  have e1 : l.filter (fun x => decide (lessO x o)) = l.take k := by
    conv => lhs; rw [← List.take_append_drop k l, List.filter_append]
    rw [List.filter_eq_self.2 (fun x hx => decide_eq_true (ht x hx)), List.filter_eq_nil_iff.2 (fun x hx => by simpa using lessO_asymm (hd x hx)), List.append_nil]
  have e2 : l.filter (fun x => decide (lessO o x)) = l.drop k := by
    conv => lhs; rw [← List.take_append_drop k l, List.filter_append]
    rw [List.filter_eq_self.2 (fun x hx => decide_eq_true (hd x hx)), List.filter_eq_nil_iff.2 (fun x hx => by simpa using lessO_asymm (ht x hx)), List.nil_append]
  rw [e1, e2]
end Go.Proofs.Ytdgcokknaampdaa.Bags
