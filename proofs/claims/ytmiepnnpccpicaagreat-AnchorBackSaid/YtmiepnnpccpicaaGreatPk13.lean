/- 'copy' between slices whose elements have several cells, the target a row known whole; 'append' of a make onto a part without room. Conditions: none. Five cells stored in a row that is known whole; rows of another kind stay; lists of operations in such a row. Conditions: none. octavo/bag.Twin: what it answers. Conditions: the slice's cells are operations, not more than memory holds. slices.Insert of one operation into a list of the call's own without room: what it answers. Conditions: at most 1024 operations. octavo/bag.Add: what it answers. Conditions: the slice's cells are operations, the place's are runs. -/
import Derived.Test.YtmiepnnpccpicaaGreatChecked
import Derived.WalkKit
import Derived.WalkSpells
import Derived.WalkLawsBesides
import Derived.Laws.BytesArg
import Derived.Lib.Hide
import Derived.Deep.LoopGhost
import Derived.Laws.AppendOwnNone
import Derived.Laws.OwnMore
import Derived.WideShapes
import Derived.Laws.CopyOwn
import Derived.Deep.AppendSrc
import Derived.Lib.AppendZeros
import Derived.Maps.AppendAt
import Derived.RegionTactic
import Derived.Deep.RegionHeld3
import Derived.Deep.DrawnRows
import Derived.Deep.QuietTactic
import Derived.BigQuiet
import Derived.IntWalk
import Derived.Deep.DeepCutAuto
import Derived.ScopeJumps
import Derived.Test.YtmiepnnpccpicaaGreatProg
import Derived.LoopTactic
import Derived.Laws.EntriesVeiled
import Derived.Laws.MakeOwn
import Derived.Lib.AppendZerosOnto
import Derived.Laws.NewBlocks
import Derived.Deep.RegionLaw
import Derived.RowKit
import Derived.Shelf.Abstract
import Derived.Test.YtmiepnnpccpicaaGreatPk01
import Derived.Test.YtmiepnnpccpicaaGreatPk04
import Derived.Test.YtmiepnnpccpicaaGreatPk03
import Derived.Test.YtmiepnnpccpicaaGreatPk02
import Derived.Test.YtmiepnnpccpicaaGreatPk12
import Derived.Test.YtmiepnnpccpicaaGreatPk07

namespace Go.Proofs.YtmiepnnpccpicaaGreat
open Go.RowKit Go.WideShapes
theorem run_copy_sz {P : Program} (w : World) (dT sT ty elem : TypeId) (g o dLen dCap n sz : Nat) (a : Addr) (sLen sCap : Nat) (cur : Array Value) (t : TypeId) (cs : List Value)
    (hu : P.underlying dT = some (.slice elem)) (hs : (P.info? elem).map (·.size) = some sz)
    (hg : w.heap[g]? = some (.cells cur t (0, 0))) (hn : Nat.min sLen dLen = n) (hl : cs.length = n * sz)
    (hsrc : ∀ j v, cs[j]? = some v → w.cell? (a.add j) = some v) (hfit : o + cs.length ≤ cur.size) (h1 : ∀ v ∈ cs, v.oneCell' = true) :
    (Builtin.copy_ #[dT, sT] ty #[.slice (some ⟨g, o, none⟩) dLen dCap, .slice (some a) sLen sCap]).run P w =
      .ok (goInt n) (w.setRow g (cur.toList.take o ++ cs ++ cur.toList.drop (o + cs.length)).toArray) := by
  have hld := run_loadCells_list (P := P) w a cs hsrc
  have hst := run_storeCells_at P g o t cs 0 cur w hg (by simpa using hfit) h1
  cases hq : P.info? elem with
  | none => simp [hq] at hs
  | some i =>
    have hi : i.size = sz := by simpa [hq] using hs
    simp [Builtin.copy_, run_underlying hu, Builtin.lenOf, Builtin.firstCells, sizeOf, typeInfo, hq, hi, hn, ← hl, hld, hst]
theorem run_copy_sz_none {P : Program} (w : World) (dT sT ty elem : TypeId) (d a : Option Addr) (dLen dCap sLen sCap sz : Nat) (hu : P.underlying dT = some (.slice elem)) (hs : (P.info? elem).map (·.size) = some sz) (hn : Nat.min sLen dLen = 0) :
    (Builtin.copy_ #[dT, sT] ty #[.slice d dLen dCap, .slice a sLen sCap]).run P w = .ok (goInt 0) w := by
  cases hq : P.info? elem with
  | none => simp [hq] at hs
  | some i =>
    have hl : ∀ (x : Addr), (loadCells x 0).run P w = .ok #[] w := fun x => by simpa using run_loadCells_list (P := P) w x [] (by simp)
    cases d <;> cases a <;> simp [Builtin.copy_, run_underlying hu, Builtin.lenOf, Builtin.firstCells, sizeOf, typeInfo, hq, hn, storeCells, hl]
/-- What a copy of n elements does: the row behind it, all else as it was. -/
def Copied (w : World) (g : Nat) (cur : List Value) (off : Nat) (cs : List Value) (t : TypeId) (w' : World) : Prop :=
  w'.heap[g]? = some (.cells (splice cur off cs).toArray t (0, 0)) ∧ (∀ k, k ≠ g → w'.heap[k]? = w.heap[k]?) ∧ w'.heap.size = w.heap.size ∧ ∀ B, B ≤ g → Below B w w'
theorem copied_none {w : World} {g : Nat} {cur : List Value} {off : Nat} {t : TypeId} (hg : w.heap[g]? = some (.cells cur.toArray t (0, 0))) : Copied w g cur off [] t w :=
  ⟨by simpa [splice] using hg, fun _ _ => rfl, rfl, fun _ _ => Below.refl _ _⟩
theorem copied_row {w : World} {g : Nat} {cur : List Value} {off : Nat} {cs : List Value} {t : TypeId} (hg : w.heap[g]? = some (.cells cur.toArray t (0, 0))) :
    Copied w g cur off cs t (w.setRow g (cur.toArray.toList.take off ++ cs ++ cur.toArray.toList.drop (off + cs.length)).toArray) :=
  ⟨by simpa [splice] using setRow_heap w g _ _ t _ hg, fun k hk => setRow_other w g k _ (fun h => hk h), by simp [World.setRow], fun _ hB => below_setRow (Below.refl _ _) hB _⟩
theorem run_copy_any {P : Program} (w : World) (dT sT ty elem : TypeId) (hu : P.underlying dT = some (.slice elem)) {sz : Nat} (hsz : (P.info? elem).map (·.size) = some sz) (dp sp : Option Addr) (dLen dCap sLen sCap n : Nat)
    (g off : Nat) (cur : List Value) (t : TypeId) (hg : w.heap[g]? = some (.cells cur.toArray t (0, 0))) (hn : Nat.min sLen dLen = n) (cs : List Value) (hl : cs.length = n * sz)
    (hpos : 0 < n → dp = some ⟨g, off, none⟩ ∧ ∃ ad, sp = some ad ∧ ∀ j v, cs[j]? = some v → w.cell? (ad.add j) = some v)
    (hfit : off + cs.length ≤ cur.length) (h1 : ∀ v ∈ cs, v.oneCell' = true) :
    ∃ w', (Builtin.copy_ #[dT, sT] ty #[.slice dp dLen dCap, .slice sp sLen sCap]).run P w = .ok (goInt n) w' ∧ Copied w g cur off cs t w' := by
  by_cases h0 : n = 0
  · subst h0
    obtain rfl : cs = [] := List.eq_nil_of_length_eq_zero (by omega)
    exact ⟨w, run_copy_sz_none w dT sT ty elem dp sp dLen dCap sLen sCap sz hu hsz hn, copied_none hg⟩
  · obtain ⟨rfl, ad, rfl, hsrc⟩ := hpos (by omega)
    exact ⟨_, run_copy_sz w dT sT ty elem g off dLen dCap n sz ad sLen sCap cur.toArray t cs hu hsz hg hn hl hsrc (by simpa using hfit) h1, copied_row hg⟩
theorem wpList_copy_any {P : Program} {w : World} {ops : Array Oper} {rest : List Oper} {o : Oper} {a : Act} {Q : Exit → Act → World → Prop} (hgd : o.guard = none) (d s : Operand) (dT sT : TypeId)
    (ho : o.op = .call { callee := .builtin .copy, args := #[d, s], argTypes := #[dT, sT] }) (elem : TypeId) (hu : P.underlying dT = some (.slice elem)) {sz : Nat} (hsz : (P.info? elem).map (·.size) = some sz)
    (dp sp : Option Addr) (dLen dCap sLen sCap n : Nat) (hd : a.eval d = .slice dp dLen dCap) (hs : a.eval s = .slice sp sLen sCap)
    (g off : Nat) (cur : List Value) (t : TypeId) (hg : w.heap[g]? = some (.cells cur.toArray t (0, 0))) (hn : Nat.min sLen dLen = n) (cs : List Value) (hl : cs.length = n * sz)
    (hpos : 0 < n → dp = some ⟨g, off, none⟩ ∧ ∃ ad, sp = some ad ∧ ∀ j v, cs[j]? = some v → w.cell? (ad.add j) = some v)
    (hfit : off + cs.length ≤ cur.length) (h1 : ∀ v ∈ cs, v.oneCell' = true)
    (h : ∀ w', Hid (Copied w g cur off cs t w') → wpList P ops Q rest (a.put o.dst (goInt n)) w') : wpList P ops Q (o :: rest) a w := by
  refine wpList_plain hgd fun K hK => ?_
  obtain ⟨w', hrun, hc⟩ := run_copy_any (P := P) w dT sT o.type elem hu hsz dp sp dLen dCap sLen sCap n g off cur t hg hn cs hl hpos hfit h1
  unfold Oper.wp
  simp [execOp, ho, resolve, invoke, builtin, hd, hs, hrun, Result.andThen]
  exact hK _ _ (h w' hc)
theorem step_copy_any {P : Program} {ops : Array Oper} {o : Oper} {a : Act} {w : World} {K : Act → World → Prop} {Q : Exit → Act → World → Prop} {E : Prop} (hgd : o.guard = none) (d s : Operand) (dT sT : TypeId)
    (ho : o.op = .call { callee := .builtin .copy, args := #[d, s], argTypes := #[dT, sT] }) (elem : TypeId) (hu : P.underlying dT = some (.slice elem)) {sz : Nat} (hsz : (P.info? elem).map (·.size) = some sz)
    (dp sp : Option Addr) (dLen dCap sLen sCap n : Nat) (hd : a.eval d = .slice dp dLen dCap) (hs : a.eval s = .slice sp sLen sCap)
    (g off : Nat) (cur : List Value) (t : TypeId) (hg : w.heap[g]? = some (.cells cur.toArray t (0, 0))) (hn : Nat.min sLen dLen = n) (cs : List Value) (hl : cs.length = n * sz)
    (hpos : 0 < n → dp = some ⟨g, off, none⟩ ∧ ∃ ad, sp = some ad ∧ ∀ j v, cs[j]? = some v → w.cell? (ad.add j) = some v)
    (hfit : off + cs.length ≤ cur.length) (h1 : ∀ v ∈ cs, v.oneCell' = true)
    (h : ∀ w', Hid (Copied w g cur off cs t w') → K (a.put o.dst (goInt n)) w') :
    if Region.wanted o (yielded ops a.tmps) = true then Oper.wp P o a w K Q else E := by
  have hw : Region.wanted o (yielded ops a.tmps) = true := by simp [Region.wanted, hgd]
  rw [if_pos hw]
  obtain ⟨w', hrun, hc⟩ := run_copy_any (P := P) w dT sT o.type elem hu hsz dp sp dLen dCap sLen sCap n g off cur t hg hn cs hl hpos hfit h1
  unfold Oper.wp
  simp [execOp, ho, resolve, invoke, builtin, hd, hs, hrun, Result.andThen]
  exact h w' hc
end Go.Proofs.YtmiepnnpccpicaaGreat

namespace Go.Proofs.YtmiepnnpccpicaaGreat.Codes
open Go.RowKit Go.WideShapes Go.Proofs.YtmiepnnpccpicaaGreat.Place Ops
theorem splice_nil {α : Type} (L : List α) (o : Nat) : splice L o [] = L := by simp [splice]
theorem splice_cons {α : Type} (L : List α) (o : Nat) (v : α) (vs : List α) (h : o + (vs.length + 1) ≤ L.length) : splice L o (v :: vs) = splice (L.set o v) (o + 1) vs := by
  unfold splice
  have h1 : (L.set o v).take (o + 1) = L.take o ++ [v] := by
    rw [List.take_succ_eq_append_getElem (by simp; omega), List.take_set_of_le (Nat.le_refl _), List.getElem_set_self]
  have h2 : (L.set o v).drop (o + 1 + vs.length) = L.drop (o + (v :: vs).length) := by
    rw [List.drop_set_of_lt (by omega)]
    congr 1
    simp; omega
  rw [h1, h2]
  simp
theorem put_step {X : World} {g o : Nat} {cur : List Value} {t : TypeId} (d : Value) (h : X.heap[g]? = some (.cells cur.toArray t (0, 0))) :
    (X.setCell ⟨g, o, none⟩ d).heap[g]? = some (.cells (cur.set o d).toArray t (0, 0)) := by
  have := heap_setCell_same X g o _ _ d h
  simpa using this
theorem put5_copied {X : World} {g o : Nat} {cur : List Value} {t : TypeId} (d0 d1 d2 d3 d4 : Value) (h : X.heap[g]? = some (.cells cur.toArray t (0, 0))) (hl : o + 5 ≤ cur.length) :
    Copied X g cur o [d0, d1, d2, d3, d4] t (((((X.setCell ⟨g, o, none⟩ d0).setCell ⟨g, o + 1, none⟩ d1).setCell ⟨g, o + 2, none⟩ d2).setCell ⟨g, o + 3, none⟩ d3).setCell ⟨g, o + 4, none⟩ d4) := by
  refine ⟨?_, ?_, ?_, ?_⟩
  · have h5 := put_step d4 (o := o + 4) (put_step d3 (o := o + 3) (put_step d2 (o := o + 2) (put_step d1 (o := o + 1) (put_step d0 (o := o) h))))
    rw [h5, splice_cons _ _ _ _ (by simpa using hl), splice_cons _ _ _ _ (by simp; omega), splice_cons _ _ _ _ (by simp; omega), splice_cons _ _ _ _ (by simp; omega), splice_cons _ _ _ _ (by simp; omega), splice_nil]
  · intro k hk
    rw [heap_setCell_other _ _ _ _ hk, heap_setCell_other _ _ _ _ hk, heap_setCell_other _ _ _ _ hk, heap_setCell_other _ _ _ _ hk, heap_setCell_other _ _ _ _ hk]
  · simp
  · intro B hB
    exact (((((Below.refl B X).setCell (p := ⟨g, o, none⟩) hB _).setCell (p := ⟨g, o + 1, none⟩) hB _).setCell (p := ⟨g, o + 2, none⟩) hB _).setCell (p := ⟨g, o + 3, none⟩) hB _).setCell (p := ⟨g, o + 4, none⟩) hB _
/-- A row of another kind stays. -/
theorem own_copied {w w' : World} {base g sz n : Nat} {e t : TypeId} {v : Value} {cs cur cs' : List Value} {o : Nat} (h : w.ownsRow base e sz v n cs) (hg : w.heap[g]? = some (.cells cur.toArray t (0, 0))) (hne : t ≠ e) (hc : Copied w g cur o cs' t w') : w'.ownsRow base e sz v n cs := by
  refine ⟨h.1, h.2.imp id ?_⟩
  rintro ⟨b, cap, c2, e1, e2, e3, e4⟩
  refine ⟨b, cap, c2, e1, e2, ?_, e4⟩
  rw [hc.2.1 b (fun e => by
    subst e
    rw [hg] at e3
    injection e3 with e3
    injection e3 with e5 e6
    exact hne e6)]
  exact e3
theorem HoldP.copied {w w' : World} {base g : Nat} {cur cs' : List Value} {o : Nat} (hg : w.heap[g]? = some (.cells cur.toArray 47 (0, 0))) (hc : Copied w g cur o cs' 47 w') : ∀ {cs : List Value} {l : List Opn}, HoldP w base cs l → HoldP w' base cs l
  | _, [], h => h
  | _, _ :: _, ⟨v, d, h1, h2, h3⟩ => ⟨v, d, h1, own_copied h2 hg (by decide) hc, HoldP.copied hg hc h3⟩
theorem HoldP.len {w : World} {base : Nat} {cs : List Value} {l : List Opn} (h : HoldP w base cs l) : cs.length = l.length * 5 := Enc.rows_len (E := opE) h.rows
/-- A list in a row that is known whole. -/
theorem ownl_row {w : World} {base g cap : Nat} {cs d : List Value} {l : List Opn} {n : Nat} (hg : w.heap[g]? = some (.cells (cs ++ d).toArray 47 (0, 0))) (hb : base ≤ g) (h : HoldP w base cs l) (hn : n = l.length) (hc : (cs ++ d).length = cap * 5) (hm : cap ≤ maxLen) : OwnL w base (.slice (some ⟨g, 0, none⟩) n cap) l := by
  have hl := h.len
  subst hn
  refine ⟨cs, ⟨hl, .inr ⟨g, cap, _, rfl, hb, hg, ?_, hm, by simpa using hc, ?_⟩⟩, h⟩
  · rw [List.length_append, hl] at hc; omega
  · rw [← hl]; simp
def TwR (w wr : World) (l : List Opn) (c0 : List Value) (j : Nat) : Prop :=
  ∃ A, HoldP wr w.heap.size A (l.take j) ∧ wr.heap[w.heap.size]? = some (.cells (A ++ c0.drop (j * 5)).toArray 47 (0, 0))
theorem twr_len {w wr : World} {l : List Opn} {j : Nat} {A : List Value} (h : HoldP wr w.heap.size A (l.take j)) (hj : j ≤ l.length) : A.length = j * 5 := by
  rw [h.len, List.length_take, Nat.min_eq_left hj]
theorem twr_at {w wr : World} {l : List Opn} {c0 : List Value} {j : Nat} (hc : opE.rows w c0 l) (h : TwR w wr l c0 j) (hj : j < l.length) :
    ∃ v, Runs w v (l[j]'hj).pl ∧ wr.cell? ⟨w.heap.size, j * 5, none⟩ = some (.int .u8 ((l[j]'hj).k : Int)) ∧ wr.cell? ⟨w.heap.size, j * 5 + 1, none⟩ = some (.int .u32 ((l[j]'hj).t : Int)) ∧ wr.cell? ⟨w.heap.size, j * 5 + 2, none⟩ = some (.int .u8 ((l[j]'hj).r : Int)) ∧
      wr.cell? ⟨w.heap.size, j * 5 + 3, none⟩ = some v ∧ wr.cell? ⟨w.heap.size, j * 5 + 4, none⟩ = some (.int .i64 (l[j]'hj).p) := by
  obtain ⟨A, h1, h2⟩ := h
  have hl := twr_len h1 (Nat.le_of_lt hj)
  obtain ⟨c, ⟨v, rfl, hr⟩, hcs⟩ := Enc.rows_at j hj hc
  have hcell : ∀ i u, i < 5 → ([Value.int .u8 ((l[j]'hj).k : Int), .int .u32 ((l[j]'hj).t : Int), .int .u8 ((l[j]'hj).r : Int), v, .int .i64 (l[j]'hj).p][i]? = some u) → wr.cell? ⟨w.heap.size, j * 5 + i, none⟩ = some u := fun i u hi hu => by
    rw [cell_of_row wr w.heap.size (j * 5 + i) _ _ _ h2]
    have h3 := hcs i hi
    rw [show opE.sz = 5 from rfl, hu] at h3
    rw [List.getElem?_toArray, List.getElem?_append_right (by omega), hl, List.getElem?_drop, show j * 5 + (j * 5 + i - j * 5) = j * 5 + i by omega]
    exact h3
  exact ⟨v, hr, hcell 0 _ (by decide) rfl, hcell 1 _ (by decide) rfl, hcell 2 _ (by decide) rfl, hcell 3 _ (by decide) rfl, hcell 4 _ (by decide) rfl⟩
theorem twr_step {w wr W8 X : World} {l : List Opn} {c0 : List Value} {j : Nat} {x : Opn} {u : Value} (hc : opE.rows w c0 l) (h : TwR w wr l c0 j) (hj : j < l.length) (hx : x = l[j]'hj) (hb : Below wr.heap.size wr W8)
    (ho : W8.ownsRow w.heap.size 40 3 u x.pl.length (runs x.pl))
    (hX : X = (((((W8.setCell ⟨w.heap.size, j * 5, none⟩ (.int .u8 (x.k : Int))).setCell ⟨w.heap.size, j * 5 + 1, none⟩ (.int .u32 (x.t : Int))).setCell ⟨w.heap.size, j * 5 + 2, none⟩ (.int .u8 (x.r : Int))).setCell ⟨w.heap.size, j * 5 + 3, none⟩ u).setCell ⟨w.heap.size, j * 5 + 4, none⟩ (.int .i64 x.p))) :
    TwR w X l c0 (j + 1) ∧ ∀ B, B ≤ w.heap.size → Below B W8 X := by
  obtain ⟨A, h1, h2⟩ := h
  have hl := twr_len h1 (Nat.le_of_lt hj)
  have h3 := blk_below hb h2
  have hcl : c0.length = l.length * 5 := Enc.rows_len hc
  have hc8 := put5_copied (o := j * 5) (.int .u8 (x.k : Int)) (.int .u32 (x.t : Int)) (.int .u8 (x.r : Int)) u (.int .i64 x.p) h3 (by rw [List.length_append, List.length_drop, hcl, hl]; omega)
  rw [← hX] at hc8
  refine ⟨⟨A ++ [.int .u8 (x.k : Int), .int .u32 (x.t : Int), .int .u8 (x.r : Int), u, .int .i64 x.p], ?_, ?_⟩, hc8.2.2.2⟩
  · rw [List.take_succ_eq_append_getElem hj, ← hx]
    exact HoldP.append (HoldP.copied h3 hc8 (h1.keeps hb)) ⟨u, [], rfl, own_copied ho h3 (by decide) hc8, rfl⟩
  · rw [hc8.1]
    congr 3
    unfold splice
    rw [List.take_append_of_le_length (by omega), List.take_of_length_le (by omega), List.append_assoc]
    congr 2
    rw [List.drop_append, List.drop_eq_nil_of_le (by simp; omega), List.nil_append, List.drop_drop]
    congr 1
    simp; omega
end Go.Proofs.YtmiepnnpccpicaaGreat.Codes

namespace Go.Proofs.YtmiepnnpccpicaaGreat.Bags
open Go.RowKit Go.WideShapes Stamp Go.Proofs.YtmiepnnpccpicaaGreat.Place Ops Codes
attribute [local go_sem ↓] Go.wp_at_zero Go.wp_at_succ
theorem made_opsN (n : Nat) (hn : n ≤ 1000000000) : ∃ Z : List Value, Z.length = n * 5 ∧ ∀ w : World, (Instr.makeSlice 22 (.int .i64 (n : Int)) (.int .i64 (n : Int))).run Tryz.prog w = .ok (.slice (some ⟨w.heap.size, 0, none⟩) n n) (w.alloc (.cells Z.toArray 47)) := by
  obtain ⟨i, hi, hz0, hz1, hz2⟩ := info_parts op_info
  refine ⟨(madeCells (Value.agg #[.int .u8 0, .int .u32 0, .int .u8 0, .slice none 0 0, .int .i64 0]).cells (n * 5)).toList, by simp [size_madeCells], fun w => ?_⟩
  have h := run_make (P := Tryz.prog) w 22 47 i _ Tryz.underlying22 hi hz0 .i64 .i64 (n : Int) (n : Int) (by omega) (by omega) (by rw [hz2]; omega) (by omega)
  rw [hz1] at h
  simpa using h
set_option maxRecDepth 100000 in
set_option maxHeartbeats 8000000 in
theorem bTwinX_any {v : Value} {l : List Opn} {w : World} (hv : OpL w v l) (hl : l.length ≤ 1000000000) (hp : ∀ o ∈ l, o.pl.length ≤ 8796093022208) :
    Calls Tryz.prog 40 #[v] w fun e w' => e = .returned (.slice (some ⟨w.heap.size, 0, none⟩) l.length l.length) ∧ OwnL w' w.heap.size (.slice (some ⟨w.heap.size, 0, none⟩) l.length l.length) l ∧ Below w.heap.size w w' := by
  obtain ⟨ao, cap, rfl⟩ := hv.shape
  obtain ⟨c0, hs0, hr0⟩ := hv
  obtain ⟨n, hn⟩ : ∃ n, n = l.length := ⟨_, rfl⟩
  have HN := Lib.hid hn
  have HP := Lib.hid hp
  have HR := Lib.hid hr0
  have hcl : c0.length = n * 5 := by rw [hn]; exact Enc.rows_len hr0
  obtain ⟨Z, hZ, MK⟩ := made_opsN n (by omega)
  have HC : Hid (∀ W : World, Below w.heap.size w W → 0 < n → ∃ ad, ao = some ad ∧ ∀ j v, c0[j]? = some v → W.cell? (ad.add j) = some v) := fun W hW h0 => by
    rcases (hs0.keeps hW).2 with ⟨ao', cap', he, _, _, _, h5⟩
    obtain ⟨rfl, -, rfl⟩ := Value.slice.inj he
    rcases h5 with h5 | ⟨b, off, rfl, hb, hc⟩
    · rw [h5] at hcl; simp at hcl; omega
    · exact ⟨_, rfl, fun j v hj => by rw [add_plain]; exact hc j v hj⟩
  have HON : Hid (∀ v ∈ c0, v.oneCell' = true) := Enc.rows_one hr0
  have HCL := Lib.hid hcl
  have HZ := Lib.hid hZ
  rw [← hn]
  rw [← hn] at hl
  have B0 : Hid (Below w.heap.size w (w.alloc (.cells Z.toArray 47))) := (Below.refl _ _).alloc (Nat.le_refl _) _
  have G0 : Hid ((w.alloc (.cells Z.toArray 47)).heap[w.heap.size]? = some (.cells Z.toArray 47)) := blk_new rfl
  clear hn hp hr0 hs0 hcl hZ
  go_enter Tryz.func40, Tryz.ntmps40
  go_wp2_with (refine wpList_copy_any rfl (.tmp 9) (.tmp 10) 22 22 rfl 47 Tryz.underlying22 (sz := 5) (by kernel_rfl) (some ⟨w.heap.size, 0, none⟩) ao n n n cap n rfl rfl w.heap.size 0 Z 47 G0.out (Nat.min_self n) c0 HCL.out (fun h0 => ⟨rfl, HC.out _ B0.out h0⟩) (by rw [HCL.out, HZ.out]; omega) HON.out ?_)
  rintro w2 hc2
  have T0 : Hid (TwR w w2 l c0 0) := ⟨[], rfl, by
    rw [hc2.out.1]
    congr 3
    simp [splice, HCL.out, ← HZ.out]⟩
  have B2 : Hid (Below w.heap.size w w2) := B0.out.trans (hc2.out.2.2.2 _ (Nat.le_refl _))
  clear hc2 B0 G0 MK
  go_wp2
  go_loopw [14] (fun i wr => ∃ j : Nat, j ≤ n ∧ i = .int .i64 (j : Int) ∧ Hid (TwR w wr l c0 j) ∧ Hid (Below w.heap.size w wr)) (fun i _ => n - (intOf i).toNat)
  case atStart => exact ⟨0, by omega, rfl, T0, B2⟩
  case round =>
    clear T0 B2
    obtain ⟨j, hj, rfl, htw, hbel⟩ := hrel
    by_cases hjn : j < n
    rotate_left
    · have q3 : decide (j < n) = false := by simpa using hjn
      have R1 : Hid (OwnL wr w.heap.size (.slice (some ⟨w.heap.size, 0, none⟩) n n) l) := by
        obtain ⟨A, h1, h2⟩ := htw.out
        obtain rfl : j = n := by omega
        rw [List.take_of_length_le (by rw [← HN.out]; omega)] at h1
        exact ownl_row h2 (Nat.le_refl _) h1 HN.out (by rw [List.length_append, List.length_drop, HCL.out, h1.len, ← HN.out]; omega) (by unfold maxLen; omega)
      clear htw
      go_wp2
      go_ret
      exact ⟨rfl, R1.out, hbel.out⟩
    have q3 : decide (j < n) = true := by simpa using hjn
    have q4 : (0 : Int) ≤ (j : Int) := by omega
    have q5 : (j : Int) < (n : Int) := by omega
    have hjl : j < l.length := by rw [← HN.out]; exact hjn
    obtain ⟨u, hru, h0, h1, h2, h3, h4⟩ := twr_at HR.out htw.out hjl
    obtain ⟨x, hx⟩ : ∃ x, x = l[j]'hjl := ⟨_, rfl⟩
    have hpx : x.pl.length ≤ 8796093022208 := HP.out x (by rw [hx]; exact List.getElem_mem hjl)
    rw [← hx] at hru h0 h1 h2 h4
    obtain ⟨uo, uc, rfl⟩ := hru.shape
    obtain ⟨nu, hnu⟩ : ∃ n, n = x.pl.length := ⟨_, rfl⟩
    rw [← hnu] at hru h3
    have ST : Hid (∀ (W8 X : World) (u : Value), Below wr.heap.size wr W8 → W8.ownsRow w.heap.size 40 3 u x.pl.length (runs x.pl) → X = (((((W8.setCell ⟨w.heap.size, j * 5, none⟩ (.int .u8 (x.k : Int))).setCell ⟨w.heap.size, j * 5 + 1, none⟩ (.int .u32 (x.t : Int))).setCell ⟨w.heap.size, j * 5 + 2, none⟩ (.int .u8 (x.r : Int))).setCell ⟨w.heap.size, j * 5 + 3, none⟩ u).setCell ⟨w.heap.size, j * 5 + 4, none⟩ (.int .i64 x.p)) →
        TwR w X l c0 (j + 1) ∧ ∀ B, B ≤ w.heap.size → Below B W8 X) := fun W8 X u hb ho hX => twr_step HR.out htw.out hjl hx hb ho hX
    have HSZ : Hid (w.heap.size ≤ wr.heap.size) := hbel.out.size
    have HGB : Hid (w.heap.size < wr.heap.size) := by
      obtain ⟨A, _, g2⟩ := htw.out
      exact (Array.getElem?_eq_some_iff.1 g2).1
    have HFR : Hid (∀ (W : World) (o : Nat), Below wr.heap.size wr W → W.frozen? ⟨w.heap.size, o, none⟩ = false) := fun W o hW => by
      obtain ⟨A, _, g2⟩ := htw.out
      exact free5 (blk_below hW g2) o
    have TW : Hid (∀ W : World, Below wr.heap.size wr W → Calls Tryz.prog 42 #[opv x (.slice uo nu uc)] W fun e w' => ∃ ao cap, e = .returned (opv x (.slice ao nu cap)) ∧ w'.ownsRow w.heap.size 40 3 (.slice ao nu cap) x.pl.length (runs x.pl) ∧ Below W.heap.size W w') := fun W hW => by
      refine (oTwin_any ((hru.keeps hbel.out).keeps hW) hpx).mono ?_
      rintro e w' ⟨v', rfl, ho, hb⟩
      obtain ⟨ao', cap', rfl⟩ : ∃ ao cap, v' = .slice ao x.pl.length cap := Sees.shape (Sees.own ho)
      rw [← hnu] at ho ⊢
      exact ⟨ao', cap', rfl, op_base ho (Nat.le_trans HSZ.out hW.size), hb⟩
    have HO : Hid (∀ v : Value, opv x v = .agg #[.int .u8 (x.k : Int), .int .u32 (x.t : Int), .int .u8 (x.r : Int), v, .int .i64 x.p]) := fun v => rfl
    obtain ⟨k, hk⟩ : ∃ k, x.k = k := ⟨_, rfl⟩
    obtain ⟨t, ht⟩ : ∃ k, x.t = k := ⟨_, rfl⟩
    obtain ⟨r, hr⟩ : ∃ k, x.r = k := ⟨_, rfl⟩
    obtain ⟨p, hp⟩ : ∃ k, x.p = k := ⟨_, rfl⟩
    rw [hk, ht, hr, hp] at HO ST
    rw [hk] at h0
    rw [ht] at h1
    rw [hr] at h2
    rw [hp] at h4
    simp only [HO.out] at TW
    have BL : Hid (Below wr.heap.size wr (wr.alloc (.cells #[.int .u8 (k : Int), .int .u32 (t : Int), .int .u8 (r : Int), .slice uo nu uc, .int .i64 p] 47))) := (Below.refl _ _).alloc (Nat.le_refl _) _
    have F0 : Hid (FiveAt wr w.heap.size (j * 5) (.int .u8 (k : Int)) (.int .u32 (t : Int)) (.int .u8 (r : Int)) (.slice uo nu uc) (.int .i64 p)) := ⟨HGB.out, h0, h1, h2, h3, h4⟩
    clear hru hx hk ht hr hp hnu htw hpx
    go_wp2_with fail
    refine (TW.out _ BL.out).mono ?_
    rintro e w5 ⟨a5, c5, rfl, o5, b5⟩
    have B5 := Lib.hid (bt BL.out b5)
    have O5 := Lib.hid o5
    have hf := fun o => HFR.out w5 o B5.out
    obtain ⟨_, g0, g1, g2, g3, g4⟩ := F0.out.keeps B5.out
    clear o5 b5 h0 h1 h2 h3 h4
    go_wp2
    obtain ⟨X, hX⟩ : ∃ X, X = (((((w5.setCell ⟨w.heap.size, j * 5, none⟩ (.int .u8 (k : Int))).setCell ⟨w.heap.size, j * 5 + 1, none⟩ (.int .u32 (t : Int))).setCell ⟨w.heap.size, j * 5 + 2, none⟩ (.int .u8 (r : Int))).setCell ⟨w.heap.size, j * 5 + 3, none⟩ (.slice a5 nu c5)).setCell ⟨w.heap.size, j * 5 + 4, none⟩ (.int .i64 p)) := ⟨_, rfl⟩
    have SX := ST.out w5 X _ B5.out O5.out hX
    rw [← hX]
    have TX := Lib.hid SX.1
    have BX := Lib.hid ((bt hbel.out B5.out).trans (SX.2 _ (Nat.le_refl _)))
    clear SX hX
    go_roundw
    case rel => exact ⟨j + 1, by omega, by go_num, TX, BX⟩
    case measure => simp [intOf]; omega
end Go.Proofs.YtmiepnnpccpicaaGreat.Bags

namespace Go.Proofs.YtmiepnnpccpicaaGreat.Bags
open Go.RowKit Go.WideShapes Stamp Go.Proofs.YtmiepnnpccpicaaGreat.Place Ops Codes
attribute [local go_sem ↓] Go.wp_at_zero Go.wp_at_succ
theorem holdp_take {w : World} {base : Nat} : ∀ {cs : List Value} {l : List Opn} (k : Nat), HoldP w base cs l → HoldP w base (cs.take (k * 5)) (l.take k)
  | _, _, 0, _ => by simp [HoldP]
  | cs, [], k + 1, h => by rw [show cs = [] from h]; simp [HoldP]
  | cs, o :: l, k + 1, ⟨v, d, h1, h2, h3⟩ => by
    refine ⟨v, d.take (k * 5), ?_, h2, holdp_take k h3⟩
    rw [h1, show (k + 1) * 5 = k * 5 + 1 + 1 + 1 + 1 + 1 by omega]
    rfl
theorem holdp_drop {w : World} {base : Nat} : ∀ {cs : List Value} {l : List Opn} (k : Nat), HoldP w base cs l → HoldP w base (cs.drop (k * 5)) (l.drop k)
  | cs, l, 0, h => by simpa using h
  | cs, [], k + 1, h => by rw [show cs = [] from h]; simp [HoldP]
  | cs, o :: l, k + 1, ⟨v, d, h1, h2, h3⟩ => by
    have := holdp_drop k h3
    rw [h1, show (k + 1) * 5 = k * 5 + 1 + 1 + 1 + 1 + 1 by omega]
    exact this
theorem sees_blk5 {X : World} {g : Nat} {c0 c1 c2 c3 c4 : Value} {e : TypeId} (h : X.heap[g]? = some (.cells #[c0, c1, c2, c3, c4] e)) : Sees X (.slice (some ⟨g, 0, none⟩) 1 1) 5 1 [c0, c1, c2, c3, c4] := by
  refine ⟨rfl, _, _, rfl, Nat.le_refl _, by decide, by simp, .inr ⟨g, 0, rfl, (Array.getElem?_eq_some_iff.1 h).1, fun j u hj => ?_⟩⟩
  rw [cell_of_row X g (0 + j) _ e _ h, Nat.zero_add]
  simpa using hj
theorem splice_ins {α : Type} (A B F R Z : List α) (k : Nat) (hA : A.length = k * 5) (hF : F.length = 5) (hZ : Z.length = 5 + B.length + R.length) :
    ∃ R', splice (splice (A ++ Z) (k * 5) F) ((k + 1) * 5) B = A ++ F ++ B ++ R' ∧ R'.length = R.length := by
  refine ⟨Z.drop (5 + B.length), ?_, by simp; omega⟩
  unfold splice
  have e1 : (A ++ Z).take (k * 5) = A := by rw [← hA]; simp
  have e2 : (A ++ Z).drop (k * 5 + F.length) = Z.drop 5 := by rw [List.drop_append, List.drop_eq_nil_of_le (by omega), List.nil_append, hA, hF]; congr 1; omega
  rw [e1, e2]
  have e3 : (A ++ (F ++ Z.drop 5)).take ((k + 1) * 5) = A ++ F := by
    rw [← List.append_assoc, List.take_append_of_le_length (by simp; omega), List.take_of_length_le (by simp; omega)]
  have e4 : (A ++ (F ++ Z.drop 5)).drop ((k + 1) * 5 + B.length) = Z.drop (5 + B.length) := by
    rw [← List.append_assoc, List.drop_append, List.drop_eq_nil_of_le (by simp; omega), List.nil_append, List.drop_drop]
    congr 1
    simp; omega
  rw [e3, e4]
  simp
set_option maxRecDepth 100000 in
set_option maxHeartbeats 8000000 in
theorem bIns_any {base G V n k : Nat} {l : List Opn} {o : Opn} {u : Value} {w : World} (hs : OwnL w base (.slice (some ⟨G, 0, none⟩) n n) l) (hk : k ≤ n) (hn2 : n ≤ 1024)
    (hV : w.heap[V]? = some (.cells #[.int .u8 (o.k : Int), .int .u32 (o.t : Int), .int .u8 (o.r : Int), u, .int .i64 o.p] 47)) (hu : w.ownsRow base 40 3 u o.pl.length (runs o.pl)) (hb : base ≤ w.heap.size) :
    Calls Tryz.prog 41 #[.slice (some ⟨G, 0, none⟩) n n, .int .i64 (k : Int), .slice (some ⟨V, 0, none⟩) 1 1] w fun e w' => ∃ v', e = .returned v' ∧ OwnL w' base v' (l.take k ++ o :: l.drop k) ∧ Below base w w' := by
  obtain ⟨cs, ho, hh⟩ := hs
  have hcase := ho.2
  have hcl := ho.1
  obtain ⟨hGb, hGr, hnl⟩ : base ≤ G ∧ w.heap[G]? = some (.cells cs.toArray 47 (0, 0)) ∧ n = l.length := by
    rcases hcase with ⟨h0, _⟩ | ⟨g, cap, cur, he, h1, h2, h3, h4, h5, h6⟩
    · cases h0
    · obtain ⟨ha, hb2, hc2⟩ := Value.slice.inj he
      obtain rfl : G = g := by cases ha; rfl
      subst hc2
      refine ⟨h1, ?_, hb2⟩
      rw [h2, ← h6, List.take_of_length_le (by rw [Array.length_toList, h5, hb2]; exact Nat.le_refl _)]
  rw [← hnl] at hcl
  have FO : Hid (∀ z ∈ ([.int .u8 (o.k : Int), .int .u32 (o.t : Int), .int .u8 (o.r : Int), u, .int .i64 o.p] : List Value), z.oneCell' = true) := five_one o u (by obtain ⟨ao, cap, e⟩ := Sees.shape (Sees.own hu); exact ⟨ao, _, cap, e⟩)
  have SV : Hid (Sees w (.slice (some ⟨V, 0, none⟩) 1 1) 5 1 [.int .u8 (o.k : Int), .int .u32 (o.t : Int), .int .u8 (o.r : Int), u, .int .i64 o.p]) := sees_blk5 hV
  by_cases hkn : k = n
  · subst hkn
    have OA : Hid (w.ownsRow base 47 5 (.slice (some ⟨G, 0, none⟩) k k) k cs) := by rw [hnl] at ho ⊢; exact ho
    have RS : Hid (∀ (v5 : Value) (w5 : World), w.grownBy w5 (Value.slice (some ⟨G, 0, none⟩) k k).ownBlock → w5.ownsRow base 47 5 v5 (k + 1) (cs ++ [.int .u8 (o.k : Int), .int .u32 (o.t : Int), .int .u8 (o.r : Int), u, .int .i64 o.p]) → OwnL w5 base v5 (l.take k ++ o :: l.drop k)) := fun v5 w5 g5 o5 => by
      rw [List.take_of_length_le (by omega), List.drop_eq_nil_of_le (by omega)]
      exact OwnL.snoc ho hh (Below.refl _ _) hu g5 o5 (by rw [hnl])
    have t1 : ((k : Int) == (k : Int)) = true := by simp
    clear ho hh hcase hGb hGr hV hu hcl hnl
    go_enter Tryz.func41, Tryz.ntmps41
    go_wp2_with (at_builtin; refine wpList_append_sees rfl (.tmp 23) (.tmp 24) 22 47 rfl Tryz.underlying22 op_info rfl (by decide) base _ k cs rfl OA.out _ 1 _ rfl SV.out FO.out ?k1 ?k2 ?k3 ?_)
    case k1 => omega
    case k2 => omega
    case k3 => exact hb
    rintro v6 w6 o6 g6 b6
    have R6 := Lib.hid (RS.out _ _ g6 o6)
    have B6 := Lib.hid b6
    obtain ⟨va, vc, rfl⟩ : ∃ ao cap, v6 = .slice ao (k + 1) cap := Sees.shape (Sees.own o6)
    clear o6 g6 b6
    go_wp2
    go_ret
    exact ⟨_, rfl, R6.out, B6.out⟩
  have hlt : k < n := by omega
  obtain ⟨i0, hi0, hz0, hzs, hzb⟩ := info_parts op_info
  obtain ⟨zz, hzz⟩ : ∃ zz, zz = Value.agg #[.int .u8 0, .int .u32 0, .int .u8 0, .slice none 0 0, .int .i64 0] := ⟨_, rfl⟩
  have hzc : zz.cells.size = 5 := by rw [hzz]; rfl
  rw [← hzz] at hz0
  clear hzz
  have hold : (Builtin.firstCells i0.size k (.slice (some ⟨G, 0, none⟩) k n)).run Tryz.prog w.drew = .ok (cs.take (k * 5)).toArray w.drew := by
    rw [hzs]
    refine run_firstCells_some w.drew 5 k ⟨G, 0, none⟩ k n (cs.take (k * 5)) (by rw [List.length_take, hcl]; omega) (fun j v hj => ?_)
    rw [add_plain]
    have hj2 : cs[j]? = some v := by
      rw [List.getElem?_take] at hj
      split at hj
      · exact hj
      · cases hj
    show w.cell? ⟨G, 0 + j, none⟩ = some v
    rw [cell_of_row w G (0 + j) _ _ _ hGr, Nat.zero_add]
    simpa using hj2
  have hgc := grownCap_ge w (n + 1) n 47
  have hgm := grownCap_le_maxLen w (n + 1) n 47 (by unfold maxLen; omega)
  obtain ⟨C, hC⟩ : ∃ C, C = grownCap w (n + 1) n 47 := ⟨_, rfl⟩
  have hrz : ∀ ty, (Builtin.append_ #[22, 3] ty #[.slice (some ⟨G, 0, none⟩) k n, .int .i64 ((n : Int) + 1 - (k : Int))]).run Tryz.prog w =
      .ok (.slice (some ⟨w.heap.size, 0, none⟩) (n + 1) C) (w.drew.alloc (.cells ((cs.take (k * 5)).toArray ++ Builtin.zeroCells zz.cells (n + 1 - k) ++ Builtin.zeroCells zz.cells (C - (n + 1))) 47)) := fun ty => by
    have h := Lib.run_append_grow_zeros w 22 3 ty 47 i0 _ .i64 .i64 Tryz.underlying22 Tryz.underlying3 hi0 hz0 (some ⟨G, 0, none⟩) k n _ hold (n + 1 - k) (by omega) (by omega) (by omega) (by omega) (by rw [hzb]; omega) (by rw [hzb, show k + (n + 1 - k) = n + 1 by omega]; exact growslice_fits (by omega) (by omega))
    rw [show k + (n + 1 - k) = n + 1 by omega, ← hC] at h
    rw [show (n : Int) + 1 - (k : Int) = ((n + 1 - k : Nat) : Int) by omega]
    exact h
  rw [← hC] at hgc hgm
  obtain ⟨Z, hZ⟩ : ∃ Z : List Value, Z = (Builtin.zeroCells zz.cells (n + 1 - k) ++ Builtin.zeroCells zz.cells (C - (n + 1))).toList := ⟨_, rfl⟩
  have hZl : Z.length = (C - k) * 5 := by
    rw [hZ]
    simp [Builtin.zeroCells, hzc]
    omega
  have hrow : (cs.take (k * 5)).toArray ++ Builtin.zeroCells zz.cells (n + 1 - k) ++ Builtin.zeroCells zz.cells (C - (n + 1)) = (cs.take (k * 5) ++ Z).toArray := by
    rw [hZ]
    apply Array.ext'
    simp
  simp only [hrow] at hrz
  obtain ⟨W1, hW1⟩ : ∃ W1, W1 = w.drew.alloc (.cells (cs.take (k * 5) ++ Z).toArray 47) := ⟨_, rfl⟩
  rw [← hW1] at hrz
  have BW1 : Below w.heap.size w W1 := by rw [hW1]; exact (drew1 w).alloc (Nat.le_refl _) _
  have G1 : Hid (W1.heap[w.heap.size]? = some (.cells (cs.take (k * 5) ++ Z).toArray 47)) := by rw [hW1]; exact blk_new (by rfl)
  have SV1 : Hid (Sees W1 (.slice (some ⟨V, 0, none⟩) 1 1) 5 1 [.int .u8 (o.k : Int), .int .u32 (o.t : Int), .int .u8 (o.r : Int), u, .int .i64 o.p]) := SV.out.keeps BW1
  have hVc : Hid (∀ j v, ([.int .u8 (o.k : Int), .int .u32 (o.t : Int), .int .u8 (o.r : Int), u, .int .i64 o.p] : List Value)[j]? = some v → W1.cell? ((⟨V, 0, none⟩ : Addr).add j) = some v) := fun j v hj => SV1.out.cells j v hj
  have hAl : (cs.take (k * 5)).length = k * 5 := by rw [List.length_take, hcl]; omega
  have HAl := Lib.hid hAl
  have HZl := Lib.hid hZl
  have HCL := Lib.hid hcl
  have hdl : Hid ((cs.drop (k * 5)).length = (n - k) * 5) := by unfold Hid; rw [List.length_drop, hcl]; omega
  have hdo : Hid (∀ v ∈ cs.drop (k * 5), v.oneCell' = true) := fun v hv => Enc.rows_one hh.rows v (List.mem_of_mem_drop hv)
  have hGlt : G < w.heap.size := (Array.getElem?_eq_some_iff.1 hGr).1
  have GW : Hid (W1.heap[G]? = some (.cells cs.toArray 47 (0, 0))) := blk_below BW1 hGr
  -- what comes out
  have FIN : Hid (∀ w2 w3 : World, Copied W1 w.heap.size (cs.take (k * 5) ++ Z) (k * 5) [.int .u8 (o.k : Int), .int .u32 (o.t : Int), .int .u8 (o.r : Int), u, .int .i64 o.p] 47 w2 →
      Copied w2.drew w.heap.size (splice (cs.take (k * 5) ++ Z) (k * 5) [.int .u8 (o.k : Int), .int .u32 (o.t : Int), .int .u8 (o.r : Int), u, .int .i64 o.p]) ((k + 1) * 5) (cs.drop (k * 5)) 47 w3 →
      OwnL w3 base (.slice (some ⟨w.heap.size, 0, none⟩) (n + 1) C) (l.take k ++ o :: l.drop k) ∧ Below base w w3) := fun w2 w3 c2 c3 => by
    have g2 : w2.drew.heap[w.heap.size]? = some (.cells (splice (cs.take (k * 5) ++ Z) (k * 5) [.int .u8 (o.k : Int), .int .u32 (o.t : Int), .int .u8 (o.r : Int), u, .int .i64 o.p]).toArray 47 (0, 0)) := c2.1
    have d2 : Below w2.heap.size w2 w2.drew := drew1 w2
    have hz1 : HoldP w3 base cs l := HoldP.copied g2 c3 (HoldP.keeps d2 (HoldP.copied G1.out c2 (hh.keeps BW1)))
    have hu1 : w3.ownsRow base 40 3 u o.pl.length (runs o.pl) := own_copied (own_stays (own_copied (own_stays hu BW1) G1.out (by decide) c2) d2) g2 (by decide) c3
    obtain ⟨R, hR, hRl⟩ := splice_ins (cs.take (k * 5)) (cs.drop (k * 5)) [Value.int .u8 (o.k : Int), .int .u32 (o.t : Int), .int .u8 (o.r : Int), u, .int .i64 o.p] (List.replicate ((C - (n + 1)) * 5) undef) Z k HAl.out rfl (by rw [HZl.out, hdl.out, List.length_replicate]; omega)
    refine ⟨?_, ?_⟩
    · refine ownl_row (cs := cs.take (k * 5) ++ ([Value.int .u8 (o.k : Int), .int .u32 (o.t : Int), .int .u8 (o.r : Int), u, .int .i64 o.p] ++ cs.drop (k * 5))) (d := R) (by rw [c3.1, hR]; simp) hb ?_ ?_ ?_ hgm
      · exact HoldP.append (holdp_take k hz1) ⟨u, _, rfl, hu1, holdp_drop k hz1⟩
      · rw [List.length_append, List.length_cons, List.length_take, List.length_drop]; omega
      · rw [List.length_append, hRl, List.length_replicate, List.length_append, List.length_append, HAl.out, hdl.out]
        simp
        omega
    · exact ((BW1.mono hb).trans (c2.2.2.2 _ hb)).trans ((d2.mono (by rw [c2.2.2.1]; exact Nat.le_trans hb BW1.size)).trans (c3.2.2.2 _ hb))
  have hC1 : ¬ (C = k) := by omega
  have hC2 : ¬ (C = k + 1) := by omega
  have hnk : ¬ (n = k) := by omega
  have hkn2 : ¬ ((k : Int) = (n : Int)) := by omega
  have t1 : ((k : Int) == (n : Int)) = false := by simp; omega
  have t2 : (n : Int) < (n : Int) + 1 := by omega
  have hw1 : IntKind.i64.wrap ((k : Int) + 1) = (k : Int) + 1 := by rw [IntKind.wrap_i64]; omega
  have hw2 : IntKind.i64.wrap ((n : Int) + 1) = (n : Int) + 1 := by rw [IntKind.wrap_i64]; omega
  have hb1 : (0 : Int) ≤ (k : Int) + 1 := by omega
  have hb2 : (k : Int) + 1 ≤ (n : Int) + 1 := by omega
  have hb3 : (k : Int) ≤ (n : Int) := by omega
  have hb4 : (k : Int) ≤ (n : Int) + 1 := by omega
  have htn : ((k : Int) + 1).toNat = k + 1 := by omega
  clear ho hh hcase hGr hV hu hcl hZ hrow hC hi0 hz0 hzs hzb hold hAl hZl SV hnl hGb
  clear hW1
  go_enter Tryz.func41, Tryz.ntmps41
  go_wp2_with (first
    | (at_builtin; refine Lib.wpList_append_run _ rfl _ _ _ _ rfl _ _ rfl rfl _ _ (hrz _) ?_)
    | (refine wpList_copy_any rfl (.tmp 43) (.tmp 44) 22 22 rfl 47 Tryz.underlying22 (sz := 5) (by kernel_rfl) (some ⟨w.heap.size, k * 5, none⟩) (some ⟨V, 0, none⟩) (n + 1 - k) (C - k) 1 1 1 rfl rfl w.heap.size (k * 5) (cs.take (k * 5) ++ Z) 47 G1.out (Nat.min_eq_left (by omega)) [.int .u8 (o.k : Int), .int .u32 (o.t : Int), .int .u8 (o.r : Int), u, .int .i64 o.p] rfl (fun _ => ⟨rfl, _, rfl, hVc.out⟩) (by rw [List.length_append, HAl.out, HZl.out]; show _ + 5 ≤ _; omega) FO.out ?_))
  rintro w2 hc2
  have c2 := hc2
  obtain ⟨g2, hoth, -, -⟩ := c2.out
  have GD : Hid (w2.drew.heap[w.heap.size]? = some (.cells (splice (cs.take (k * 5) ++ Z) (k * 5) [.int .u8 (o.k : Int), .int .u32 (o.t : Int), .int .u8 (o.r : Int), u, .int .i64 o.p]).toArray 47 (0, 0))) := g2
  have SD : Hid (∀ j v, (cs.drop (k * 5))[j]? = some v → w2.drew.cell? ((⟨G, k * 5, none⟩ : Addr).add j) = some v) := fun j v hj => by
    rw [add_plain]
    have e1 : w2.drew.heap[G]? = some (.cells cs.toArray 47 (0, 0)) := (hoth G (by omega)).trans GW.out
    rw [cell_of_row _ G (k * 5 + j) _ _ _ e1]
    rw [List.getElem?_drop] at hj
    simpa using hj
  have FN := Lib.hid (fun w3 h => FIN.out w2 w3 hc2.out h)
  have SPL : Hid ((splice (cs.take (k * 5) ++ Z) (k * 5) [.int .u8 (o.k : Int), .int .u32 (o.t : Int), .int .u8 (o.r : Int), u, .int .i64 o.p]).length = C * 5) := by
    unfold Hid
    rw [length_splice _ _ _ (by rw [List.length_append, HAl.out, HZl.out]; show _ + 5 ≤ _; omega), List.length_append, HAl.out, HZl.out]; omega
  obtain ⟨L2, hL2⟩ : ∃ L2, L2 = splice (cs.take (k * 5) ++ Z) (k * 5) [.int .u8 (o.k : Int), .int .u32 (o.t : Int), .int .u8 (o.r : Int), u, .int .i64 o.p] := ⟨_, rfl⟩
  rw [← hL2] at GD FN SPL
  clear hc2 c2 g2 hoth hL2 FIN hrz GW G1 SV1 hVc FO
  go_wp2
  go_region_law (refine step_copy_any rfl (.tmp 50) (.tmp 53) 22 22 rfl 47 Tryz.underlying22 (sz := 5) (by kernel_rfl) (some ⟨w.heap.size, (k + 1) * 5, none⟩) (some ⟨G, k * 5, none⟩) (n + 1 - (k + 1)) (C - (k + 1)) (n - k) (n - k) (n - k) (by simp [Act.eval, Act.put]) (by simp [Act.eval, Act.put]) w.heap.size ((k + 1) * 5) L2 47 GD.out (by rw [show n + 1 - (k + 1) = n - k by omega]; exact Nat.min_self _) (cs.drop (k * 5)) hdl.out (fun _ => ⟨rfl, _, rfl, SD.out⟩) (by rw [hdl.out, SPL.out]; omega) hdo.out ?_; intro w3 hc3)
  have F3 := FN.out w3 hc3.out
  have O3 := Lib.hid F3.1
  have B3 := Lib.hid F3.2
  clear F3 hc3
  go_wp2
  go_ret
  exact ⟨_, rfl, O3.out, B3.out⟩
end Go.Proofs.YtmiepnnpccpicaaGreat.Bags

namespace Go.Proofs.YtmiepnnpccpicaaGreat.Bags
open Go.RowKit Go.WideShapes Stamp Go.Proofs.YtmiepnnpccpicaaGreat.Place Ops Codes
attribute [local go_sem ↓] Go.wp_at_zero Go.wp_at_succ
theorem alloc_bo {wl W : World} (h : Below wl.heap.size wl W) (o : Obj) : Below wl.heap.size wl (W.alloc o) := h.alloc h.size o
set_option maxRecDepth 100000 in
set_option maxHeartbeats 16000000 in
theorem bAdd_any {v u0 : Value} {l : List Opn} {o : Opn} {w : World} (hv : OpL w v l) (hu : Runs w u0 o.pl) :
    Calls Tryz.prog 14 #[v, opv o u0] w (DoneN (addL l o) (addE l o) w) := by
  have CK : Hid (∀ W : World, Below w.heap.size w W → Calls Tryz.prog 37 #[v] W fun e w' => e = .returned (.int .i64 (chkL l)) ∧ Below W.heap.size W w') := fun W h => bCheck_any (hv.keeps h)
  have SR : Hid (Bag l → ∀ W : World, Below w.heap.size w W → Calls Tryz.prog 39 #[v, .agg #[.int .u32 (o.t : Int), .int .u8 (o.r : Int)]] W fun e w' => ∃ k : Nat, e = .returned (.tuple #[.int .i64 (k : Int), .bool (hasO l (idO o))]) ∧ Pos l (idO o) k ∧ Below W.heap.size W w') := fun hb W h => bSearch_any (idO o) (hv.keeps h) (by have := hb.1; omega) hb.2.2
  have TWL : Hid (Bag l → ∀ (WB W : World), WB.heap.size ≤ W.heap.size → Below w.heap.size w W → Calls Tryz.prog 40 #[v] W fun e w' => ∃ G, e = .returned (.slice (some ⟨G, 0, none⟩) l.length l.length) ∧ OwnL w' WB.heap.size (.slice (some ⟨G, 0, none⟩) l.length l.length) l ∧ Below W.heap.size W w') := fun hb WB W h1 h2 => by
    refine (bTwinX_any (hv.keeps h2) (by have := hb.1; omega) (bag_fits hb).2).mono ?_
    rintro e w' ⟨rfl, ho, hb⟩
    exact ⟨_, rfl, ho.base h1, hb⟩
  obtain ⟨uo, uc, rfl⟩ := hu.shape
  obtain ⟨nu, hnu⟩ : ∃ n, n = o.pl.length := ⟨_, rfl⟩
  have OC : Hid (∀ W : World, Below w.heap.size w W → Calls Tryz.prog 38 #[opv o (.slice uo o.pl.length uc)] W fun e w' => e = .returned (.int .i64 (chkO o)) ∧ Below W.heap.size W w') := fun W h => oCheck_any (hu.keeps h)
  have TWO : Hid (mayO o = true → ∀ (WB W : World), WB.heap.size ≤ W.heap.size → Below w.heap.size w W → Calls Tryz.prog 42 #[opv o (.slice uo o.pl.length uc)] W fun e w' => ∃ ao cap, e = .returned (opv o (.slice ao o.pl.length cap)) ∧ w'.ownsRow WB.heap.size 40 3 (.slice ao o.pl.length cap) o.pl.length (runs o.pl) ∧ Below W.heap.size W w') := fun hm WB W h1 h2 => by
    refine (oTwin_any (hu.keeps h2) (by have := mayO_fits hm; omega)).mono ?_
    rintro e w' ⟨v', rfl, ho, hb⟩
    obtain ⟨ao', cap', rfl⟩ : ∃ ao cap, v' = .slice ao o.pl.length cap := Sees.shape (Sees.own ho)
    exact ⟨ao', cap', rfl, op_base ho h1, hb⟩
  obtain ⟨ao, cap, rfl⟩ := hv.shape
  obtain ⟨n, hn⟩ : ∃ n, n = l.length := ⟨_, rfl⟩
  have HN := Lib.hid hn
  have INS : Hid (Bag l → ∀ (WB W9 X : World) (G V k : Nat) (a : Option Addr) (c : Nat), OwnL W9 WB.heap.size (.slice (some ⟨G, 0, none⟩) n n) l → Below W9.heap.size W9 X → X.heap[V]? = some (.cells #[.int .u8 (o.k : Int), .int .u32 (o.t : Int), .int .u8 (o.r : Int), .slice a o.pl.length c, .int .i64 o.p] 47) →
      X.ownsRow WB.heap.size 40 3 (.slice a o.pl.length c) o.pl.length (runs o.pl) → WB.heap.size ≤ X.heap.size → Pos l (idO o) k → hasO l (idO o) = false →
      Calls Tryz.prog 41 #[.slice (some ⟨G, 0, none⟩) n n, .int .i64 (k : Int), .slice (some ⟨V, 0, none⟩) 1 1] X fun e w' => ∃ v', e = .returned v' ∧ OwnL w' WB.heap.size v' (withO l o) ∧ Below WB.heap.size X w') := fun hb WB W9 X G V k a c h1 h2 h3 h4 h5 h6 h7 => by
    rw [pos_with h6 h7]
    exact bIns_any (h1.keeps h2) (by rw [hn]; exact h6.1) (by rw [hn]; exact hb.1) h3 h4 h5
  rw [← hn] at CK SR TWL ⊢
  rw [← hnu] at OC TWO INS ⊢
  have HO : Hid (∀ v : Value, opv o v = .agg #[.int .u8 (o.k : Int), .int .u32 (o.t : Int), .int .u8 (o.r : Int), v, .int .i64 o.p]) := fun v => rfl
  have AB : Hid (¬ (Bag l ∧ mayO o = true) → addL l o = [] ∧ addE l o = 8) := fun h => by
    have e : addE l o = 8 := by unfold addE; rw [if_pos (by rw [bagB_iff]; exact h)]
    exact ⟨by unfold addL; rw [e]; rfl, e⟩
  have AT : Hid (Bag l → mayO o = true → hasO l (idO o) = true → addL l o = l ∧ addE l o = 0) := fun h1 h2 h3 => by
    have e : addE l o = 0 := by unfold addE; rw [if_neg (by rw [bagB_iff]; exact fun h => h ⟨h1, h2⟩), if_neg (by rw [withO_len, if_pos h3]; have := h1.1; omega)]
    exact ⟨by unfold addL withO; rw [e, if_pos rfl, if_pos h3], e⟩
  have AF : Hid (Bag l → mayO o = true → hasO l (idO o) = false → n = 1024 → addL l o = [] ∧ addE l o = 9) := fun h1 h2 h3 h4 => by
    have e : addE l o = 9 := by unfold addE; rw [if_neg (by rw [bagB_iff]; exact fun h => h ⟨h1, h2⟩), if_pos (by rw [withO_len, if_neg (by rw [h3]; decide)]; omega)]
    exact ⟨by unfold addL; rw [e]; rfl, e⟩
  have AW : Hid (Bag l → mayO o = true → hasO l (idO o) = false → n ≠ 1024 → addL l o = withO l o ∧ addE l o = 0) := fun h1 h2 h3 h4 => by
    have e : addE l o = 0 := by unfold addE; rw [if_neg (by rw [bagB_iff]; exact fun h => h ⟨h1, h2⟩), if_neg (by rw [withO_len, if_neg (by rw [h3]; decide)]; have := h1.1; omega)]
    exact ⟨by unfold addL; rw [e, if_pos rfl], e⟩
  obtain ⟨RL, hRL⟩ : ∃ z, addL l o = z := ⟨_, rfl⟩
  obtain ⟨RE, hRE⟩ : ∃ z, addE l o = z := ⟨_, rfl⟩
  obtain ⟨RW, hRW⟩ : ∃ z, withO l o = z := ⟨_, rfl⟩
  rw [hRL, hRE] at AB AT AF AW ⊢
  rw [hRW] at AW INS
  obtain ⟨P, hP⟩ : ∃ P : Nat → Prop, P = Pos l (idO o) := ⟨_, rfl⟩
  have hPk : ∀ k, Pos l (idO o) k = P k := fun k => by rw [hP]
  simp only [hPk] at SR INS
  obtain ⟨q, hq⟩ : ∃ q, hasO l (idO o) = q := ⟨_, rfl⟩
  rw [hq] at SR INS AT AF AW
  unfold chkO at OC
  obtain ⟨my, hmy⟩ : ∃ b, mayO o = b := ⟨_, rfl⟩
  rw [hmy] at OC TWO AB AT AF AW
  clear hRL hRE hRW hP hPk hq hmy hv hu
  obtain ⟨L, hL⟩ : ∃ L, L = runs o.pl := ⟨_, rfl⟩
  rw [← hL] at TWO INS
  clear hnu hL
  obtain ⟨k0, hk0⟩ : ∃ z, o.k = z := ⟨_, rfl⟩
  obtain ⟨t0, ht0⟩ : ∃ z, o.t = z := ⟨_, rfl⟩
  obtain ⟨r0, hr0⟩ : ∃ z, o.r = z := ⟨_, rfl⟩
  obtain ⟨p0, hp0⟩ : ∃ z, o.p = z := ⟨_, rfl⟩
  rw [hk0, ht0, hr0, hp0] at HO INS
  rw [ht0, hr0] at SR
  simp only [HO.out] at OC TWO ⊢
  have BL : Hid (Below w.heap.size w (w.alloc (.cells #[.int .u8 (k0 : Int), .int .u32 (t0 : Int), .int .u8 (r0 : Int), .slice uo nu uc, .int .i64 p0] 47))) := (Below.refl _ _).alloc (Nat.le_refl _) _
  have CE : Hid (∀ W : World, Below (w.alloc (.cells #[.int .u8 (k0 : Int), .int .u32 (t0 : Int), .int .u8 (r0 : Int), .slice uo nu uc, .int .i64 p0] 47)).heap.size (w.alloc (.cells #[.int .u8 (k0 : Int), .int .u32 (t0 : Int), .int .u8 (r0 : Int), .slice uo nu uc, .int .i64 p0] 47)) W → W.cell? ⟨w.heap.size, 0, none⟩ = some (.int .u8 (k0 : Int)) ∧ W.cell? ⟨w.heap.size, 1, none⟩ = some (.int .u32 (t0 : Int)) ∧ W.cell? ⟨w.heap.size, 2, none⟩ = some (.int .u8 (r0 : Int)) ∧ W.cell? ⟨w.heap.size, 3, none⟩ = some (.slice uo nu uc) ∧ W.cell? ⟨w.heap.size, 4, none⟩ = some (.int .i64 p0)) := fun W h => five_cells h
  clear hn hk0 ht0 hr0 hp0 HO
  by_cases hbag : Bag l
  rotate_left
  · rw [chkL_no hbag] at CK
    obtain ⟨rfl, rfl⟩ := AB.out (fun h => hbag h.1)
    clear AB AT AF AW INS TWO TWL OC SR CE
    go_enter Tryz.func14, Tryz.ntmps14
    go_wp2_with fail
    refine (CK.out _ BL.out).mono ?_
    rintro e w1 ⟨rfl, b1⟩
    have B1 := Lib.hid (bt BL.out b1)
    clear b1
    go_wp2
    go_ret2
    exact ⟨_, rfl, OwnL.nil _ _, B1.out⟩
  rw [chkL_yes hbag] at CK
  cases my
  · obtain ⟨rfl, rfl⟩ := AB.out (fun h => by cases h.2)
    rw [if_neg (by simp)] at OC
    clear AB AT AF AW INS TWO TWL SR
    go_enter Tryz.func14, Tryz.ntmps14
    go_wp2_with fail
    refine (CK.out _ BL.out).mono ?_
    rintro e w1 ⟨rfl, b1⟩
    have B1 := Lib.hid (bt BL.out b1)
    obtain ⟨g0, g1, g2, g3, g4⟩ := CE.out _ b1
    clear b1 CE
    go_wp2_with fail
    refine (OC.out _ B1.out).mono ?_
    rintro e w2 ⟨rfl, b2⟩
    have B2 := Lib.hid (bt B1.out b2)
    clear b2
    go_wp2
    go_ret2
    exact ⟨_, rfl, OwnL.nil _ _, B2.out⟩
  rw [if_pos rfl] at OC
  have SR2 := Lib.hid (SR.out hbag)
  have TL2 := Lib.hid (TWL.out hbag)
  have TO2 := Lib.hid (TWO.out rfl)
  have IN2 := Lib.hid (INS.out hbag)
  have AT2 := Lib.hid (AT.out hbag rfl)
  have AF2 := Lib.hid (AF.out hbag rfl)
  have AW2 := Lib.hid (AW.out hbag rfl)
  have hnm : n ≤ 1024 := by rw [HN.out]; exact hbag.1
  clear AB AT AF AW INS TWO TWL SR hbag
  go_enter Tryz.func14, Tryz.ntmps14
  go_wp2_with fail
  refine (CK.out _ BL.out).mono ?_
  rintro e w1 ⟨rfl, b1⟩
  have B1 := Lib.hid (bt BL.out b1)
  have K1 := Lib.hid b1
  obtain ⟨g0, g1, g2, g3, g4⟩ := CE.out _ b1
  clear b1 CK
  go_wp2_with fail
  refine (OC.out _ B1.out).mono ?_
  rintro e w2 ⟨rfl, b2⟩
  have B2 := Lib.hid (bt B1.out b2)
  have K2 := Lib.hid (bt K1.out b2)
  clear b2 g0 g1 g2 g3 g4 OC K1
  obtain ⟨g0, g1, g2, g3, g4⟩ := CE.out _ K2.out
  go_wp2_with fail
  refine (SR2.out _ B2.out).mono ?_
  rintro e w3 ⟨k, rfl, hk, b3⟩
  have B3 := Lib.hid (bt B2.out b3)
  have K3 := Lib.hid (bt K2.out b3)
  have HK := Lib.hid hk
  clear b3 hk g0 g1 g2 g3 g4 SR2 K2 B2 B1
  cases q
  rotate_left
  · obtain ⟨rfl, rfl⟩ := AT2.out rfl
    clear AF2 AW2 IN2 TO2 CE K3
    go_wp2_with fail
    refine (TL2.out w w3 B3.out.size B3.out).mono ?_
    rintro e w4 ⟨G4, rfl, o4, b4⟩
    have B4 := Lib.hid (bt B3.out b4)
    have O4 := Lib.hid o4
    clear o4 b4
    go_wp2
    go_ret2
    exact ⟨_, rfl, O4.out, B4.out⟩
  by_cases hfull : n = 1024
  · have d1 : decide (n = 1024) = true := decide_eq_true hfull
    have d2 : ((n : Int) == 1024) = true := by simp; omega
    obtain ⟨rfl, rfl⟩ := AF2.out rfl hfull
    clear AT2 AW2 IN2 TO2 TL2 CE K3
    go_wp2
    go_ret2
    exact ⟨_, rfl, OwnL.nil _ _, B3.out⟩
  have d1 : decide (n = 1024) = false := decide_eq_false hfull
  have d2 : ((n : Int) == 1024) = false := by simp; omega
  obtain ⟨rfl, rfl⟩ := AW2.out rfl hfull
  have SK : Hid (∀ w' : World, Below w3.heap.size w3 w' → Below w3.heap.size w3 w' ∧ w'.cell? ⟨w.heap.size, 0, none⟩ = some (.int .u8 (k0 : Int)) ∧ w'.cell? ⟨w.heap.size, 1, none⟩ = some (.int .u32 (t0 : Int)) ∧ w'.cell? ⟨w.heap.size, 2, none⟩ = some (.int .u8 (r0 : Int)) ∧ w'.cell? ⟨w.heap.size, 3, none⟩ = some (.slice uo nu uc) ∧ w'.cell? ⟨w.heap.size, 4, none⟩ = some (.int .i64 p0)) := fun W h => ⟨h, CE.out W (bt K3.out h)⟩
  have TL3 : Hid (∀ W : World, Below w3.heap.size w3 W → Calls Tryz.prog 40 #[.slice ao n cap] W fun e w' => ∃ G, e = .returned (.slice (some ⟨G, 0, none⟩) n n) ∧ OwnL w' w3.heap.size (.slice (some ⟨G, 0, none⟩) n n) l ∧ Below w3.heap.size w3 w') := fun W h => by
    refine (TL2.out w3 W h.size (bt B3.out h)).mono ?_
    rintro e w' ⟨G, rfl, ho, hb⟩
    exact ⟨G, rfl, ho, bt h hb⟩
  have TO3 : Hid (∀ W : World, Below w3.heap.size w3 W → Calls Tryz.prog 42 #[.agg #[.int .u8 (k0 : Int), .int .u32 (t0 : Int), .int .u8 (r0 : Int), .slice uo nu uc, .int .i64 p0]] W fun e w' => ∃ ao cap, e = .returned (.agg #[.int .u8 (k0 : Int), .int .u32 (t0 : Int), .int .u8 (r0 : Int), .slice ao nu cap, .int .i64 p0]) ∧ w'.ownsRow w3.heap.size 40 3 (.slice ao nu cap) nu L ∧ Below w3.heap.size w3 w' ∧ Below W.heap.size W w') := fun W h => by
    refine (TO2.out w3 W h.size (bt B3.out h)).mono ?_
    rintro e w' ⟨ao, cap, rfl, ho, hb⟩
    exact ⟨ao, cap, rfl, ho, bt h hb, hb⟩
  have IN3 : Hid (∀ (W9 w10 : World) (G : Nat) (a : Option Addr) (c : Nat), OwnL W9 w3.heap.size (.slice (some ⟨G, 0, none⟩) n n) l → Below W9.heap.size W9 w10 → w10.ownsRow w3.heap.size 40 3 (.slice a nu c) nu L → Below w3.heap.size w3 w10 →
      Calls Tryz.prog 41 #[.slice (some ⟨G, 0, none⟩) n n, .int .i64 (k : Int), .slice (some ⟨w10.heap.size, 0, none⟩) 1 1] (w10.alloc (.cells #[.int .u8 (k0 : Int), .int .u32 (t0 : Int), .int .u8 (r0 : Int), .slice a nu c, .int .i64 p0] 47)) fun e w' => ∃ v', e = .returned v' ∧ OwnL w' w3.heap.size v' RL ∧ Below w3.heap.size w3 w') := fun W9 w10 G a c h1 h2 h3 h4 => by
    have bA : Below w10.heap.size w10 (w10.alloc (.cells #[.int .u8 (k0 : Int), .int .u32 (t0 : Int), .int .u8 (r0 : Int), .slice a nu c, .int .i64 p0] 47)) := (Below.refl _ _).alloc (Nat.le_refl _) _
    refine (IN2.out w3 W9 _ G w10.heap.size k a c h1 (bt h2 bA) (blk_new rfl) (own_stays h3 bA) (bt h4 bA).size HK.out rfl).mono ?_
    rintro e w' ⟨v', rfl, ho, hb⟩
    exact ⟨v', rfl, ho, (bt h4 bA).trans hb⟩
  clear AT2 AF2 AW2 IN2 TO2 TL2 CE K3
  go_wp2
  go_region_held3 (fun w' => Below w3.heap.size w3 w' ∧ w'.cell? ⟨w.heap.size, 0, none⟩ = some (.int .u8 (k0 : Int)) ∧ w'.cell? ⟨w.heap.size, 1, none⟩ = some (.int .u32 (t0 : Int)) ∧ w'.cell? ⟨w.heap.size, 2, none⟩ = some (.int .u8 (r0 : Int)) ∧ w'.cell? ⟨w.heap.size, 3, none⟩ = some (.slice uo nu uc) ∧ w'.cell? ⟨w.heap.size, 4, none⟩ = some (.int .i64 p0))
    (first | exact SK.out _ (drew1 _) | (go_split_ands; refine SK.out _ ?_; repeat' (first | assumption | (with_reducible refine Below.drew ?_) | (with_reducible refine below_draw ?_ _) | (with_reducible refine alloc_bo ?_ _) | fail)))
    ((first
      | (go_at_call 40; (with_reducible refine (TL3.out _ ?hw).mono ?_)
         case hw => go_split_ands; repeat' (first | assumption | (with_reducible refine Below.drew ?_) | (with_reducible refine below_draw ?_ _) | (with_reducible refine alloc_bo ?_ _) | fail)
         rintro e w9 ⟨G9, rfl, o9, b9⟩)
      | (go_at_call 42; (with_reducible refine (TO3.out _ ?hw).mono ?_)
         case hw => go_split_ands; repeat' (first | assumption | (with_reducible refine Below.drew ?_) | (with_reducible refine below_draw ?_ _) | (with_reducible refine alloc_bo ?_ _) | fail)
         rintro e w10 ⟨a10, c10, rfl, o10, b10, k10⟩)
      | (go_at_call 41; (with_reducible refine (IN3.out w9 w10 G9 a10 c10 o9 ?h1 o10 b10).mono ?_)
         case h1 => repeat' (first | assumption | (with_reducible refine Below.drew ?_) | (with_reducible refine below_draw ?_ _) | fail)
         rintro e w11 ⟨v11, rfl, o11, b11⟩)))
  have O11 : Hid (OwnL w11 w.heap.size v11 RL) := OwnL.base o11 B3.out.size
  have B11 := Lib.hid (bt B3.out b11)
  clear o11 b11 o10 b10 k10 o9 b9
  go_wp2
  go_ret2
  exact ⟨_, rfl, O11.out, B11.out⟩
end Go.Proofs.YtmiepnnpccpicaaGreat.Bags
