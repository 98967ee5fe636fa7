/- Elements of the call's own, their places too; what stays of them where they are written over. Conditions: none. -/
import Derived.Maps.Own
import Derived.Maps.OwnOps
import Derived.Maps.OwnSet
import Derived.Maps.Views
import Derived.DeepKeys4
import Derived.Shelf.SlSortCmp.InsertionK
import Derived.Test.YtohiidgdpecbdaaPk07
import Derived.Test.YtohiidgdpecbdaaPk01
import Derived.Test.YtohiidgdpecbdaaPk06
import Derived.Test.YtohiidgdpecbdaaPk04
import Derived.Test.YtohiidgdpecbdaaPk05
import Derived.Test.YtohiidgdpecbdaaPk03

namespace Go.Proofs.Ytohiidgdpecbdaa.Views
open Go.RowKit Go.WideShapes Stamp Go.Proofs.Ytohiidgdpecbdaa.Place Ops Codes Bags Marks Homes Covers
attribute [local go_sem ↓] Go.wp_at_zero Go.wp_at_succ
attribute [local go_sem] yielded_undef

/-- Elements in cells, each place of the call's own. -/
def HoldE (w : World) (base : Nat) : List Value → List Opn → Prop
  | cs, [] => cs = []
  | cs, o :: l => ∃ v d, cs = [.int .u32 (o.t : Int), .int .u8 (o.r : Int), v, .int .i64 o.p] ++ d ∧ w.ownsRow base 31 3 v o.pl.length (runs o.pl) ∧ HoldE w base d l
theorem HoldE.rows {w : World} {base : Nat} : ∀ {cs : List Value} {l : List Opn}, HoldE w base cs l → elmE.rows w cs l
  | _, [], h => h
  | _, _ :: _, ⟨v, d, h1, h2, h3⟩ => ⟨_, d, h1, ⟨v, rfl, Runs.own h2⟩, HoldE.rows h3⟩
theorem HoldE.keeps {w w' : World} {base : Nat} (hb : Below w.heap.size w w') : ∀ {cs : List Value} {l : List Opn}, HoldE w base cs l → HoldE w' base cs l
  | _, [], h => h
  | _, _ :: _, ⟨v, d, h1, h2, h3⟩ => ⟨v, d, h1, own_stays h2 hb, HoldE.keeps hb h3⟩
theorem HoldE.append {w : World} {base : Nat} : ∀ {cs ds : List Value} {l m : List Opn}, HoldE w base cs l → HoldE w base ds m → HoldE w base (cs ++ ds) (l ++ m)
  | cs, _, [], _, h, h2 => by rw [show cs = [] from h]; exact h2
  | _, ds, _ :: _, _, ⟨v, d, h1, h3, h4⟩, h2 => ⟨v, d ++ ds, by rw [h1, List.append_assoc], h3, HoldE.append h4 h2⟩
theorem HoldE.base {w : World} {b b' : Nat} (hb : b' ≤ b) : ∀ {cs : List Value} {l : List Opn}, HoldE w b cs l → HoldE w b' cs l
  | _, [], h => h
  | _, _ :: _, ⟨v, d, h1, h2, h3⟩ => ⟨v, d, h1, op_base h2 hb, HoldE.base hb h3⟩
theorem HoldE.grown {w w' : World} {base sz n B : Nat} {v : Value} {rs : List Value} (hg : w.grownBy w' v.ownBlock) (hv : w.ownsRow B 34 sz v n rs) : ∀ {cs : List Value} {l : List Opn}, HoldE w base cs l → HoldE w' base cs l
  | _, [], h => h
  | _, _ :: _, ⟨u, d, h1, h2, h3⟩ => by
    refine ⟨u, d, h1, ?_, HoldE.grown hg hv h3⟩
    refine ⟨h2.1, h2.2.imp id fun ⟨g, cap, cur, e1, e2, e3, e4⟩ => ⟨g, cap, cur, e1, e2, ?_, e4⟩⟩
    exact blk_grown hg (own_ne hv e3 (by intro c h; injection h with h1 h2 h3; exact absurd h2 (by decide))) e3
/-- A list of elements of the call's own, its places too. -/
def OwnE (w : World) (base : Nat) (v : Value) (l : List Opn) : Prop := ∃ cs, w.ownsRow base 34 4 v l.length cs ∧ HoldE w base cs l
theorem OwnE.el {w : World} {base : Nat} {v : Value} {l : List Opn} (h : OwnE w base v l) : ElL w v l := by
  obtain ⟨cs, h1, h2⟩ := h
  exact ⟨cs, Sees.own h1, h2.rows⟩
theorem OwnE.keeps {w w' : World} {base : Nat} {v : Value} {l : List Opn} (h : OwnE w base v l) (hb : Below w.heap.size w w') : OwnE w' base v l := by
  obtain ⟨cs, h1, h2⟩ := h
  exact ⟨cs, own_stays h1 hb, h2.keeps hb⟩
theorem OwnE.nil (w : World) (base : Nat) : OwnE w base (.slice none 0 0) [] := ⟨[], World.ownsRow_nil _ _ _ _, rfl⟩
theorem OwnE.base {w : World} {b b' : Nat} {v : Value} {l : List Opn} (h : OwnE w b v l) (hb : b' ≤ b) : OwnE w b' v l := by
  obtain ⟨cs, h1, h2⟩ := h
  exact ⟨cs, op_base h1 hb, h2.base hb⟩
/-- One more behind a list: what is appended, and to where. -/
theorem OwnE.snoc {W W8 w5 : World} {base m : Nat} {v v5 u : Value} {cs : List Value} {l : List Opn} {o : Opn} (h1 : W.ownsRow base 34 4 v l.length cs) (h2 : HoldE W base cs l) (hb : Below W.heap.size W W8)
    (hu : W8.ownsRow base 31 3 u o.pl.length (runs o.pl)) (g5 : W8.grownBy w5 v.ownBlock) (o5 : w5.ownsRow base 34 4 v5 m (cs ++ [.int .u32 (o.t : Int), .int .u8 (o.r : Int), u, .int .i64 o.p])) (hm : m = l.length + 1) : OwnE w5 base v5 (l ++ [o]) := by
  have hx := own_stays h1 hb
  refine ⟨_, by rw [List.length_append, List.length_singleton, ← hm]; exact o5, ?_⟩
  refine HoldE.append (HoldE.grown g5 hx (h2.keeps hb)) ?_
  exact HoldE.grown g5 hx ⟨u, [], rfl, hu, rfl⟩
/-- Elements of the call's own, and an error. -/
def DoneOE (L : List Opn) (x : Int) (w : World) (e : Ending) (w' : World) : Prop := ∃ v, e = .returned (.tuple #[v, .int .i64 x]) ∧ OwnE w' w.heap.size v L ∧ Below w.heap.size w w'
/-- An element of the call's own, and an error. -/
def OneE (o : Opn) (x : Int) (w : World) (e : Ending) (w' : World) : Prop := ∃ vt, e = .returned (.tuple #[elv o vt, .int .i64 x]) ∧ w'.ownsRow w.heap.size 31 3 vt o.pl.length (runs o.pl) ∧ Below w.heap.size w w'

/-! ### Written over -/
/-- The places of a row of elements may be written over: they lie from base on, none in the row's own block. -/
def SpE (w : World) (base b : Nat) (cb : Array Value) (n : Nat) : Prop := w.heap[b]? = some (.cells cb 34 (0, 0)) ∧ n * 4 ≤ cb.size ∧ ∀ k, k < n → ∃ so m sc, cb[k * 4 + 2]? = some (.slice so m sc) ∧ m ≤ 9223372036854775807 ∧
    (m = 0 ∨ ∃ g cur, so = some ⟨g, 0, none⟩ ∧ base ≤ g ∧ g ≠ b ∧ w.heap[g]? = some (.cells cur 31 (0, 0)) ∧ m * 3 ≤ cur.size)
theorem SpE.keeps {w w' : World} {base b n : Nat} {cb : Array Value} (h : SpE w base b cb n) (hb : Below w.heap.size w w') : SpE w' base b cb n := by
  obtain ⟨h1, h2, h3⟩ := h
  refine ⟨blk_below hb h1, h2, fun k hk => ?_⟩
  obtain ⟨so, m, sc, f1, f2, f3⟩ := h3 k hk
  exact ⟨so, m, sc, f1, f2, f3.imp id fun ⟨g, cur, g1, g2, g3, g4, g5⟩ => ⟨g, cur, g1, g2, g3, blk_below hb g4, g5⟩⟩
theorem SpE.set {w : World} {base b n g j : Nat} {cb : Array Value} {u : Value} (h : SpE w base b cb n) (hg : g ≠ b) : SpE (w.setCell ⟨g, j, none⟩ u) base b cb n := by
  obtain ⟨h1, h2, h3⟩ := h
  refine ⟨(heap_setCell_other w ⟨g, j, none⟩ b u (fun e => hg e.symm)).trans h1, h2, fun k hk => ?_⟩
  obtain ⟨so, m, sc, f1, f2, f3⟩ := h3 k hk
  refine ⟨so, m, sc, f1, f2, f3.imp id fun ⟨q, cur, g1, g2, g3, g4, g5⟩ => ?_⟩
  by_cases e : q = g
  · subst e
    exact ⟨q, _, g1, g2, g3, heap_setCell_same w q j cur _ u g4, by rw [Array.size_setIfInBounds]; exact g5⟩
  · exact ⟨q, cur, g1, g2, g3, (heap_setCell_other w ⟨g, j, none⟩ q u e).trans g4, g5⟩
end Go.Proofs.Ytohiidgdpecbdaa.Views

/- A map from stamps to nothing, as a set of stamps. Conditions: none. -/
namespace Go.Proofs.Ytohiidgdpecbdaa
open Go.RowKit Go.WideShapes
open Go.Maps (Keyed IsMap)

theorem laidOut : laidOutB Try.prog = true := by kernel_rfl
theorem idRow : (29 : TypeId) < Try.prog.types.size := of_decide_eq_true (by kernel_rfl)
theorem idWide : (match Try.prog.underlying 29 with | some (.array _ _) | some (.struct _) => true | _ => false) = true := by rw [Try.underlying29]
set_option maxRecDepth 100000 in
theorem idLaw : Keyed Try.prog 29 := Keyed.of_law (deep_law_laid laidOut (m := 2) (by omega) idRow (by kernel_rfl) idWide)
theorem idType : Try.prog.keyType 29 = true := by kernel_rfl
theorem idCells : Try.prog.cellsOf 29 = 2 := by kernel_rfl
theorem idCell0 : Try.prog.cellsOf 27 = 1 := by kernel_rfl
theorem idCell1 : Try.prog.cellsOf 5 = 1 := by kernel_rfl
theorem idKey_some (a : Id) : ∃ l, keyOf Try.prog 29 (idv a) = some l := by
  obtain ⟨n, hn⟩ : ∃ n, Try.prog.types.size = n + 1 := by
    have h := idRow
    generalize Try.prog.types.size = s at h ⊢
    cases s with
    | zero => exact absurd h (Nat.not_lt_zero _)
    | succ n => exact ⟨n, rfl⟩
  have w0 : (Lit.int .u32 (a.t : Int)).wf = true := by
    have h1 : IntKind.u32.min = 0 := by decide
    have h2 : IntKind.u32.max = 4294967295 := by decide
    have := a.ht
    simp [Lit.wf, h1, h2]
    omega
  have w1 : (Lit.int .u8 (a.r : Int)).wf = true := by
    have h1 : IntKind.u8.min = 0 := by decide
    have h2 : IntKind.u8.max = 255 := by decide
    have := a.hr
    simp [Lit.wf, h1, h2]
    omega
  unfold keyOf idv
  rw [Try.underlying29, idType, hn]
  simp [Value.formed, Program.keyLits, Try.underlying29, Try.underlying27, Try.underlying5, idCells, idCell0, idCell1, w0, w1, Value.cells]
/-- A stamp as a key. -/
noncomputable def key (a : Id) : Lit := (keyOf Try.prog 29 (idv a)).getD (.bool true)
theorem key_of (a : Id) : keyOf Try.prog 29 (idv a) = some (key a) := by
  obtain ⟨l, hl⟩ := idKey_some a
  unfold key
  rw [hl]
  rfl
theorem key_inj {a b : Id} (h : key a = key b) : a = b := by
  have h1 := key_of a
  rw [h] at h1
  have := idLaw.inj h1 (key_of b)
  unfold idv at this
  simp at this
  exact Id.ext' (by omega) (by omega)
/-- Block b is a map with just these stamps. -/
def SetI (w : World) (b n : Nat) (S : Id → Bool) : Prop := ∃ D : DataW Value, w.ownsMap Try.prog 29 unitElem b n D ∧ ∀ a : Id, Maps.has D (key a) = S a
theorem SetI.made (w : World) : SetI (w.alloc (.map #[] 0)) w.heap.size 0 (fun _ => false) := ⟨_, World.ownsMap_made w _ _ _, fun _ => rfl⟩
theorem SetI.keeps {w w' : World} {b n : Nat} {S : Id → Bool} (h : SetI w b n S) (hb : Below w.heap.size w w') : SetI w' b n S := by
  obtain ⟨D, ⟨es, clock, h1, h2, h3, h4⟩, h5⟩ := h
  exact ⟨D, ⟨es, clock, (hb.block b (Array.getElem?_eq_some_iff.1 h1).1).trans h1, h2, h3, h4⟩, h5⟩
theorem SetI.lt {w : World} {b n : Nat} {S : Id → Bool} (h : SetI w b n S) : b < w.heap.size := by
  obtain ⟨D, h1, _⟩ := h
  exact h1.lt
theorem SetI.kept {w w' : World} {b n : Nat} {S : Id → Bool} {row : Option Nat} (h : SetI w b n S) (hg : w.grownBy w' row) (hne : some b ≠ row) : SetI w' b n S := by
  obtain ⟨D, h1, h2⟩ := h
  exact ⟨D, h1.kept hg hne, h2⟩
theorem SetI.ext {w : World} {b n : Nat} {S T : Id → Bool} (h : SetI w b n S) (e : ∀ a, S a = T a) : SetI w b n T := by
  obtain ⟨D, h1, h2⟩ := h
  exact ⟨D, h1, fun a => (h2 a).trans (e a)⟩
set_option maxRecDepth 100000 in
/-- A store of one more, at the operation. -/
theorem wpList_put_set (w : World) {ops : Array Oper} {rest : List Oper} {o : Oper} {a : Act} {Q : Exit → Act → World → Prop}
    (hg : o.guard = none) (m x v : Operand) (t e : TypeId) (hop : o.op = Op.mapUpdate t m x v) (ht : Try.prog.underlying t = some (.map 29 e))
    (b n : Nat) (i : Id) (S : Id → Bool) (hM : SetI w b n S) (hn : n < 9223372036854775807) (hm : a.eval m = .map (some b)) (hx : a.eval x = .agg #[.int .u32 (i.t : Int), .int .u8 (i.r : Int)]) (hv : a.eval v = .agg #[])
    (hK : ∀ w', SetI w' b (n + 1) (fun k => decide (k = i) || S k) → w.grownBy w' (some b) → wpList Try.prog ops Q rest (a.put o.dst undef) w') : wpList Try.prog ops Q (o :: rest) a w := by
  obtain ⟨D, h1, h2⟩ := hM
  refine wpList_mapUpdate_own w hg m x v t hop 29 e idLaw ht unitElem b n D hm h1 (by unfold maxLen; omega) (idv i) (.agg #[]) (key i) hx hv (key_of i) (.agg []) [] unitElem_mk (fun w' h g => hK w' ⟨_, h, fun k => ?_⟩ g)
  by_cases hk : k = i
  · subst hk
    rw [Maps.has_put_same h1.isMap (idLaw.key (key_of k))]
    simp
  · rw [Maps.has_put_other (fun e => hk (key_inj e)), h2 k]
    simp [hk]
theorem del_size {w : World} {b n : Nat} {D : DataW Value} (h : w.ownsMap Try.prog 29 unitElem b n D) (i : Id) : decide (Maps.size (D.del (key i)) < Maps.size D) = Maps.has D (key i) := by
  have e := Maps.size_del (h.tidy idLaw) (k := key i)
  cases hh : Maps.has D (key i) <;> rw [hh] at e <;> simp at e
  · exact decide_eq_false (by omega)
  · exact decide_eq_true (by omega)
theorem del_has {D : DataW Value} {S : Id → Bool} (h : ∀ a : Id, Maps.has D (key a) = S a) (i : Id) : ∀ a : Id, Maps.has (D.del (key i)) (key a) = (S a && !decide (a = i)) := fun a => by
  by_cases e : a = i
  · subst e
    rw [Maps.has_del_same]
    simp
  · rw [Maps.has_del_other (fun k => e (key_inj k)), h a]
    simp [e]
end Go.Proofs.Ytohiidgdpecbdaa

/- octavo/marks.joinedIn, takeOut: what each answers. Conditions: operations that may be, not more than a bag's. -/
namespace Go.Proofs.Ytohiidgdpecbdaa.Marks
open Go.RowKit Go.WideShapes Stamp Go.Proofs.Ytohiidgdpecbdaa.Place Ops Codes Bags
attribute [local go_sem ↓] Go.wp_at_zero Go.wp_at_succ

theorem ended_snoc (l : List Opn) (x : Opn) (a : Id) : ended (l ++ [x]) a = (ended l a || (decide (x.k = 4) && decide (tgt x = a))) := by
  unfold ended
  rw [List.any_append]
  simp

set_option maxRecDepth 100000 in
set_option maxHeartbeats 4000000 in
theorem joinedIn_any {v : Value} {l : List Opn} {w : World} (hv : OpL w v l) (hm : ∀ o ∈ l, mayO o = true) (hl : l.length ≤ 1024) :
    Calls Try.prog 43 #[v] w fun e w' => e = .returned (.map (some w.heap.size)) ∧ SetI w' w.heap.size l.length (ended l) ∧ Below w.heap.size w w' := by
  obtain ⟨ao, cap, rfl⟩ := hv.shape
  obtain ⟨n, hn⟩ : ∃ n, n = l.length := ⟨_, rfl⟩
  have HV : Hid (∀ W : World, Below w.heap.size w W → OpL W (.slice ao l.length cap) l) := fun W h => hv.keeps h
  have HN := Lib.hid hn
  have HMY := Lib.hid hm
  rw [← hn] at hl ⊢
  have hmm := @run_makeMap Try.prog
  have S0 : Hid (SetI (w.alloc (.map #[] 0)) w.heap.size 0 (ended (l.take 0))) := (SetI.made w).ext (fun a => by rw [List.take_zero]; rfl)
  have B0 := Lib.hid ((Below.refl w.heap.size w).alloc (Nat.le_refl _) (.map #[] 0))
  clear hv hn hm
  go_enter Try.func43, Try.ntmps43
  go_wp2
  go_loopw [9] (fun i wr => ∃ j : Nat, j ≤ n ∧ i = .int .i64 (j : Int) ∧ Hid (SetI wr w.heap.size j (ended (l.take j))) ∧ Hid (Below w.heap.size w wr)) (fun i _ => n - (intOf i).toNat)
  case atStart => exact ⟨0, by omega, rfl, S0, B0⟩
  case round =>
    clear S0 B0
    obtain ⟨j, hj, rfl, hset, hbel⟩ := hrel
    by_cases hjn : j < n
    rotate_left
    · have q3 : decide (j < n) = false := by simpa using hjn
      have hkk : l.take j = l := List.take_of_length_le (by have := HN.out; omega)
      rw [hkk] at hset
      obtain rfl : j = n := by omega
      clear hkk
      go_wp2
      go_ret
      exact ⟨rfl, hset.out, hbel.out⟩
    have q3 : decide (j < n) = true := by simpa using hjn
    have q4 : (0 : Int) ≤ (j : Int) := by omega
    have q5 : (j : Int) < (n : Int) := by omega
    have hjl : j < l.length := by rw [← HN.out]; exact hjn
    obtain ⟨bb, oo, u, e, hbb, hru, h0, h1, h2, h3, h4⟩ := opl_at (HV.out wr hbel.out) j hjl
    subst e
    obtain ⟨x, hx⟩ : ∃ x, x = l[j]'hjl := ⟨_, rfl⟩
    rw [← hx] at hru h0 h1 h2 h4
    have hxm : x ∈ l := by rw [hx]; exact List.getElem_mem _
    have MX := HMY.out x hxm
    have hsn : ∀ a, ended (l.take (j + 1)) a = (ended (l.take j) a || (decide (x.k = 4) && decide (tgt x = a))) := fun a => by rw [List.take_succ_eq_append_getElem hjl, ended_snoc, hx]
    have HSN := Lib.hid hsn
    have hc := tgt_cells MX
    have LS : Hid (∀ W : World, Below wr.heap.size wr W → Calls Try.prog 15 #[u] W fun e w' => e = .returned (.agg #[.int .u32 ((tgt x).t : Int), .int .u8 ((tgt x).r : Int)]) ∧ Below W.heap.size W w') := fun W h => by
      rw [hc.1, hc.2]
      exact pLast_any (hru.keeps h)
    obtain ⟨g, hg⟩ : ∃ g, tgt x = g := ⟨_, rfl⟩
    rw [hg] at LS HSN
    obtain ⟨T, R, hT, hR⟩ := g
    simp only at LS
    obtain ⟨uo, uc, rfl⟩ := hru.shape
    obtain ⟨nu, hnu⟩ : ∃ n, n = x.pl.length := ⟨_, rfl⟩
    rw [← hnu] at h3 LS
    obtain ⟨k, hk⟩ : ∃ z, x.k = z := ⟨_, rfl⟩
    obtain ⟨t, ht⟩ : ∃ z, x.t = z := ⟨_, rfl⟩
    obtain ⟨r, hr⟩ : ∃ z, x.r = z := ⟨_, rfl⟩
    obtain ⟨p, hp⟩ : ∃ z, x.p = z := ⟨_, rfl⟩
    rw [hk] at h0 HSN
    rw [ht] at h1
    rw [hr] at h2
    rw [hp] at h4
    have BL : Hid (Below wr.heap.size wr (wr.alloc (.cells #[.int .u8 (k : Int), .int .u32 (t : Int), .int .u8 (r : Int), .slice uo nu uc, .int .i64 p] 54))) := (Below.refl _ _).alloc (Nat.le_refl _) _
    have SL := Lib.hid (hset.out.keeps BL.out)
    have BW := Lib.hid (bt hbel.out BL.out)
    clear hru hx hxm MX hc hg hnu hk ht hr hp hsn hset
    by_cases hk4 : k = 4
    rotate_left
    · have qk : ((k : Int) == 4) = false := by simp; omega
      have qk2 : decide ((k : Int) = 4) = false := decide_eq_false (by omega)
      have S6 : Hid (SetI (wr.alloc (.cells #[.int .u8 (k : Int), .int .u32 (t : Int), .int .u8 (r : Int), .slice uo nu uc, .int .i64 p] 54)) w.heap.size (j + 1) (ended (l.take (j + 1)))) := by
        obtain ⟨D, d1, d2⟩ := SL.out
        exact ⟨D, d1.mono (Nat.le_succ _), fun a => by rw [d2 a, HSN.out a, decide_eq_false hk4]; simp⟩
      clear SL LS hk4 HSN
      go_wp2
      go_roundw
      case rel => exact ⟨j + 1, by omega, by go_num, S6, BW⟩
      case measure => simp [intOf]; omega
    · subst hk4
      have qk : ((((4 : Nat) : Int)) == 4) = true := by rfl
      go_wp2_with fail
      refine (LS.out _ BL.out).mono ?_
      rintro e w2 ⟨rfl, b2⟩
      have S2 := Lib.hid (SL.out.keeps b2)
      have B2 := Lib.hid (bt BW.out b2)
      clear b2 SL BW
      go_wp2_with (at_mapUpdate; refine wpList_put_set _ rfl _ _ _ 72 74 rfl Try.underlying72 w.heap.size j ⟨T, R, hT, hR⟩ (ended (l.take j)) S2.out (by omega) rfl rfl rfl ?_)
      intro w3 s3 g3
      have S3 : Hid (SetI w3 w.heap.size (j + 1) (ended (l.take (j + 1)))) := s3.ext (fun a => by
        rw [HSN.out a, Bool.or_comm]
        simp [eq_comm])
      have B3 : Hid (Below w.heap.size w w3) := B2.out.grown g3 B2.out.size (fun i e => by cases e; exact Nat.le_refl _)
      clear s3 g3 S2 B2 LS BL
      go_wp2
      go_roundw
      case rel => exact ⟨j + 1, by omega, by go_num, S3, B3⟩
      case measure => simp [intOf]; omega

set_option maxRecDepth 100000 in
set_option maxHeartbeats 4000000 in
theorem takeOut_any {b n : Nat} {S : Id → Bool} (i : Id) {w : World} (hs : SetI w b n S) :
    Calls Try.prog 44 #[.map (some b), .agg #[.int .u32 (i.t : Int), .int .u8 (i.r : Int)]] w fun e w' => e = .returned (.bool (S i)) ∧ SetI w' b n (fun a => S a && !decide (a = i)) ∧ w.grownBy w' (some b) := by
  obtain ⟨D, d1, d2⟩ := hs
  have D1 : Hid ((w.alloc (.cells #[.int .u32 (i.t : Int), .int .u8 (i.r : Int)] 29)).ownsMap Try.prog 29 unitElem b n D) := d1.alloc _
  have G1 : Hid (w.grownBy (w.alloc (.cells #[.int .u32 (i.t : Int), .int .u8 (i.r : Int)] 29)) none) := World.grownBy_alloc _ _ _
  have h := del_size d1 i
  rw [d2 i] at h
  obtain ⟨m1, hm1⟩ : ∃ z, Maps.size D = z := ⟨_, rfl⟩
  obtain ⟨m2, hm2⟩ : ∃ z, Maps.size (D.del (key i)) = z := ⟨_, rfl⟩
  rw [hm1, hm2] at h
  have HM1 := Lib.hid hm1
  have HM2 := Lib.hid hm2
  obtain ⟨q, hq⟩ : ∃ q, S i = q := ⟨_, rfl⟩
  rw [hq] at h ⊢
  have h' : decide ((m2 : Int) < (m1 : Int)) = q := by rw [← h]; exact decide_eq_decide.2 (by omega)
  have HD : Hid (∀ a : Id, Maps.has (D.del (key i)) (key a) = (S a && !decide (a = i))) := del_has d2 i
  clear d1 d2 hm1 hm2 hq
  obtain ⟨w3, hrun, d3, t3⟩ := D1.out.drop idLaw Try.underlying72 (key_of i) 0
  unfold idv at hrun
  have D3 := Lib.hid d3
  have G3 := Lib.hid t3.grown
  clear d3 t3
  have hl1 := D1.out.len Try.underlying72 3
  rw [HM1.out] at hl1
  have hl3 := D3.out.len Try.underlying72 3
  rw [HM2.out] at hl3
  go_enter Try.func44, Try.ntmps44
  go_wp2
  go_ret
  exact ⟨rfl, ⟨_, D3.out, HD.out⟩, ⟨G3.out.os.trans G1.out.os, G3.out.tape.trans G1.out.tape, G3.out.output.trans G1.out.output, Nat.le_trans G1.out.size G3.out.size, fun k hk hne => (G3.out.block k (Nat.lt_of_lt_of_le hk G1.out.size) hne).trans (G1.out.block k hk (by simp))⟩⟩
end Go.Proofs.Ytohiidgdpecbdaa.Marks

/- octavo/view.takenAway: what it answers; elements as they are gathered. Conditions: operations that may be, not more than a bag's. -/
namespace Go.Proofs.Ytohiidgdpecbdaa.Views
open Go.RowKit Go.WideShapes Stamp Go.Proofs.Ytohiidgdpecbdaa.Place Ops Codes Bags Marks Homes Covers
attribute [local go_sem ↓] Go.wp_at_zero Go.wp_at_succ

theorem gone_snoc (l : List Opn) (x : Opn) (a : Id) : goneM (l ++ [x]) a = (goneM l a || (decide (x.k = 3) && decide (tgt x = a))) := by
  unfold goneM
  rw [List.any_append]
  simp

set_option maxRecDepth 100000 in
set_option maxHeartbeats 4000000 in
theorem takenAway_any {v : Value} {l : List Opn} {w : World} (hv : OpL w v l) (hm : ∀ o ∈ l, mayO o = true) (hl : l.length ≤ 1024) :
    Calls Try.prog 27 #[v] w fun e w' => e = .returned (.map (some w.heap.size)) ∧ SetI w' w.heap.size l.length (goneM l) ∧ Below w.heap.size w w' := by
  obtain ⟨ao, cap, rfl⟩ := hv.shape
  obtain ⟨n, hn⟩ : ∃ n, n = l.length := ⟨_, rfl⟩
  have HV : Hid (∀ W : World, Below w.heap.size w W → OpL W (.slice ao l.length cap) l) := fun W h => hv.keeps h
  have HN := Lib.hid hn
  have HMY := Lib.hid hm
  rw [← hn] at hl ⊢
  have hmm := @run_makeMap Try.prog
  have S0 : Hid (SetI (w.alloc (.map #[] 0)) w.heap.size 0 (goneM (l.take 0))) := (SetI.made w).ext (fun a => by rw [List.take_zero]; rfl)
  have B0 := Lib.hid ((Below.refl w.heap.size w).alloc (Nat.le_refl _) (.map #[] 0))
  clear hv hn hm
  go_enter Try.func27, Try.ntmps27
  go_wp2
  go_loopw [9] (fun i wr => ∃ j : Nat, j ≤ n ∧ i = .int .i64 (j : Int) ∧ Hid (SetI wr w.heap.size j (goneM (l.take j))) ∧ Hid (Below w.heap.size w wr)) (fun i _ => n - (intOf i).toNat)
  case atStart => exact ⟨0, by omega, rfl, S0, B0⟩
  case round =>
    clear S0 B0
    obtain ⟨j, hj, rfl, hset, hbel⟩ := hrel
    by_cases hjn : j < n
    rotate_left
    · have q3 : decide (j < n) = false := by simpa using hjn
      have hkk : l.take j = l := List.take_of_length_le (by have := HN.out; omega)
      rw [hkk] at hset
      obtain rfl : j = n := by omega
      clear hkk
      go_wp2
      go_ret
      exact ⟨rfl, hset.out, hbel.out⟩
    have q3 : decide (j < n) = true := by simpa using hjn
    have q4 : (0 : Int) ≤ (j : Int) := by omega
    have q5 : (j : Int) < (n : Int) := by omega
    have hjl : j < l.length := by rw [← HN.out]; exact hjn
    obtain ⟨bb, oo, u, e, hbb, hru, h0, h1, h2, h3, h4⟩ := opl_at (HV.out wr hbel.out) j hjl
    subst e
    obtain ⟨x, hx⟩ : ∃ x, x = l[j]'hjl := ⟨_, rfl⟩
    rw [← hx] at hru h0 h1 h2 h4
    have hxm : x ∈ l := by rw [hx]; exact List.getElem_mem _
    have MX := HMY.out x hxm
    have hsn : ∀ a, goneM (l.take (j + 1)) a = (goneM (l.take j) a || (decide (x.k = 3) && decide (tgt x = a))) := fun a => by rw [List.take_succ_eq_append_getElem hjl, gone_snoc, hx]
    have HSN := Lib.hid hsn
    have hc := tgt_cells MX
    have LS : Hid (∀ W : World, Below wr.heap.size wr W → Calls Try.prog 15 #[u] W fun e w' => e = .returned (.agg #[.int .u32 ((tgt x).t : Int), .int .u8 ((tgt x).r : Int)]) ∧ Below W.heap.size W w') := fun W h => by
      rw [hc.1, hc.2]
      exact pLast_any (hru.keeps h)
    obtain ⟨g, hg⟩ : ∃ g, tgt x = g := ⟨_, rfl⟩
    rw [hg] at LS HSN
    obtain ⟨T, R, hT, hR⟩ := g
    simp only at LS
    obtain ⟨uo, uc, rfl⟩ := hru.shape
    obtain ⟨nu, hnu⟩ : ∃ n, n = x.pl.length := ⟨_, rfl⟩
    rw [← hnu] at h3 LS
    obtain ⟨k, hk⟩ : ∃ z, x.k = z := ⟨_, rfl⟩
    obtain ⟨t, ht⟩ : ∃ z, x.t = z := ⟨_, rfl⟩
    obtain ⟨r, hr⟩ : ∃ z, x.r = z := ⟨_, rfl⟩
    obtain ⟨p, hp⟩ : ∃ z, x.p = z := ⟨_, rfl⟩
    rw [hk] at h0 HSN
    rw [ht] at h1
    rw [hr] at h2
    rw [hp] at h4
    have BL : Hid (Below wr.heap.size wr (wr.alloc (.cells #[.int .u8 (k : Int), .int .u32 (t : Int), .int .u8 (r : Int), .slice uo nu uc, .int .i64 p] 54))) := (Below.refl _ _).alloc (Nat.le_refl _) _
    have SL := Lib.hid (hset.out.keeps BL.out)
    have BW := Lib.hid (bt hbel.out BL.out)
    clear hru hx hxm MX hc hg hnu hk ht hr hp hsn hset
    by_cases hk3 : k = 3
    rotate_left
    · have qk : ((k : Int) == 3) = false := by simp; omega
      have qk2 : decide ((k : Int) = 3) = false := decide_eq_false (by omega)
      have S6 : Hid (SetI (wr.alloc (.cells #[.int .u8 (k : Int), .int .u32 (t : Int), .int .u8 (r : Int), .slice uo nu uc, .int .i64 p] 54)) w.heap.size (j + 1) (goneM (l.take (j + 1)))) := by
        obtain ⟨D, d1, d2⟩ := SL.out
        exact ⟨D, d1.mono (Nat.le_succ _), fun a => by rw [d2 a, HSN.out a, decide_eq_false hk3]; simp⟩
      clear SL LS hk3 HSN
      go_wp2
      go_roundw
      case rel => exact ⟨j + 1, by omega, by go_num, S6, BW⟩
      case measure => simp [intOf]; omega
    · subst hk3
      have qk : ((((3 : Nat) : Int)) == 3) = true := by rfl
      go_wp2_with fail
      refine (LS.out _ BL.out).mono ?_
      rintro e w2 ⟨rfl, b2⟩
      have S2 := Lib.hid (SL.out.keeps b2)
      have B2 := Lib.hid (bt BW.out b2)
      clear b2 SL BW
      go_wp2_with (at_mapUpdate; refine wpList_put_set _ rfl _ _ _ 72 74 rfl Try.underlying72 w.heap.size j ⟨T, R, hT, hR⟩ (goneM (l.take j)) S2.out (by omega) rfl rfl rfl ?_)
      intro w3 s3 g3
      have S3 : Hid (SetI w3 w.heap.size (j + 1) (goneM (l.take (j + 1)))) := s3.ext (fun a => by
        rw [HSN.out a, Bool.or_comm]
        simp [eq_comm])
      have B3 : Hid (Below w.heap.size w w3) := B2.out.grown g3 B2.out.size (fun i e => by cases e; exact Nat.le_refl _)
      clear s3 g3 S2 B2 LS BL
      go_wp2
      go_roundw
      case rel => exact ⟨j + 1, by omega, by go_num, S3, B3⟩
      case measure => simp [intOf]; omega

/-! ### What is gathered -/
/-- Of some operations the inserts that none of C takes away, as they come. -/
def pickE (C l : List Opn) : List Opn := l.filter (fun o => decide (o.k = 1) && !goneM C (idO o))
theorem pickE_yes {C l : List Opn} {x : Opn} (hk : x.k = 1) (he : goneM C (idO x) = false) : pickE C (l ++ [x]) = pickE C l ++ [x] := by
  unfold pickE
  rw [List.filter_append, List.filter_cons_of_pos (by simp [hk, he])]
  rfl
theorem pickE_no {C l : List Opn} {x : Opn} (h : ¬ (x.k = 1 ∧ goneM C (idO x) = false)) : pickE C (l ++ [x]) = pickE C l := by
  unfold pickE
  rw [List.filter_append, List.filter_cons_of_neg (by simpa using h)]
  simp
theorem mem_pickE {C l : List Opn} {y : Opn} : y ∈ pickE C l ↔ y ∈ l ∧ y.k = 1 ∧ goneM C (idO y) = false := by
  unfold pickE
  simp
theorem pickE_is {l m : List Opn} (hm : ∀ o ∈ l, mayO o = true) (hl : l.Pairwise lessO) (hp : m.Perm (pickE l l)) (hs : m.Pairwise (fun a b => ¬ cmp b.pl a.pl < 0)) : seenM l = m := by
  have hmem : ∀ y, y ∈ m ↔ y ∈ l ∧ y.k = 1 ∧ goneM l (idO y) = false := fun y => by rw [hp.mem_iff, mem_pickE]
  refine seen_ext hm hl ?_ hmem
  have hd : m.Pairwise (fun a b => idO a ≠ idO b) := by
    refine (hp.pairwise_iff (fun {a b} h => Ne.symm h)).2 ?_
    unfold pickE
    exact (hl.imp (fun h => lessO_ne h)).filter _
  refine List.Pairwise.imp_of_mem ?_ (hs.and hd)
  intro a b ha hb h
  have h1 := (hmem a).1 ha
  have h2 := (hmem b).1 hb
  rcases ins_ne (hm a h1.1) (hm b h2.1) h1.2.1 h2.2.1 h.2 with h3 | h3
  · exact h3
  · exact absurd h3 h.1
/-- Elements in a row of the call's own (from B on), their places from A on. -/
def TwE (w : World) (B A : Nat) (v : Value) (l : List Opn) : Prop := ∃ cs, w.ownsRow B 34 4 v l.length cs ∧ HoldE w A cs l
theorem TwE.nil (w : World) (B A : Nat) : TwE w B A (.slice none 0 0) [] := ⟨[], World.ownsRow_nil _ _ _ _, rfl⟩
theorem TwE.keeps {w w' : World} {B A : Nat} {v : Value} {l : List Opn} (h : TwE w B A v l) (hb : Below w.heap.size w w') : TwE w' B A v l := by
  obtain ⟨cs, h1, h2⟩ := h
  exact ⟨cs, own_stays h1 hb, h2.keeps hb⟩
theorem TwE.own {w : World} {B A : Nat} {v : Value} {l : List Opn} (h : TwE w B A v l) (hb : A ≤ B) : OwnE w A v l := by
  obtain ⟨cs, h1, h2⟩ := h
  exact ⟨cs, op_base h1 hb, h2⟩
theorem TwE.snoc {W W8 w5 : World} {B A m : Nat} {v v5 u : Value} {cs : List Value} {l : List Opn} {o : Opn} (h1 : W.ownsRow B 34 4 v l.length cs) (h2 : HoldE W A cs l) (hb : Below W.heap.size W W8)
    (hu : W8.ownsRow A 31 3 u o.pl.length (runs o.pl)) (g5 : W8.grownBy w5 v.ownBlock) (o5 : w5.ownsRow B 34 4 v5 m (cs ++ [.int .u32 (o.t : Int), .int .u8 (o.r : Int), u, .int .i64 o.p])) (hm : m = l.length + 1) : TwE w5 B A v5 (l ++ [o]) := by
  have hx := own_stays h1 hb
  refine ⟨_, by rw [List.length_append, List.length_singleton, ← hm]; exact o5, ?_⟩
  refine HoldE.append (HoldE.grown g5 hx (h2.keeps hb)) ?_
  exact HoldE.grown g5 hx ⟨u, [], rfl, hu, rfl⟩
end Go.Proofs.Ytohiidgdpecbdaa.Views

/- Lists of operations as the row that a sort passes through. Conditions: places that may be, or the beginning. -/
namespace Go.Proofs.Ytohiidgdpecbdaa.Marks
open Go.RowKit Go.WideShapes Go.Sort Stamp Go.Proofs.Ytohiidgdpecbdaa.Place Ops Codes

/-! ### Flat rows -/
theorem flat_list {α : Type} [Inhabited α] (enc : α → List Value) (k : Nat) (hk0 : 0 < k) (hk : ∀ x, (enc x).length = k) : ∀ ds : List α,
    (List.range (ds.length * k)).map (fun t => (enc (ds[t / k]!))[t % k]!) = ds.flatMap enc
  | [] => by simp
  | x :: ds => by
    rw [List.length_cons, show (ds.length + 1) * k = k + ds.length * k by rw [Nat.succ_mul]; omega, List.range_add, List.map_append, List.flatMap_cons]
    congr 1
    · apply List.ext_getElem
      · simp [hk]
      · intro i h1 h2
        have hi : i < k := by simpa using h1
        rw [List.getElem_map, List.getElem_range, Nat.div_eq_of_lt hi, Nat.mod_eq_of_lt hi]
        show (enc x)[i]! = _
        rw [getElem!_pos (enc x) i h2]
    · rw [List.map_map, ← flat_list enc k hk0 hk ds]
      apply List.map_congr_left
      intro t _
      simp only [Function.comp]
      rw [Nat.add_div_left _ hk0, Nat.add_mod_left]
      rfl
theorem flatK_list {α : Type} [Inhabited α] (enc : α → List Value) (k : Nat) (hk0 : 0 < k) (hk : ∀ x, (enc x).length = k) (d : Array α) : (flatK enc k d).toList = d.toList.flatMap enc := by
  rw [← flat_list enc k hk0 hk d.toList]
  unfold flatK
  rw [Array.toList_map, Array.toList_range]
  apply List.map_congr_left
  intro t _
  simp [Array.getElem!_eq_getD, Array.getD_eq_getD_getElem?]
theorem putCells_take (F c : Array Value) (h : F.size ≤ c.size) : (putCells id 0 F c).toList.take F.size = F.toList := by
  apply List.ext_getElem
  · simp [putCells]; omega
  · intro i h1 h2
    have hi : i < F.size := by simpa using h2
    rw [List.getElem_take]
    simp [putCells, hi]
theorem putCells_size (F c : Array Value) (o : Nat) : (putCells id o F c).size = c.size := by simp [putCells]

/-! ### The sort's worlds -/
theorem srt_other {α : Type} [Inhabited α] (enc : α → List Value) (k : Nat) (w : World) (g o m : Nat) (d : Array α) (os : Array Obj) {j : Nat} (hj : j ≠ g) (hs : j < w.heap.size) : (sortWorldK enc k w g o m d os).heap[j]? = w.heap[j]? := by
  show ((w.heap.modify g _) ++ os)[j]? = _
  rw [Array.getElem?_append_left (by simpa using hs), Array.getElem?_modify, if_neg (Ne.symm hj)]
theorem srt_row {α : Type} [Inhabited α] (enc : α → List Value) (k : Nat) {w : World} {g : Nat} (m : Nat) (d : Array α) (os : Array Obj) {cur : Array Value} {e : TypeId} {fr : Nat × Nat} (h : w.heap[g]? = some (.cells cur e fr)) : (sortWorldK enc k w g 0 m d os).heap[g]? = some (.cells (putCells id 0 (flatK enc k d) cur) e fr) := by
  have hs := (Array.getElem?_eq_some_iff.1 h).1
  show ((w.heap.modify g _) ++ os)[g]? = _
  rw [Array.getElem?_append_left (by simpa using hs), Array.getElem?_modify, if_pos rfl, h]
  rfl
theorem srt_below {α : Type} [Inhabited α] (enc : α → List Value) (k : Nat) (w : World) (g o m B : Nat) (d : Array α) (os : Array Obj) (hB : B ≤ g) (hs : g < w.heap.size) : Below B w (sortWorldK enc k w g o m d os) := by
  refine ⟨rfl, rfl, rfl, ?_, fun j hj => srt_other enc k w g o m d os (by omega) (by omega)⟩
  show w.heap.size ≤ ((w.heap.modify g _) ++ os).size
  simp

/-! ### Operations as a row's elements -/
/-- An operation whose place is of the call's own. -/
def Elt (w : World) (base : Nat) : Type := {x : Opn × Value // anyB x.1.pl = true ∧ w.ownsRow base 31 3 x.2 x.1.pl.length (runs x.1.pl)}
instance (w : World) (base : Nat) : Inhabited (Elt w base) := ⟨⟨(zop, .slice none 0 0), rfl, World.ownsRow_nil _ _ _ _⟩⟩
def encE {w : World} {base : Nat} (x : Elt w base) : List Value := [.int .u8 (x.1.1.k : Int), .int .u32 (x.1.1.t : Int), .int .u8 (x.1.1.r : Int), x.1.2, .int .i64 x.1.1.p]
def opE' {w : World} {base : Nat} (x : Elt w base) : Opn := x.1.1
theorem encE_len {w : World} {base : Nat} (x : Elt w base) : (encE x).length = 5 := rfl
theorem elts_of {w : World} {base : Nat} : ∀ {cs : List Value} {l : List Opn}, HoldP w base cs l → (∀ o ∈ l, anyB o.pl = true) → ∃ ds : List (Elt w base), cs = ds.flatMap encE ∧ l = ds.map opE'
  | _, [], h, _ => ⟨[], h, rfl⟩
  | _, o :: l, ⟨v, d, h1, h2, h3⟩, hm => by
    obtain ⟨ds, e1, e2⟩ := elts_of h3 (fun o ho => hm o (by simp [ho]))
    have ho := hm o (by simp)
    obtain ⟨z, hz⟩ : ∃ z : Elt w base, z.1 = (o, v) := ⟨⟨(o, v), ho, h2⟩, rfl⟩
    refine ⟨z :: ds, ?_, ?_⟩
    · rw [h1, e1, List.flatMap_cons]; unfold encE; rw [hz]
    · rw [List.map_cons, ← e2]; unfold opE'; rw [hz]
theorem holdP_of {w w' : World} {base : Nat} (hk : ∀ x : Elt w base, w'.ownsRow base 31 3 x.1.2 x.1.1.pl.length (runs x.1.1.pl)) : ∀ ds : List (Elt w base), HoldP w' base (ds.flatMap encE) (ds.map opE')
  | [] => rfl
  | x :: ds => ⟨x.1.2, ds.flatMap encE, by rw [List.flatMap_cons]; rfl, hk x, holdP_of hk ds⟩
/-- Places stay while the operations are moved about. -/
theorem elt_stays {w : World} {base g : Nat} {cur : Array Value} (hg : w.heap[g]? = some (.cells cur 54 (0, 0))) (m : Nat) (d : Array (Elt w base)) (os : Array Obj) (x : Elt w base) :
    (sortWorldK encE 5 w g 0 m d os).ownsRow base 31 3 x.1.2 x.1.1.pl.length (runs x.1.1.pl) := by
  obtain ⟨x, _, h⟩ := x
  refine ⟨h.1, ?_⟩
  rcases h.2 with h | ⟨b, cap, c, e1, e2, e3, e4⟩
  · exact .inl h
  · refine .inr ⟨b, cap, c, e1, e2, ?_, e4⟩
    rw [srt_other encE 5 w g 0 m d os ?_ (Array.getElem?_eq_some_iff.1 e3).1]
    · exact e3
    · rintro rfl
      rw [hg] at e3
      injection e3 with e3
      injection e3 with _ e3 _
      exact absurd e3 (by decide)
theorem elt_holds {w : World} {base g cap n : Nat} {ds : List (Elt w base)} (hg : ∃ cur, w.heap[g]? = some (.cells cur 54 (0, 0)) ∧ cur.size = cap * 5 ∧ cur.toList.take (n * 5) = ds.flatMap encE) (hn : n = ds.length) (hc : n ≤ cap) : HoldsK encE 5 w g 0 ds.toArray := by
  obtain ⟨cur, h1, h2, h3⟩ := hg
  intro j hj
  rw [size_flatK] at hj
  have hj' : j < ds.length * 5 := by simpa using hj
  have hjc : j < cur.size := by rw [h2]; have := Nat.mul_le_mul_right 5 hc; omega
  have e : cur[j]? = (flatK encE 5 ds.toArray)[j]? := by
    rw [← Array.getElem?_toList, ← Array.getElem?_toList, flatK_list encE 5 (by decide) encE_len, ← h3, List.getElem?_take, if_pos (by omega)]
  have hf : j < (flatK encE 5 ds.toArray).size := by rw [size_flatK]; exact hj
  rw [Nat.zero_add]
  constructor
  · have e2 : w.cell? ⟨g, j, none⟩ = cur[j]? := by simp [World.cell?, h1]
    rw [e2, e, Array.getElem?_eq_getElem hf, getElem!_pos _ j hf]
    rfl
  · simp [World.frozen?, h1]

/-! ### Their order -/
def cfE {w : World} {base : Nat} (x y : Elt w base) : Int := cmp x.1.1.pl y.1.1.pl
theorem cfE_is {w : World} {base : Nat} (x y : Elt w base) : cfE x y = Go.Proofs.Ytohiidgdpecbdaa.Place.hold (all x.1.1.pl) (all y.1.1.pl) := by
  unfold cfE cmp
  rw [if_pos ⟨x.2.1, y.2.1⟩]
theorem ltE_is {w : World} {base : Nat} (x y : Elt w base) : ltOf cfE x y = true ↔ Go.Proofs.Ytohiidgdpecbdaa.Place.hold (all x.1.1.pl) (all y.1.1.pl) = -1 := by
  unfold ltOf
  rw [cfE_is, decide_eq_true_iff]
  have := hold_range (all x.1.1.pl) (all y.1.1.pl)
  omega
theorem ltE_no {w : World} {base : Nat} (x y : Elt w base) : ltOf cfE x y = false ↔ ¬ Go.Proofs.Ytohiidgdpecbdaa.Place.hold (all x.1.1.pl) (all y.1.1.pl) = -1 := by
  rw [← ltE_is, Bool.not_eq_true]
theorem swoE (w : World) (base : Nat) : SWO (ltOf (cfE (w := w) (base := base))) where
  irrefl x := by rw [ltE_no, (hold_eq _ _).2 rfl]; decide
  trans x y z h1 h2 := by rw [ltE_is] at *; exact hold_trans _ _ _ h1 h2
  ntrans x y z h1 h2 := by
    rw [ltE_no] at *
    intro h3
    have n1 := hold_neg (all x.1.1.pl) (all y.1.1.pl)
    rcases hold_range (all x.1.1.pl) (all y.1.1.pl) with h | h | h
    · exact h1 h
    · have := (hold_eq _ _).1 h
      rw [this] at h3
      exact h2 h3
    · exact h2 (hold_trans _ _ _ (by omega) h3)
end Go.Proofs.Ytohiidgdpecbdaa.Marks

/- Lists of elements as the row that a sort passes through. Conditions: places that may be, or the beginning. -/
namespace Go.Proofs.Ytohiidgdpecbdaa.Views
open Go.RowKit Go.WideShapes Go.Sort Stamp Go.Proofs.Ytohiidgdpecbdaa.Place Ops Codes Bags Marks

def encV {w : World} {base : Nat} (x : Elt w base) : List Value := [.int .u32 (x.1.1.t : Int), .int .u8 (x.1.1.r : Int), x.1.2, .int .i64 x.1.1.p]
theorem encV_len {w : World} {base : Nat} (x : Elt w base) : (encV x).length = 4 := rfl
theorem eltsV_of {w : World} {base : Nat} : ∀ {cs : List Value} {l : List Opn}, HoldE w base cs l → (∀ o ∈ l, anyB o.pl = true) → ∃ ds : List (Elt w base), cs = ds.flatMap encV ∧ l = ds.map opE'
  | _, [], h, _ => ⟨[], h, rfl⟩
  | _, o :: l, ⟨v, d, h1, h2, h3⟩, hm => by
    obtain ⟨ds, e1, e2⟩ := eltsV_of h3 (fun o ho => hm o (by simp [ho]))
    have ho := hm o (by simp)
    obtain ⟨z, hz⟩ : ∃ z : Elt w base, z.1 = (o, v) := ⟨⟨(o, v), ho, h2⟩, rfl⟩
    refine ⟨z :: ds, ?_, ?_⟩
    · rw [h1, e1, List.flatMap_cons]; unfold encV; rw [hz]
    · rw [List.map_cons, ← e2]; unfold opE'; rw [hz]
theorem holdE_of {w w' : World} {base : Nat} (hk : ∀ x : Elt w base, w'.ownsRow base 31 3 x.1.2 x.1.1.pl.length (runs x.1.1.pl)) : ∀ ds : List (Elt w base), HoldE w' base (ds.flatMap encV) (ds.map opE')
  | [] => rfl
  | x :: ds => ⟨x.1.2, ds.flatMap encV, by rw [List.flatMap_cons]; rfl, hk x, holdE_of hk ds⟩
/-- Places stay while the elements are moved about. -/
theorem eltV_stays {w : World} {base g : Nat} {cur : Array Value} (hg : w.heap[g]? = some (.cells cur 34 (0, 0))) (m : Nat) (d : Array (Elt w base)) (os : Array Obj) (x : Elt w base) :
    (sortWorldK encV 4 w g 0 m d os).ownsRow base 31 3 x.1.2 x.1.1.pl.length (runs x.1.1.pl) := by
  obtain ⟨x, _, h⟩ := x
  refine ⟨h.1, ?_⟩
  rcases h.2 with h | ⟨b, cap, c, e1, e2, e3, e4⟩
  · exact .inl h
  · refine .inr ⟨b, cap, c, e1, e2, ?_, e4⟩
    rw [srt_other encV 4 w g 0 m d os ?_ (Array.getElem?_eq_some_iff.1 e3).1]
    · exact e3
    · rintro rfl
      rw [hg] at e3
      injection e3 with e3
      injection e3 with _ e3 _
      exact absurd e3 (by decide)
theorem eltV_holds {w : World} {base g cap n : Nat} {ds : List (Elt w base)} (hg : ∃ cur, w.heap[g]? = some (.cells cur 34 (0, 0)) ∧ cur.size = cap * 4 ∧ cur.toList.take (n * 4) = ds.flatMap encV) (hn : n = ds.length) (hc : n ≤ cap) : HoldsK encV 4 w g 0 ds.toArray := by
  obtain ⟨cur, h1, h2, h3⟩ := hg
  intro j hj
  rw [size_flatK] at hj
  have hj' : j < ds.length * 4 := by simpa using hj
  have hjc : j < cur.size := by rw [h2]; have := Nat.mul_le_mul_right 4 hc; omega
  have e : cur[j]? = (flatK encV 4 ds.toArray)[j]? := by
    rw [← Array.getElem?_toList, ← Array.getElem?_toList, flatK_list encV 4 (by decide) encV_len, ← h3, List.getElem?_take, if_pos (by omega)]
  have hf : j < (flatK encV 4 ds.toArray).size := by rw [size_flatK]; exact hj
  rw [Nat.zero_add]
  constructor
  · have e2 : w.cell? ⟨g, j, none⟩ = cur[j]? := by simp [World.cell?, h1]
    rw [e2, e, Array.getElem?_eq_getElem hf, getElem!_pos _ j hf]
    rfl
  · simp [World.frozen?, h1]
end Go.Proofs.Ytohiidgdpecbdaa.Views
