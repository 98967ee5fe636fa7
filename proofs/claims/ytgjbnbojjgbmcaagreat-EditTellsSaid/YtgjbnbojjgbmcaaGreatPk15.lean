/- A slice of bytes that came in: what it reads as. Conditions: none. Slices of elements of any width: what a slice value holds, cell by cell; append onto a row of the call's own. Conditions: none. Stamps, and slices of them: what a slice value holds. Conditions: none. Blocks known whole, in whatever world behind: for regions that draw their order and make memory. Conditions: none. Slices of elements of any kind, whose cells may hold slices themselves: what such a slice value holds. Conditions: none. Rows of the call's own whose elements may hold slices that were there ahead of it; append of one. Conditions: none. octavoref11.Left, Less, Stamps, Ids, Find: what each answers. Conditions: the slices' cells are operations, replicas' times; those of Left, Stamps not too many. octavoref10.Great, Same, Twin: what each answers. Conditions: the slices' cells are operations; Twin's: they are not mor -/
import Derived.Test.YtgjbnbojjgbmcaaGreatChecked
import Derived.WalkKit
import Derived.WalkSpells
import Derived.WalkLawsBesides
import Derived.Laws.BytesArg
import Derived.Lib.Hide
import Derived.Test.YtgjbnbojjgbmcaaGreatRows
import Derived.ProofKit
import Derived.SizedLaws
import Derived.Deep.LoopGhost
import Derived.Laws.AppendOwnNone
import Derived.Laws.OwnMore
import Derived.WideShapes
import Derived.Maps.AppendAt
import Derived.RegionTactic
import Derived.Deep.RegionHeld3
import Derived.Deep.DrawnRows
import Derived.Deep.QuietTactic
import Derived.BigQuiet
import Derived.IntWalk
import Derived.Deep.DeepCutAuto
import Derived.ScopeJumps
import Derived.Test.YtgjbnbojjgbmcaaGreatProg
import Derived.LoopTactic
import Derived.Laws.EntriesVeiled
import Derived.RowKit
import Derived.Lib.DecodeN
import Derived.Lib.RuneBytes
import Derived.Maps.Own
import Derived.Maps.OwnOps
import Derived.Maps.OwnSet
import Derived.Maps.Views
import Derived.DeepKeys4
import Derived.Shelf.SlSortCmp.InsertionK
import Derived.Calls
import Derived.StepT
import Derived.Below
import Derived.Sort.Grow
import Derived.Deep.Draws
import Derived.Shelf.SlLaysF0
import Derived.Shelf.SlSortCmp.NoneTotal
import Derived.Scope
import Derived.Shelf.Abstract
import Derived.RangeFuncBox
import Derived.RangeFuncLeaves
import Derived.RangeFuncNested
import Derived.RangeFuncBound
import Derived.RangeFuncCalls
import Derived.OwnWalkIn
import Derived.TacticsInMore
import Derived.LoopNIn
import Derived.LoopIn
import Derived.Lib.Tables
import Derived.Laws.Bits64
import Derived.Test.YtgjbnbojjgbmcaaGreatShelf
import Derived.Lib.OthersKept
import Derived.BigCall
import Derived.Lib.SmallJoins
import Derived.Test.YtgjbnbojjgbmcaaGreatPk01
import Derived.Test.YtgjbnbojjgbmcaaGreatPk04
import Derived.Test.YtgjbnbojjgbmcaaGreatPk03
import Derived.Test.YtgjbnbojjgbmcaaGreatPk02
import Derived.Test.YtgjbnbojjgbmcaaGreatPk06
import Derived.Test.YtgjbnbojjgbmcaaGreatPk05
import Derived.Test.YtgjbnbojjgbmcaaGreatPk11
import Derived.Test.YtgjbnbojjgbmcaaGreatPk10
import Derived.Test.YtgjbnbojjgbmcaaGreatPk07
import Derived.Test.YtgjbnbojjgbmcaaGreatPk08
import Derived.Test.YtgjbnbojjgbmcaaGreatPk09

namespace Go.Proofs.YtgjbnbojjgbmcaaGreat
open Go.ChangeShapes Go.WideShapes Go.ChangeAt Go.RowKit
theorem kit_laidOut : laidOutB Tryz.prog = true := by kernel_rfl
end Go.Proofs.YtgjbnbojjgbmcaaGreat

namespace Go.Proofs.YtgjbnbojjgbmcaaGreat
open Go.RowKit Go.WideShapes
/-- The same at the operation, and at a step of a region that draws. -/
theorem wp_append_sees {w : World} {o : Oper} {a : Act} {K : Act → World → Prop} {Q : Exit → Act → World → Prop} (s x : Operand) (t e : TypeId)
    (ho : o.op = .call { callee := .builtin .append, args := #[s, x], argTypes := #[t, t] }) (ht : Tryz.prog.underlying t = some (.slice e))
    {z : Value} {sz bytes : Nat} (hi : (Tryz.prog.info? e).map (fun i => (i.zero, i.size, i.bytes)) = some (some z, sz, bytes)) (hzs : z.cells.size = sz) (hsz : 0 < sz)
    (base : Nat) (v : Value) (n : Nat) (L : List Value) (hs : a.eval s = v) (hown : w.ownsRow base e sz v n L)
    (u : Value) (m : Nat) (xs : List Value) (hx : a.eval x = u) (hr : Sees w u sz m xs) (h1 : ∀ u ∈ xs, u.oneCell' = true) (h47 : (n + m) * bytes ≤ 140737488355328) (h63 : n + m ≤ 140737488355328) (hbase : base ≤ w.heap.size)
    (h : ∀ v' w', w'.ownsRow base e sz v' (n + m) (L ++ xs) → w.grownBy w' v.ownBlock → Below base w w' → K (a.put o.dst v') w') : o.wp Tryz.prog a w K Q := by
  obtain ⟨i0, hi, hz0, hz1, hz2⟩ := info_parts hi
  obtain ⟨ao, cap, rfl⟩ := hr.shape
  cases ao with
  | none =>
    obtain ⟨_, h2, _, h3⟩ := hr.cap
    have hc0 := h3 rfl
    subst hc0
    obtain rfl : m = 0 := by omega
    obtain rfl : xs = [] := List.length_eq_zero_iff.1 (by rw [hr.len]; omega)
    have hrun := run_append_owned_none (P := Tryz.prog) (w := w) base t o.type e i0 sz ht hi v n L hown
    unfold Oper.wp
    simp only [execOp, ho, resolve, invoke, builtin, Sem.run_bind, Sem.run_pure, Result.andThen_ok, List.map_toArray, List.map_cons, List.map_nil, hs, hx, hrun]
    refine h v w ?_ (World.grownBy.refl w _) (Below.refl _ _)
    rw [List.append_nil]; exact hown
  | some a2 =>
    obtain ⟨v', w', hrun, h2, h3, _⟩ := run_append_own (P := Tryz.prog) w base t o.type e i0 z sz bytes ht hi hz0 hz1 hz2 hzs hsz v n L hown a2 m cap xs hr.len hr.cells h1 (by unfold maxLen; omega) h47 hbase
    unfold Oper.wp
    simp only [execOp, ho, resolve, invoke, builtin, Sem.run_bind, Sem.run_pure, Result.andThen_ok, List.map_toArray, List.map_cons, List.map_nil, hs, hx, hrun]
    exact h v' w' h2 h3 ((Below.refl _ _).grown h3 hbase (fun j hj => (hown.lt j hj).1))
theorem step_append_sees {w : World} {ops : Array Oper} {o : Oper} {a : Act} {K : Act → World → Prop} {Q : Exit → Act → World → Prop} {E : Prop} (hgd : o.guard = none) (s x : Operand) (t e : TypeId)
    (ho : o.op = .call { callee := .builtin .append, args := #[s, x], argTypes := #[t, t] }) (ht : Tryz.prog.underlying t = some (.slice e))
    {z : Value} {sz bytes : Nat} (hi : (Tryz.prog.info? e).map (fun i => (i.zero, i.size, i.bytes)) = some (some z, sz, bytes)) (hzs : z.cells.size = sz) (hsz : 0 < sz)
    (base : Nat) (v : Value) (n : Nat) (L : List Value) (hs : a.eval s = v) (hown : w.ownsRow base e sz v n L)
    (u : Value) (m : Nat) (xs : List Value) (hx : a.eval x = u) (hr : Sees w u sz m xs) (h1 : ∀ u ∈ xs, u.oneCell' = true) (h47 : (n + m) * bytes ≤ 140737488355328) (h63 : n + m ≤ 140737488355328) (hbase : base ≤ w.heap.size)
    (h : ∀ v' w', w'.ownsRow base e sz v' (n + m) (L ++ xs) → w.grownBy w' v.ownBlock → Below base w w' → K (a.put o.dst v') w') :
    if Region.wanted o (yielded ops a.tmps) = true then Oper.wp Tryz.prog o a w K Q else E := by
  have hw : Region.wanted o (yielded ops a.tmps) = true := by simp [Region.wanted, hgd]
  rw [if_pos hw]
  exact wp_append_sees s x t e ho ht hi hzs hsz base v n L hs hown u m xs hx hr h1 h47 h63 hbase h
end Go.Proofs.YtgjbnbojjgbmcaaGreat

namespace Go.Proofs.YtgjbnbojjgbmcaaGreat
open Go.RowKit Go.WideShapes
/-- Stamps as cells. -/
def ids : List Id → List Value
  | [] => []
  | a :: l => .int .u32 (a.t : Int) :: .int .u8 (a.r : Int) :: ids l
theorem ids_len : ∀ l : List Id, (ids l).length = l.length * 2
  | [] => rfl
  | a :: l => by simp [ids, ids_len l]; omega
theorem ids_get : ∀ (l : List Id) (j : Nat), j < l.length → (ids l)[j * 2]? = some (.int .u32 ((l.getD j zid).t : Int)) ∧ (ids l)[j * 2 + 1]? = some (.int .u8 ((l.getD j zid).r : Int))
  | [], j, h => by simp at h
  | a :: l, 0, _ => by simp [ids]
  | a :: l, j + 1, h => by
    have := ids_get l j (by simpa using h)
    rw [show (j + 1) * 2 = j * 2 + 1 + 1 by omega]
    simpa [ids] using this
/-- A slice of stamps. -/
def Ids (w : World) (v : Value) (l : List Id) : Prop := Sees w v 2 l.length (ids l)
theorem Ids.keeps {w w' : World} {v : Value} {l : List Id} (h : Ids w v l) (hb : Below w.heap.size w w') : Ids w' v l := Sees.keeps h hb
theorem Ids.at {w : World} {ao : Option Addr} {m cap : Nat} {l : List Id} (h : Ids w (.slice ao m cap) l) (k : Nat) (hk : k < l.length) :
    ∃ b off, ao = some ⟨b, off, none⟩ ∧ b < w.heap.size ∧ w.cell? ⟨b, off + k * 2, none⟩ = some (.int .u32 ((l.getD k zid).t : Int)) ∧ w.cell? ⟨b, off + k * 2 + 1, none⟩ = some (.int .u8 ((l.getD k zid).r : Int)) := by
  obtain ⟨b, off, h1, h2, h3⟩ := Sees.at h (k * 2) (by rw [ids_len]; omega)
  have e := ids_get l k hk
  exact ⟨b, off, h1, h2, (h3 (k * 2) (by rw [ids_len]; omega)).trans e.1, (h3 (k * 2 + 1) (by rw [ids_len]; omega)).trans e.2⟩
theorem Ids.own {w : World} {base : Nat} {e : TypeId} {v : Value} {n : Nat} {l : List Id} (h : w.ownsRow base e 2 v n (ids l)) : Ids w v l := by
  have h1 := h.1
  rw [ids_len] at h1
  obtain rfl : l.length = n := by omega
  exact Sees.own h
theorem id_info : (Tryz.prog.info? 28).map (fun i => (i.zero, i.size, i.bytes)) = some (some (.agg #[.int .u32 0, .int .u8 0]), 2, 8) := by kernel_rfl
end Go.Proofs.YtgjbnbojjgbmcaaGreat

namespace Go.Proofs.YtgjbnbojjgbmcaaGreat
open Go.RowKit Go.WideShapes
theorem cells_blk {X : World} {g : Nat} {c0 c1 : Value} {e : TypeId} (h : X.heap[g]? = some (.cells #[c0, c1] e)) :
    X.cell? ⟨g, 0, none⟩ = some c0 ∧ X.cell? ⟨g, 1, none⟩ = some c1 ∧ X.frozen? ⟨g, 0, none⟩ = false ∧ X.frozen? ⟨g, 1, none⟩ = false :=
  ⟨cell_of_row _ g 0 #[c0, c1] e _ h, cell_of_row _ g 1 #[c0, c1] e _ h, by simp [World.frozen?, h], by simp [World.frozen?, h]⟩
end Go.Proofs.YtgjbnbojjgbmcaaGreat

namespace Go.Proofs.YtgjbnbojjgbmcaaGreat
open Go.RowKit Go.WideShapes
theorem Enc.rows_one {α : Type} {E : Enc α} {w : World} : ∀ {cs : List Value} {l : List α}, E.rows w cs l → ∀ u ∈ cs, u.oneCell' = true
  | cs, [], h, u, hu => by rw [show cs = [] from h] at hu; simp at hu
  | cs, a :: l, ⟨c, d, h1, h2, h3⟩, u, hu => by
    rw [h1, List.mem_append] at hu
    rcases hu with hu | hu
    · exact E.one h2 u hu
    · exact Enc.rows_one h3 u hu
theorem Enc.rows_append {α : Type} {E : Enc α} {w : World} : ∀ {cs ds : List Value} {l m : List α}, E.rows w cs l → E.rows w ds m → E.rows w (cs ++ ds) (l ++ m)
  | cs, ds, [], m, h, k => by rw [show cs = [] from h]; exact k
  | cs, ds, a :: l, m, ⟨c, d, h1, h2, h3⟩, k => ⟨c, d ++ ds, by rw [h1, List.append_assoc], h2, Enc.rows_append h3 k⟩
theorem Enc.rows_snoc {α : Type} {E : Enc α} {w : World} {cs c : List Value} {l : List α} {a : α} (h : E.rows w cs l) (k : E.inn w c a) : E.rows w (cs ++ c) (l ++ [a]) :=
  Enc.rows_append h ⟨c, [], by simp, k, rfl⟩
end Go.Proofs.YtgjbnbojjgbmcaaGreat

namespace Go.Proofs.YtgjbnbojjgbmcaaGreat
open Go.RowKit Go.WideShapes
/-- A row of the call's own (since the world w0), what its elements hold lies in w0. -/
def Shr {α : Type} (E : Enc α) (te : TypeId) (w0 w : World) (v : Value) (l : List α) : Prop := ∃ cs, w.ownsRow w0.heap.size te E.sz v l.length cs ∧ E.rows w0 cs l
theorem Shr.keeps {α : Type} {E : Enc α} {te : TypeId} {w0 w w' : World} {v : Value} {l : List α} (h : Shr E te w0 w v l) (hb : Below w.heap.size w w') : Shr E te w0 w' v l := by
  obtain ⟨cs, h1, h2⟩ := h
  exact ⟨cs, own_stays h1 hb, h2⟩
theorem wpList_append_enc {α : Type} {E : Enc α} {ts te : TypeId} (ht : Tryz.prog.underlying ts = some (.slice te)) {z : Value} {bytes : Nat}
    (hi : (Tryz.prog.info? te).map (fun i => (i.zero, i.size, i.bytes)) = some (some z, E.sz, bytes)) (hzs : z.cells.size = E.sz)
    {w0 wp : World} {ops : Array Oper} {rest : List Oper} {o : Oper} {a : Act} {Q : Exit → Act → World → Prop} (hgd : o.guard = none) (s x : Operand)
    (ho : o.op = .call { callee := .builtin .append, args := #[s, x], argTypes := #[ts, ts] }) {v : Value} {L : List α} (hs : a.eval s = v) (hv : Shr E te w0 wp v L)
    {G : Nat} (hx : a.eval x = .slice (some ⟨G, 0, none⟩) 1 1) (hG : wp.heap.size = G) {c : Array Value} {y : α} (hin : E.inn w0 c.toList y) {m : Nat} (hm : m = L.length) (h47 : (m + 1) * bytes ≤ 140737488355328) (hl : m ≤ 1000000000000) (hbase : w0.heap.size ≤ wp.heap.size)
    (h : ∀ v' w', Shr E te w0 w' v' (L ++ [y]) → (∃ ao cap, v' = .slice ao (m + 1) cap) → Below w0.heap.size wp w' → wpList Tryz.prog ops Q rest (a.put o.dst v') w') :
    wpList Tryz.prog ops Q (o :: rest) a (wp.alloc (.cells c te)) := by
  subst hG
  subst hm
  obtain ⟨cs, h1, h2⟩ := hv
  have hlen : c.toList.length = 1 * E.sz := by rw [E.len hin]; omega
  have hse := sees_new wp c.toList E.sz 1 hlen (by omega) te (0, 0)
  rw [Array.toArray_toList] at hse
  have hb := (Below.refl wp.heap.size wp).alloc (Nat.le_refl _) (.cells c te)
  refine wpList_append_sees hgd s x ts te ho ht hi hzs E.pos w0.heap.size v L.length cs hs (own_stays h1 hb) _ 1 c.toList hx hse (E.one hin) h47 (by omega) (Nat.le_trans hbase hb.size) ?_
  intro v' w' o6 _ b6
  refine h v' w' ⟨cs ++ c.toList, by rw [List.length_append]; exact o6, Enc.rows_snoc h2 hin⟩ (Sees.shape (Sees.own o6)) (((Below.refl _ _).alloc hbase _).trans b6)
end Go.Proofs.YtgjbnbojjgbmcaaGreat

namespace Go.Proofs.YtgjbnbojjgbmcaaGreat.Bags
open Go.RowKit Go.WideShapes Stamp Go.Proofs.YtgjbnbojjgbmcaaGreat.Place Ops Codes
attribute [local go_sem ↓] Go.wp_at_zero Go.wp_at_succ
attribute [local go_sem] yielded_undef
def idE : Enc Id where
  sz := 2
  pos := by decide
  inn _ cs x := cs = [.int .u32 (x.t : Int), .int .u8 (x.r : Int)]
  len := by rintro w cs x rfl; rfl
  one := by
    rintro w cs x rfl u hu
    simp only [List.mem_cons, List.not_mem_nil, or_false] at hu
    rcases hu with rfl | rfl <;> rfl
  keep := by rintro w w' cs x _ h; exact h
theorem idE_rows {w : World} : ∀ {cs : List Value} {l : List Id}, idE.rows w cs l → cs = ids l
  | _, [], h => h
  | _, _ :: _, ⟨c, d, h1, h2, h3⟩ => by
    rw [h1, show c = _ from h2, idE_rows h3]
    rfl
end Go.Proofs.YtgjbnbojjgbmcaaGreat.Bags

namespace Go.Proofs.YtgjbnbojjgbmcaaGreat.Codes
open Go.RowKit Go.WideShapes Go.Proofs.YtgjbnbojjgbmcaaGreat.Place Ops
attribute [local go_sem ↓] Go.wp_at_zero Go.wp_at_succ
/-- What Great answers: where it answers no, there are not more than so many. -/
def GrtO (l : List Opn) (m : Int) (e : Ending) : Prop := ∃ g, e = .returned (.bool g) ∧ (g = false → (l.length : Int) ≤ m ∧ ∀ k (h : k < l.length), k < 300 → (l[k]'h).pl.length ≤ 100)
theorem GrtO.yes {l : List Opn} {m : Int} : GrtO l m (.returned (.bool true)) := ⟨true, rfl, fun h => by cases h⟩
set_option maxRecDepth 100000 in
set_option maxHeartbeats 4000000 in
theorem greatO_any {v : Value} {l : List Opn} {many : Int} {w : World} (hv : OpL w v l) :
    Calls Tryz.prog 13 #[v, .int .i64 many] w fun e w' => GrtO l many e ∧ w = w' := by
  obtain ⟨ao, cap, rfl⟩ := hv.shape
  obtain ⟨n, hn⟩ : ∃ n, n = l.length := ⟨_, rfl⟩
  have hm : n ≤ 9223372036854775807 := by rw [hn]; exact hv.max
  have HV := Lib.hid hv
  have HN := Lib.hid hn
  rw [← hn]
  clear hv hn
  go_enter Tryz.func13, Tryz.ntmps13
  go_wp2
  go_loop [5, 6, 7] (fun s i c => ∃ (j : Nat) (m : Int), j ≤ n ∧ j ≤ 300 ∧ i = .int .i64 (j : Int) ∧ s = .int .i64 m ∧ Hid (∀ k (h : k < l.length), k < j → (l[k]'h).pl.length ≤ 100)) (fun _ i _ => n - (intOf i).toNat)
  case atStart => exact ⟨0, 0, by omega, by omega, rfl, rfl, fun k h hk => by omega⟩
  case round =>
    obtain ⟨j, m, hj, hj3, rfl, rfl, hall⟩ := hrel
    by_cases hjn : j < n
    · have q1 : decide (j < n) = true := by simpa using hjn
      by_cases hj4 : j < 300
      · have q4 : decide ((j : Int) < 300) = true := decide_eq_true (by omega)
        have q5 : decide (j < 300) = true := decide_eq_true hj4
        have q2 : (0 : Int) ≤ (j : Int) := by omega
        have q3 : (j : Int) < (n : Int) := by omega
        have hjl : j < l.length := by rw [← HN.out]; exact hjn
        obtain ⟨b1, o1, u, rfl, hb1, hru, -, -, -, ha3, -⟩ := opl_at HV.out j hjl
        have hsx := Sees.max hru
        have HRU := Lib.hid hru
        obtain ⟨so, sc, rfl⟩ := hru.shape
        obtain ⟨p, hp⟩ : ∃ p, p = (l[j]'hjl).pl := ⟨_, rfl⟩
        have HJA : Hid (p.length ≤ 100 → ∀ k (h : k < l.length), k < j + 1 → (l[k]'h).pl.length ≤ 100) := fun h1 k h hk => by
          by_cases e : k = j
          · subst e; rw [← hp]; exact h1
          · exact hall.out k h (by omega)
        rw [← hp] at ha3 hsx HRU
        obtain ⟨d, hd⟩ : ∃ d, d = p.length := ⟨_, rfl⟩
        have HD := Lib.hid hd
        rw [← hd] at ha3 hsx HRU
        clear hall hp hru hd
        by_cases h3 : 100 < d
        · have t1 : decide ((100 : Int) < (d : Int)) = true := decide_eq_true (by omega)
          have t2 : decide (100 < d) = true := decide_eq_true h3
          go_wp2
          go_ret
          exact ⟨GrtO.yes, rfl⟩
        · have t1 : decide ((100 : Int) < (d : Int)) = false := decide_eq_false (by omega)
          have t2 : decide (100 < d) = false := decide_eq_false h3
          have HJB := Lib.hid (HJA.out (by rw [← HD.out]; omega))
          clear HJA
          go_wp2
          go_loop [5, 7] (fun s c => ∃ (k : Nat) (m : Int), k ≤ d ∧ c = .int .i64 (k : Int) ∧ s = .int .i64 m) (fun _ c => d - (intOf c).toNat)
          case atStart => exact ⟨0, _, by omega, rfl, rfl⟩
          case round =>
            obtain ⟨k, m, hk, rfl, rfl⟩ := hrel
            by_cases hkd : k < d
            · have c1 : decide (k < d) = true := by simpa using hkd
              have c2 : (0 : Int) ≤ (k : Int) := by omega
              have c3 : (k : Int) < (d : Int) := by omega
              obtain ⟨b2, o2, rfl, hb2, -, -, g2⟩ := HRU.out.at k (by rw [← HD.out]; exact hkd)
              go_wp2
              go_round
              case rel => exact ⟨k + 1, _, by omega, by go_num, rfl⟩
              case measure => simp [intOf]; omega
            · have c1 : decide (k < d) = false := by simpa using hkd
              go_wp2
              go_round
              case rel => exact ⟨j + 1, _, by omega, by omega, by go_num, rfl, HJB⟩
              case measure => simp [intOf]; omega
      · obtain rfl : j = 300 := by omega
        obtain ⟨b, hb⟩ : ∃ b, decide (many < (n : Int)) = b := ⟨_, rfl⟩
        have HB : Hid (b = false → (n : Int) ≤ many) := fun h => by rw [h] at hb; have := of_decide_eq_false hb; omega
        obtain ⟨c, hc⟩ : ∃ b, decide (3000 < m) = b := ⟨_, rfl⟩
        clear q1
        cases b
        · go_wp2
          go_ret
          refine ⟨⟨_, rfl, fun _ => ⟨?_, fun k h hk => hall.out k h hk⟩⟩, rfl⟩
          rw [← HN.out]; exact HB.out trivial
        · go_wp2
          go_ret
          exact ⟨GrtO.yes, rfl⟩
    · have q1 : decide (j < n) = false := by simpa using hjn
      obtain rfl : j = n := by omega
      obtain ⟨b, hb⟩ : ∃ b, decide (many < (j : Int)) = b := ⟨_, rfl⟩
      have HB : Hid (b = false → (j : Int) ≤ many) := fun h => by rw [h] at hb; have := of_decide_eq_false hb; omega
      obtain ⟨c, hc⟩ : ∃ b, decide (3000 < m) = b := ⟨_, rfl⟩
      cases b
      · go_wp2
        go_ret
        refine ⟨⟨_, rfl, fun _ => ⟨?_, fun k h _ => hall.out k h (by have := HN.out; omega)⟩⟩, rfl⟩
        rw [← HN.out]; exact HB.out trivial
      · go_wp2
        go_ret
        exact ⟨GrtO.yes, rfl⟩
end Go.Proofs.YtgjbnbojjgbmcaaGreat.Codes

namespace Go.Proofs.YtgjbnbojjgbmcaaGreat.Marks
open Ops Stamp Bags Go.Proofs.YtgjbnbojjgbmcaaGreat.Place
theorem ended_iff {l : List Opn} {a : Id} : ended l a = true ↔ ∃ o ∈ l, o.k = 4 ∧ tgt o = a := by simp [ended]
end Go.Proofs.YtgjbnbojjgbmcaaGreat.Marks

namespace Go.Proofs.YtgjbnbojjgbmcaaGreat.Views
open Ops Stamp Bags Marks Homes Covers Go.Proofs.YtgjbnbojjgbmcaaGreat.Place
theorem goneM_iff {c : List Opn} {a : Id} : goneM c a = true ↔ ∃ o ∈ c, o.k = 3 ∧ tgt o = a := by simp [goneM]
end Go.Proofs.YtgjbnbojjgbmcaaGreat.Views

namespace Go.Proofs.YtgjbnbojjgbmcaaGreat.Homes
open Go.RowKit Go.WideShapes Stamp Go.Proofs.YtgjbnbojjgbmcaaGreat.Place Ops Codes Bags Marks
attribute [local go_sem ↓] Go.wp_at_zero Go.wp_at_succ
attribute [local go_sem] yielded_undef
/-- Stamps of the call's own. -/
def OwnI (w : World) (base : Nat) (v : Value) (l : List Id) : Prop := w.ownsRow base 28 2 v l.length (ids l)
theorem OwnI.of {w0 w : World} {v : Value} {l : List Id} (h : Shr idE 28 w0 w v l) : OwnI w w0.heap.size v l := by
  obtain ⟨cs, h1, h2⟩ := h
  unfold OwnI
  rw [← idE_rows h2]
  exact h1
end Go.Proofs.YtgjbnbojjgbmcaaGreat.Homes

namespace Go.Proofs.YtgjbnbojjgbmcaaGreat.Edits
open Go.RowKit Go.WideShapes Stamp Go.Proofs.YtgjbnbojjgbmcaaGreat.Place Ops Codes Bags Marks Homes Covers Views
attribute [local go_sem ↓] Go.wp_at_zero Go.wp_at_succ
attribute [local go_sem] yielded_undef
/-- An index that came in is an int. -/
theorem wf_k {a : Int} (h : (Lit.int .i64 a).wf = true) : a ≤ 9223372036854775807 := by
  have hb : -9223372036854775808 ≤ a ∧ a ≤ 9223372036854775807 := by simpa [Lit.wf, IntKind.min, IntKind.max, IntKind.signed, IntKind.bits] using h
  exact hb.2
end Go.Proofs.YtgjbnbojjgbmcaaGreat.Edits

namespace Go.Proofs.YtgjbnbojjgbmcaaGreat
open Go.Joins Go.ChangeShapes Go.WideShapes Go.ChangeAt Go.RowKit Go.Deep
set_option maxRecDepth 100000 in
theorem kit_cellsId : Tryz.prog.cellsOf 28 = 2 := by kernel_rfl
set_option maxRecDepth 100000 in
theorem wf_u32 {a : Int} (h : (Lit.int .u32 a).wf = true) : ∃ n : Nat, a = (n : Int) ∧ n < 4294967296 := by
  have hb : 0 ≤ a ∧ a ≤ 4294967295 := by simpa [Lit.wf, IntKind.min, IntKind.max, IntKind.signed, IntKind.bits] using h
  exact ⟨a.toNat, by omega, by omega⟩
set_option maxRecDepth 100000 in
theorem wf_u8 {a : Int} (h : (Lit.int .u8 a).wf = true) : ∃ n : Nat, a = (n : Int) ∧ n < 256 := by
  have hb : 0 ≤ a ∧ a ≤ 255 := by simpa [Lit.wf, IntKind.min, IntKind.max, IntKind.signed, IntKind.bits] using h
  exact ⟨a.toNat, by omega, by omega⟩
set_option maxRecDepth 100000 in
theorem id_of {H : Type} {enc : TypeId × Value → H} {W : World} {v : Value} {d : DataW H} {p : List MemPlace} {base : Nat}
    (hv : Value.okWide Tryz.prog W .any base 28 v) (h : DataW.Trod enc Tryz.prog W 0 (fun _ => true) true 28 v d p) :
    ∃ a : Id, v = .agg #[.int .u32 (a.t : Int), .int .u8 (a.r : Int)] := by
  obtain ⟨c0, c1, y0, y1, m, rfl, -, -, hy0, hy1⟩ := open_agg2 Tryz.underlying28 (by kernel_rfl) kit_cellsId hv h
  obtain ⟨a, e0, -, wa⟩ := DataW.trod_int Tryz.underlying26 hy0
  obtain ⟨b, e1, -, wb⟩ := DataW.trod_int Tryz.underlying5 hy1
  simp at e0 e1
  subst e0 e1
  obtain ⟨n, rfl, hn⟩ := wf_u32 wa
  obtain ⟨q, rfl, hq⟩ := wf_u8 wb
  exact ⟨⟨n, q, hn, hq⟩, rfl⟩
end Go.Proofs.YtgjbnbojjgbmcaaGreat

namespace Go.Proofs.YtgjbnbojjgbmcaaGreat
open Go.Joins Go.ChangeShapes Go.WideShapes Go.ChangeAt Go.RowKit Go.Deep
set_option maxRecDepth 100000 in
theorem kit_cellsRun : Tryz.prog.cellsOf 32 = 3 := by kernel_rfl
end Go.Proofs.YtgjbnbojjgbmcaaGreat

namespace Go.Proofs.YtgjbnbojjgbmcaaGreat
open Go.Joins Go.ChangeShapes Go.WideShapes Go.ChangeAt Go.RowKit Go.Deep Go.Proofs.YtgjbnbojjgbmcaaGreat.Ops
set_option maxRecDepth 100000 in
theorem kit_cellsOp : Tryz.prog.cellsOf 38 = 5 := by kernel_rfl
end Go.Proofs.YtgjbnbojjgbmcaaGreat

namespace Go.Proofs.YtgjbnbojjgbmcaaGreat
open Go.Joins Go.ChangeShapes Go.WideShapes Go.ChangeAt Go.RowKit Go.Deep Go.Proofs.YtgjbnbojjgbmcaaGreat.Ops
/-- A datum's slices are each within reach. -/
def Fits {H : Type} (t : TypeId) (d : DataW H) : Prop := ∀ n ∈ DataW.weights Tryz.prog t d, n ≤ reachBytes
theorem weightsAll_in {H : Type} {P : Program} {e : TypeId} {d : DataW H} : ∀ {l : List (DataW H)}, d ∈ l → ∀ n ∈ DataW.weights P e d, n ∈ DataW.weightsAll P e l
  | x :: l, h, n, hn => by
    simp only [DataW.weightsAll, List.mem_append]
    rcases List.mem_cons.1 h with rfl | h
    · exact .inl hn
    · exact .inr (weightsAll_in h n hn)
theorem fits_slice {H : Type} {ts te : TypeId} (hu : Tryz.prog.underlying ts = some (.slice te)) {ds sp : List (DataW H)} (h : Fits ts (.slice ds sp)) :
    (ds.length + sp.length) * Tryz.prog.bytesOf te ≤ reachBytes ∧ ∀ d ∈ ds, Fits te d := by
  unfold Fits at h
  simp only [DataW.weights, hu, List.mem_cons, List.mem_append] at h
  exact ⟨h _ (.inl rfl), fun d hd n hn => h n (.inr (.inl (weightsAll_in hd n hn)))⟩
theorem rows_flat {α : Type} (E : Enc α) {W : World} {g : Nat → List Value} {f : Nat → α} : ∀ (k s : Nat), (∀ i, s ≤ i → i < s + k → E.inn W (g i) (f i)) → E.rows W ((List.range' s k).flatMap g) ((List.range' s k).map f)
  | 0, _, _ => rfl
  | k + 1, s, h => by
    rw [List.range'_succ, List.flatMap_cons, List.map_cons]
    exact ⟨_, _, rfl, h s (Nat.le_refl _) (by omega), rows_flat E k (s + 1) (fun i h1 h2 => h i (by omega) (by omega))⟩
theorem flat_len {sz : Nat} {g : Nat → List Value} : ∀ (k s : Nat), (∀ i, s ≤ i → i < s + k → (g i).length = sz) → ((List.range' s k).flatMap g).length = k * sz
  | 0, _, _ => by simp
  | k + 1, s, h => by
    rw [List.range'_succ, List.flatMap_cons, List.length_append, h s (Nat.le_refl _) (by omega), flat_len k (s + 1) (fun i h1 h2 => h i (by omega) (by omega)), Nat.succ_mul]
    omega
theorem flat_get {sz : Nat} {g : Nat → List Value} : ∀ (k s i j : Nat), i < k → j < sz → (∀ i, s ≤ i → i < s + k → (g i).length = sz) → ((List.range' s k).flatMap g)[i * sz + j]? = (g (s + i))[j]?
  | 0, _, _, _, h, _, _ => by omega
  | k + 1, s, 0, j, _, hj, h => by
    show _ = (g s)[j]?
    rw [List.range'_succ, List.flatMap_cons, Nat.zero_mul, Nat.zero_add, List.getElem?_append_left (by rw [h s (Nat.le_refl _) (by omega)]; exact hj)]
  | k + 1, s, i + 1, j, hi, hj, h => by
    have hs := h s (Nat.le_refl _) (by omega)
    rw [List.range'_succ, List.flatMap_cons, List.getElem?_append_right (by rw [hs, Nat.succ_mul]; omega), hs, show (i + 1) * sz + j - sz = i * sz + j by rw [Nat.succ_mul]; omega,
      flat_get k (s + 1) i j (by omega) hj (fun i h1 h2 => h i (by omega) (by omega)), show s + 1 + i = s + (i + 1) by omega]
set_option maxRecDepth 100000 in
/-- What a slice's reading gives, out of what each element's gives. -/
theorem seq_cells {α : Type} (E : Enc α) {ts te : TypeId} (hu : Tryz.prog.underlying ts = some (.slice te)) (hc : Tryz.prog.cellsOf te = E.sz) {H : Type} {enc : TypeId × Value → H} {W : World} {R : α → Prop}
    (hel : ∀ (fuel : Nat) (cs : List Value) (y : DataW H × List MemPlace), cs.length = E.sz → DataW.trod enc Tryz.prog W 0 (fun _ => true) true fuel te cs = some y → ∃ a, E.inn W cs a ∧ (Fits te y.1 → R a))
    {v : Value} {fuel : Nat} {y : DataW H × List MemPlace} (hf : DataW.trod enc Tryz.prog W 0 (fun _ => true) true fuel ts [v] = some y) :
    ∃ (ao : Option Addr) (cap : Nat) (l : List α), v = .slice ao l.length cap ∧ Seq E W (.slice ao l.length cap) l ∧ (Fits ts y.1 → l.length * Tryz.prog.bytesOf te ≤ reachBytes ∧ ∀ a ∈ l, R a) := by
  have hp := E.pos
  rcases open_slice hu hf with ⟨hcs, hx⟩ | ⟨a, len, cap, m, n, D, Pl, hcs, _, hl, hm, hmm, hx, hi⟩
  · obtain rfl : v = .slice none 0 0 := by simpa using hcs
    exact ⟨none, 0, [], rfl, Seq.nil E W, fun _ => ⟨by simp, by simp⟩⟩
  · obtain rfl : v = .slice (some a) len cap := by simpa using hcs
    simp only [if_true] at hmm
    subst hmm
    unfold maxLen at hm
    by_cases hl0 : len = 0
    · subst hl0
      exact ⟨some a, m, [], rfl, ⟨[], ⟨by simp, some a, m, rfl, by omega, hm, by simp, .inl rfl⟩, rfl⟩, fun _ => ⟨by simp, by simp⟩⟩
    have each : ∀ i, i < m → ∃ c x, c.length = E.sz ∧ (∀ j, j < E.sz → W.cell? ((a.add (i * E.sz)).add j) = c[j]?) ∧ E.inn W c x ∧ (Fits te (D i) → R x) := by
      intro i him
      obtain ⟨cs, h1, h2⟩ := hi i him
      rw [hc] at h1
      obtain ⟨_, hcl, hat⟩ := World.cells?_some h1
      obtain ⟨x, h3, h4⟩ := hel n cs _ hcl h2
      exact ⟨cs, x, hcl, hat, h3, h4⟩
    have hm0 : 0 < m := by omega
    have hsel : ∃ (g : Nat → List Value) (f : Nat → α), ∀ i, i < m → (g i).length = E.sz ∧ (∀ j, j < E.sz → W.cell? ((a.add (i * E.sz)).add j) = (g i)[j]?) ∧ E.inn W (g i) (f i) ∧ (Fits te (D i) → R (f i)) :=
      ⟨fun i => if h : i < m then Classical.choose (each i h) else Classical.choose (each 0 hm0), fun i => if h : i < m then Classical.choose (Classical.choose_spec (each i h)) else Classical.choose (Classical.choose_spec (each 0 hm0)),
        fun i h => by simp only [h, dif_pos]; exact Classical.choose_spec (Classical.choose_spec (each i h))⟩
    obtain ⟨g, f, hgf⟩ := hsel
    have hxl : ((List.range' 0 len).map f).length = len := by simp
    have hgl : ∀ i, 0 ≤ i → i < 0 + len → (g i).length = E.sz := fun i _ h => (hgf i (by omega)).1
    have hcl := flat_len (sz := E.sz) (g := g) len 0 hgl
    refine ⟨some a, m, (List.range' 0 len).map f, by rw [hxl], ⟨(List.range' 0 len).flatMap g, ⟨by rw [hxl, hcl], some a, m, rfl, by omega, hm, by simp, ?_⟩, rows_flat E len 0 (fun i _ h => (hgf i (by omega)).2.2.1)⟩, ?_⟩
    · right
      obtain ⟨c0, x0, hc0, ha0, _, _⟩ := each 0 hm0
      obtain ⟨u0, hu0⟩ : ∃ u, c0[0]? = some u := ⟨c0[0]'(by omega), List.getElem?_eq_getElem (by omega)⟩
      have h00 := (ha0 0 hp).trans hu0
      obtain ⟨b, off, spot⟩ := a
      have hspot : spot = none := by simpa [Addr.add] using World.cell?_spot h00
      subst hspot
      refine ⟨b, off, rfl, World.block_lt_of_cell? W ⟨b, off, none⟩ (by simpa [Addr.add] using h00), fun j u hj => ?_⟩
      have hjl : j < ((List.range' 0 len).flatMap g).length := (List.getElem?_eq_some_iff.1 hj).1
      rw [hcl] at hjl
      have hij : j = (j / E.sz) * E.sz + j % E.sz := by rw [Nat.mul_comm]; exact (Nat.div_add_mod j E.sz).symm
      have hi1 : j / E.sz < len := Nat.div_lt_of_lt_mul (by rw [Nat.mul_comm]; exact hjl)
      have hj1 : j % E.sz < E.sz := Nat.mod_lt _ hp
      rw [hij, flat_get len 0 (j / E.sz) (j % E.sz) hi1 hj1 hgl, Nat.zero_add, ← (hgf (j / E.sz) (by omega)).2.1 _ hj1] at hj
      rw [← hj, add_plain, add_plain, Nat.add_assoc, ← hij]
    · intro hw
      rw [hx] at hw
      obtain ⟨h1, h2⟩ := fits_slice hu hw
      refine ⟨Nat.le_trans (Nat.mul_le_mul_right _ (by simp)) h1, fun x hx => ?_⟩
      obtain ⟨i, hi2, rfl⟩ := List.mem_map.1 hx
      have hil : i < len := by have := List.mem_range'_1.1 hi2; omega
      exact (hgf i (by omega)).2.2.2 (h2 _ (List.mem_map.2 ⟨i, List.mem_range.2 hil, rfl⟩))
def runE : Enc Run where
  sz := 3
  pos := by decide
  inn _ cs x := cs = [.int .u32 (x.t : Int), .int .u8 (x.r : Int), .int .i64 x.m]
  len := by rintro w cs x rfl; rfl
  one := by
    rintro w cs x rfl u hu
    simp only [List.mem_cons, List.not_mem_nil, or_false] at hu
    rcases hu with rfl | rfl | rfl <;> rfl
  keep := by rintro w w' cs x _ h; exact h
theorem runE_rows {w : World} : ∀ {cs : List Value} {l : List Run}, runE.rows w cs l → cs = runs l
  | _, [], h => h
  | _, _ :: _, ⟨c, d, h1, h2, h3⟩ => by
    rw [h1, show c = _ from h2, runE_rows h3]
    rfl
set_option maxRecDepth 100000 in
theorem kit_bytesRun : Tryz.prog.bytesOf 32 = 16 := by kernel_rfl
set_option maxRecDepth 100000 in
theorem kit_bytesOp : Tryz.prog.bytesOf 38 = 48 := by kernel_rfl
set_option maxRecDepth 100000 in
theorem run_cells {H : Type} {enc : TypeId × Value → H} {W : World} {fuel : Nat} {cs : List Value} {y : DataW H × List MemPlace} (hcl : cs.length = 3)
    (ht : DataW.trod enc Tryz.prog W 0 (fun _ => true) true fuel 32 cs = some y) : ∃ x : Run, cs = [.int .u32 (x.t : Int), .int .u8 (x.r : Int), .int .i64 x.m] := by
  obtain ⟨y0, y1, y2, n2, -, hlen, h0, h1, h2⟩ := trod_struct3 Tryz.underlying32 ht
  match cs, hcl with
  | [c0, c1, c2], _ =>
    have h0' : DataW.trod enc Tryz.prog W 0 (fun _ => true) true n2 26 [c0] = some y0 := h0
    have h1' : DataW.trod enc Tryz.prog W 0 (fun _ => true) true n2 5 [c1] = some y1 := h1
    have h2' : DataW.trod enc Tryz.prog W 0 (fun _ => true) true n2 3 [c2] = some y2 := h2
    obtain ⟨z, e0, -, wz⟩ := DataW.trod_int Tryz.underlying26 h0'
    obtain ⟨u, e1, -, wu⟩ := DataW.trod_int Tryz.underlying5 h1'
    obtain ⟨mm, e2, -, wm⟩ := DataW.trod_int Tryz.underlying3 h2'
    simp at e0 e1 e2
    subst e0 e1 e2
    have hmb : -9223372036854775808 ≤ mm ∧ mm ≤ 9223372036854775807 := by simpa [Lit.wf, IntKind.min, IntKind.max, IntKind.signed, IntKind.bits] using wm
    obtain ⟨tn, rfl, hn⟩ := wf_u32 wz
    obtain ⟨q, rfl, hq⟩ := wf_u8 wu
    exact ⟨⟨tn, q, mm, hn, hq, hmb⟩, rfl⟩
set_option maxRecDepth 100000 in
/-- A slice of runs that is read, and how long it can be. -/
theorem runs_fits {H : Type} {enc : TypeId × Value → H} {W : World} {v : Value} {fuel : Nat} {y : DataW H × List MemPlace}
    (hf : DataW.trod enc Tryz.prog W 0 (fun _ => true) true fuel 33 [v] = some y) :
    ∃ (ao : Option Addr) (cap : Nat) (l : List Run), v = .slice ao l.length cap ∧ Runs W (.slice ao l.length cap) l ∧ (Fits 33 y.1 → l.length ≤ 8796093022208) := by
  obtain ⟨ao, cap, l, h1, ⟨cs, h2, h3⟩, h4⟩ := seq_cells (R := fun _ => True) runE Tryz.underlying33 kit_cellsRun (fun fuel cs y hcl ht => by
    obtain ⟨x, hx⟩ := run_cells hcl ht
    exact ⟨x, hx, fun _ => trivial⟩) hf
  rw [runE_rows h3] at h2
  refine ⟨ao, cap, l, h1, h2, fun h => ?_⟩
  have h5 := (h4 h).1
  rw [kit_bytesRun] at h5
  unfold reachBytes at h5
  omega
set_option maxRecDepth 100000 in
theorem op_cells {H : Type} {enc : TypeId × Value → H} {W : World} {fuel : Nat} {cs : List Value} {y : DataW H × List MemPlace} (hcl : cs.length = 5)
    (ht : DataW.trod enc Tryz.prog W 0 (fun _ => true) true fuel 38 cs = some y) : ∃ o : Opn, opE.inn W cs o ∧ (Fits 38 y.1 → o.pl.length ≤ 8796093022208) := by
  obtain ⟨y0, y1, y2, y3, n, hy, -, h0, h1, h2, h3⟩ := trod_struct4 Tryz.underlying38 ht
  match cs, hcl with
  | [c0, c1, c2, c3, c4], _ =>
    have h0' : DataW.trod enc Tryz.prog W 0 (fun _ => true) true n 5 [c0] = some y0 := h0
    have h1' : DataW.trod enc Tryz.prog W 0 (fun _ => true) true n 28 [c1, c2] = some y1 := h1
    have h2' : DataW.trod enc Tryz.prog W 0 (fun _ => true) true n 33 [c3] = some y2 := h2
    have h3' : DataW.trod enc Tryz.prog W 0 (fun _ => true) true n 3 [c4] = some y3 := h3
    obtain ⟨z0, z1, n2, -, -, g0, g1⟩ := trod_struct2 Tryz.underlying28 h1'
    have g0' : DataW.trod enc Tryz.prog W 0 (fun _ => true) true n2 26 [c1] = some z0 := g0
    have g1' : DataW.trod enc Tryz.prog W 0 (fun _ => true) true n2 5 [c2] = some z1 := g1
    obtain ⟨k, e0, -, wk⟩ := DataW.trod_int Tryz.underlying5 h0'
    obtain ⟨t, e1, -, wt⟩ := DataW.trod_int Tryz.underlying26 g0'
    obtain ⟨r, e2, -, wr⟩ := DataW.trod_int Tryz.underlying5 g1'
    obtain ⟨q, e4, -, wq⟩ := DataW.trod_int Tryz.underlying3 h3'
    obtain ⟨ao, cap, l, e3, hl, hb⟩ := runs_fits h2'
    simp at e0 e1 e2 e4
    subst e0 e1 e2 e3 e4
    have hq : -9223372036854775808 ≤ q ∧ q ≤ 9223372036854775807 := by simpa [Lit.wf, IntKind.min, IntKind.max, IntKind.signed, IntKind.bits] using wq
    obtain ⟨k, rfl, hk⟩ := wf_u8 wk
    obtain ⟨t, rfl, ht2⟩ := wf_u32 wt
    obtain ⟨r, rfl, hr⟩ := wf_u8 wr
    refine ⟨⟨k, t, r, l, q, hk, ht2, hr, hq⟩, ⟨_, rfl, hl⟩, fun h => hb (fun n hn => h n ?_)⟩
    rw [hy]
    simp only [DataW.weights, Tryz.underlying38, List.map_cons, DataW.weightsEach, List.mem_append]
    exact .inr (.inr (.inl hn))
set_option maxRecDepth 100000 in
/-- An argument that is a slice of operations. -/
theorem ops_of {H : Type} {enc : TypeId × Value → H} {W : World} {v : Value} {d : DataW H} {p : List MemPlace} {base : Nat}
    (hv : Value.okWide Tryz.prog W .any base 22 v) (h : DataW.Trod enc Tryz.prog W 0 (fun _ => true) true 22 v d p) :
    ∃ (ao : Option Addr) (cap : Nat) (l : List Opn), v = .slice ao l.length cap ∧ OpL W (.slice ao l.length cap) l ∧ (Fits 22 d → l.length ≤ 2932031007402 ∧ ∀ o ∈ l, o.pl.length ≤ 8796093022208) := by
  obtain ⟨a0, len, cap, rfl⟩ := okWide_slice Tryz.underlying22 hv
  obtain ⟨fuel, hf⟩ := h
  rw [show (Value.slice a0 len cap).cells.toList = [Value.slice a0 len cap] by simp [Value.cells]] at hf
  obtain ⟨ao, cap, l, h1, h2, h3⟩ := seq_cells (R := fun o : Opn => o.pl.length ≤ 8796093022208) opE Tryz.underlying22 kit_cellsOp (fun fuel cs y hcl ht => op_cells hcl ht) hf
  refine ⟨ao, cap, l, h1, h2, fun h => ?_⟩
  obtain ⟨h4, h5⟩ := h3 h
  rw [kit_bytesOp] at h4
  unfold reachBytes at h4
  exact ⟨by omega, h5⟩
end Go.Proofs.YtgjbnbojjgbmcaaGreat

namespace Go.Proofs.YtgjbnbojjgbmcaaGreat
open Go.Joins Go.ChangeShapes Go.WideShapes Go.ChangeAt Go.RowKit Go.Deep Spans
set_option maxRecDepth 100000 in
theorem wf_u32s {a : Int} (h : (Lit.int .u32 a).wf = true) : ∃ n : Nat, a = (n : Int) ∧ n < 4294967296 := by
  have hb : 0 ≤ a ∧ a ≤ 4294967295 := by simpa [Lit.wf, IntKind.min, IntKind.max, IntKind.signed, IntKind.bits] using h
  exact ⟨a.toNat, by omega, by omega⟩
end Go.Proofs.YtgjbnbojjgbmcaaGreat

namespace Go.Proofs.YtgjbnbojjgbmcaaGreat
open Go Go.ChangeShapes Go.WideShapes Go.ChangeAt Go.RowKit
section
variable {H : Type} {enc : TypeId × Value → H} {P : Program} {w : World} {base : Nat} {spare : Nat → Bool} {held : Bool}
theorem trodAll_mk5 {t0 t1 t2 t3 t4 : TypeId} {v0 v1 v2 v3 v4 : Value} {d0 d1 d2 d3 d4 : DataW H} {p0 p1 p2 p3 p4 : List MemPlace} (h0 : DataW.Trod enc P w base spare held t0 v0 d0 p0) (h1 : DataW.Trod enc P w base spare held t1 v1 d1 p1) (h2 : DataW.Trod enc P w base spare held t2 v2 d2 p2) (h3 : DataW.Trod enc P w base spare held t3 v3 d3 p3) (h4 : DataW.Trod enc P w base spare held t4 v4 d4 p4) :
    DataW.TrodAll enc P w base spare held [t0, t1, t2, t3, t4] [v0, v1, v2, v3, v4] [d0, d1, d2, d3, d4] (p0 ++ (p1 ++ (p2 ++ (p3 ++ (p4))))) := ⟨p0, p1 ++ (p2 ++ (p3 ++ (p4))), h0, trodAll_mk4 h1 h2 h3 h4, rfl⟩
theorem trodAll_mk6 {t0 t1 t2 t3 t4 t5 : TypeId} {v0 v1 v2 v3 v4 v5 : Value} {d0 d1 d2 d3 d4 d5 : DataW H} {p0 p1 p2 p3 p4 p5 : List MemPlace} (h0 : DataW.Trod enc P w base spare held t0 v0 d0 p0) (h1 : DataW.Trod enc P w base spare held t1 v1 d1 p1) (h2 : DataW.Trod enc P w base spare held t2 v2 d2 p2) (h3 : DataW.Trod enc P w base spare held t3 v3 d3 p3) (h4 : DataW.Trod enc P w base spare held t4 v4 d4 p4) (h5 : DataW.Trod enc P w base spare held t5 v5 d5 p5) :
    DataW.TrodAll enc P w base spare held [t0, t1, t2, t3, t4, t5] [v0, v1, v2, v3, v4, v5] [d0, d1, d2, d3, d4, d5] (p0 ++ (p1 ++ (p2 ++ (p3 ++ (p4 ++ (p5)))))) := ⟨p0, p1 ++ (p2 ++ (p3 ++ (p4 ++ (p5)))), h0, trodAll_mk5 h1 h2 h3 h4 h5, rfl⟩
end
end Go.Proofs.YtgjbnbojjgbmcaaGreat
