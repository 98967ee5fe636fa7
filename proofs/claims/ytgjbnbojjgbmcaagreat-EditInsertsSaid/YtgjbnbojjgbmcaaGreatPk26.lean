/- octavo/clock.Of: the times that each replica has, kept in a map; what it answers. Conditions: the slice's cells are stamps; slices.Sort puts so many in order. -/
import Derived.RowKit
import Derived.Test.YtgjbnbojjgbmcaaGreatChecked
import Derived.WalkKit
import Derived.WalkSpells
import Derived.WalkLawsBesides
import Derived.Laws.BytesArg
import Derived.Lib.Hide
import Derived.Deep.LoopGhost
import Derived.Laws.AppendOwnNone
import Derived.Laws.OwnMore
import Derived.WideShapes
import Derived.RegionTactic
import Derived.Deep.DrawnRows
import Derived.Deep.QuietTactic
import Derived.BigQuiet
import Derived.IntWalk
import Derived.Deep.RegionHeld3
import Derived.Shelf.Abstract
import Derived.RangeFuncBox
import Derived.RangeFuncLeaves
import Derived.RangeFuncNested
import Derived.RangeFuncBound
import Derived.RangeFuncCalls
import Derived.OwnWalkIn
import Derived.TacticsInMore
import Derived.LoopNIn
import Derived.LoopIn
import Derived.Maps.Own
import Derived.Maps.OwnOps
import Derived.Maps.Views
import Derived.Deep.DeepCutAuto
import Derived.Lib.Tables
import Derived.Maps.AppendAt
import Derived.Test.YtgjbnbojjgbmcaaGreatRw
import Derived.Test.YtgjbnbojjgbmcaaGreatPk25
import Derived.Test.YtgjbnbojjgbmcaaGreatPk09
import Derived.Test.YtgjbnbojjgbmcaaGreatPk24
import Derived.Test.YtgjbnbojjgbmcaaGreatPk23
import Derived.Test.YtgjbnbojjgbmcaaGreatPk04
import Derived.Test.YtgjbnbojjgbmcaaGreatPk01
import Derived.Test.YtgjbnbojjgbmcaaGreatPk15
import Derived.Test.YtgjbnbojjgbmcaaGreatPk16
import Derived.Test.YtgjbnbojjgbmcaaGreatPk20

namespace Go.Proofs.YtgjbnbojjgbmcaaGreat.Clocks
open Go.RowKit Go.Proofs.YtgjbnbojjgbmcaaGreat.Spans Go.Proofs.YtgjbnbojjgbmcaaGreat.Srt
attribute [local go_sem ↓] Go.wp_at_zero Go.wp_at_succ
theorem zero_us (w : World) : (zeroValue 210).run Tryz.prog w = .ok (.slice none 0 0) w := by kernel_rfl
theorem u32_info : (Tryz.prog.info? 26).map (fun i => (i.zero, i.size, i.bytes)) = some (some (.int .u32 0), 1, 4) := by kernel_rfl
/-- The times that a replica has among stamps. -/
def trs (l : List Id) (r : Nat) : List Nat := (l.filter fun a => decide (a.r = r)).map (·.t)
theorem trs_snoc (l : List Id) (a : Id) (r : Nat) : trs (l ++ [a]) r = if a.r = r then trs l r ++ [a.t] else trs l r := by
  unfold trs
  rw [List.filter_append, List.map_append]
  by_cases h : a.r = r
  · simp [h]
  · simp [h]
theorem trs_len (l : List Id) (r : Nat) : (trs l r).length ≤ l.length := by
  unfold trs
  rw [List.length_map]
  exact List.length_filter_le _ _
theorem mem_trs {l : List Id} {r t : Nat} : t ∈ trs l r ↔ ∃ a ∈ l, a.r = r ∧ a.t = t := by
  unfold trs
  simp only [List.mem_map, List.mem_filter, decide_eq_true_eq]
  constructor
  · rintro ⟨a, ⟨h1, h2⟩, h3⟩; exact ⟨a, h1, h2, h3⟩
  · rintro ⟨a, h1, h2, h3⟩; exact ⟨a, ⟨h1, h2⟩, h3⟩
theorem trs_may {l : List Id} (h : ∀ a ∈ l, mayI a) (r : Nat) : ∀ t ∈ trs l r, 1 ≤ t ∧ t ≤ 1073741824 := fun t ht => by
  obtain ⟨a, ha, _, rfl⟩ := mem_trs.1 ht
  exact ⟨(h a ha).1, (h a ha).2.1⟩
def rowOf (M : Nat → Option Value) (r : Nat) : Value := (M r).getD (.slice none 0 0)
/-- A row for each replica that is asked for, each in a block of its own ahead of H; its map in block N, the map's place in block N + 1. -/
def Rws (N H : Nat) (M : Nat → Option Value) (f : Nat → List Nat) (from' : Nat) (wr : World) : Prop :=
  (∀ r, from' ≤ r → r < 256 → wr.ownsRow (N + 2) 26 1 (rowOf M r) (f r).length (us (f r))) ∧
  (∀ r q, r < 256 → q < 256 → r ≠ q → ∀ g, (rowOf M r).ownBlock = some g → (rowOf M q).ownBlock ≠ some g) ∧ (∀ r, r < 256 → ∀ g, (rowOf M r).ownBlock = some g → N + 2 ≤ g ∧ g < H)
def Box (N : Nat) (wr : World) : Prop := wr.heap[N + 1]? = some (.cells #[.map (some N)] 209)
theorem Rws.nil (N H : Nat) (l : List Id) (wr : World) : Rws N H (fun _ => none) (trs (l.take 0)) 0 wr :=
  ⟨fun r _ _ => World.ownsRow_nil _ _ _ _, fun r q _ _ _ g hg => by simp [rowOf, Value.ownBlock] at hg, fun r _ g hg => by simp [rowOf, Value.ownBlock] at hg⟩
theorem Rws.keeps {N H k : Nat} {M : Nat → Option Value} {f : Nat → List Nat} {w w' : World} (h : Rws N H M f k w) (hb : ∀ j, N + 2 ≤ j → j < H → w'.heap[j]? = w.heap[j]?) : Rws N H M f k w' := by
  refine ⟨fun r h1 h2 => ?_, h.2.1, h.2.2⟩
  have ho := h.1 r h1 h2
  refine ⟨ho.1, ?_⟩
  rcases ho.2 with h0 | ⟨g, cap, cur, h3, h4, hg, h5⟩
  · exact .inl h0
  · exact .inr ⟨g, cap, cur, h3, h4, (hb g h4 (h.2.2 r h2 g (by rw [h3]; rfl)).2).trans hg, h5⟩
theorem Rws.wider {N H H' k : Nat} {M : Nat → Option Value} {f : Nat → List Nat} {w : World} (h : Rws N H M f k w) (hH : H ≤ H') : Rws N H' M f k w :=
  ⟨h.1, h.2.1, fun r hr g hg => ⟨(h.2.2 r hr g hg).1, Nat.lt_of_lt_of_le (h.2.2 r hr g hg).2 hH⟩⟩
/-- A stamp more. -/
theorem Rws.put {N H : Nat} {M : Nat → Option Value} {l : List Id} {k : Nat} {w4 w5 : World} (h : Rws N H M (trs (l.take k)) 0 w4) {x : Id} (hs : l.take (k + 1) = l.take k ++ [x]) (hx : x.r < 256) {v5 : Value}
    (o5 : w5.ownsRow (N + 2) 26 1 v5 ((trs (l.take k) x.r).length + 1) (us (trs (l.take k) x.r) ++ [.int .u32 (x.t : Int)])) (g5 : w4.grownBy w5 (rowOf M x.r).ownBlock) (hH : H ≤ w4.heap.size)
    (l5 : v5.ownBlock = (rowOf M x.r).ownBlock ∨ v5.ownBlock = some w4.heap.size) :
    Rws N w5.heap.size (fun j => if j = x.r then some v5 else M j) (trs (l.take (k + 1))) 0 w5 := by
  have e1 : rowOf (fun j => if j = x.r then some v5 else M j) x.r = v5 := by simp [rowOf]
  have e2 : ∀ q, q ≠ x.r → rowOf (fun j => if j = x.r then some v5 else M j) q = rowOf M q := fun q hq => by simp [rowOf, hq]
  refine ⟨fun r _ hr => ?_, fun r q hr hq hne g hg => ?_, fun r hr g hg => ?_⟩
  · rw [hs, trs_snoc]
    by_cases hrx : r = x.r
    · subst hrx
      rw [e1, if_pos rfl, us_append, List.length_append]
      exact o5
    · rw [e2 r hrx, if_neg (fun e => hrx e.symm)]
      refine (h.1 r (by omega) hr).kept g5 ?_
      by_cases hn : (rowOf M r).ownBlock = none
      · exact .inl hn
      · refine .inr (fun e => ?_)
        obtain ⟨g, hg⟩ := Option.ne_none_iff_exists'.1 hn
        exact h.2.1 r x.r hr hx hrx g hg (e ▸ hg)
  · by_cases hrx : r = x.r
    · subst hrx
      rw [e1] at hg
      rw [e2 q (fun e => hne e.symm)]
      intro hq2
      rcases l5 with h5 | h5
      · exact h.2.1 _ q hr hq hne g (by rw [← h5]; exact hg) hq2
      · rw [h5] at hg
        cases hg
        have := (h.2.2 q hq _ hq2).2
        omega
    · rw [e2 r hrx] at hg
      by_cases hqx : q = x.r
      · subst hqx
        rw [e1]
        intro hq2
        rcases l5 with h5 | h5
        · exact h.2.1 r _ hr hq hne g hg (by rw [← h5]; exact hq2)
        · rw [h5] at hq2
          cases hq2
          have := (h.2.2 r hr _ hg).2
          omega
      · rw [e2 q hqx]
        exact h.2.1 r q hr hq hne g hg
  · by_cases hrx : r = x.r
    · subst hrx
      rw [e1] at hg
      exact o5.lt g hg
    · rw [e2 r hrx] at hg
      have := h.2.2 r hr g hg
      have := g5.size
      omega
set_option maxRecDepth 100000 in
set_option maxHeartbeats 2000000 in
theorem ofOne_any {K : Nat} (HS : SortC K) (hK : K ≤ 1000000) {k N n : Nat} {M : Nat → Option Value} {xs : List Nat} {W : World} (hk : k < 256) (hb : Box N W) (hm : MapV W N n M)
    (ho : W.ownsRow (N + 2) 26 1 (rowOf M k) xs.length (us xs)) (hl : xs.length ≤ K) (hok : ∀ t ∈ xs, 1 ≤ t ∧ t ≤ 1073741824) :
    Calls Tryz.prog 165 #[.int .u8 (k : Int), .pointer (some ⟨N + 1, 0, none⟩)] W fun e w' => ∃ v' S, e = .returned (.tuple #[v', .int .i64 0]) ∧ w'.ownsRow W.heap.size 174 2 v' S.length (sps S) ∧ Fine S ∧ (∀ n, In S n ↔ n ∈ xs) ∧ S.length ≤ xs.length ∧
      W.grownBy w' (rowOf M k).ownBlock := by
  have hcell : W.cell? ⟨N + 1, 0, none⟩ = some (.map (some N)) := cell_of_row W (N + 1) 0 _ _ _ hb
  have H1 := Lib.hid hm
  obtain ⟨v, hv⟩ : ∃ v, v = rowOf M k := ⟨_, rfl⟩
  have HX := Lib.hid hv
  rw [← hv] at ho ⊢
  have CD : Hid (Calls Tryz.prog 166 #[v] W (InS v xs W)) := by
    rcases ho.2 with ⟨h0, h1⟩ | ⟨g, cap, cur, h0, h1, h2⟩
    · subst h0
      obtain rfl : xs = [] := List.length_eq_zero_iff.1 h1
      exact inShort_nil W
    · subst h0
      exact inShort_row HS hK (B := N + 2) ho hl hok
  obtain ⟨ao, cap, rfl⟩ := Sees.shape (Sees.own ho)
  obtain ⟨m, hm'⟩ : ∃ m, m = xs.length := ⟨_, rfl⟩
  have HM := Lib.hid hm'
  rw [← hm'] at CD HX ⊢
  clear hm hb ho hl hok hv hm' HS hK
  have HX' : Hid ((M k).getD (.slice none 0 0) = .slice ao m cap) := HX.out.symm
  go_enter Tryz.func165, Tryz.ntmps165
  go_wp2_with (first | (at_lookup; refine wpList_lookup_v _ rfl _ _ 209 210 rfl Tryz.underlying209 (.slice none 0 0) (zero_us _) N n k M H1.out rfl rfl hk ?_; rw [HX'.out]))
  refine CD.out.mono ?_
  rintro e w1 ⟨v1, S, rfl, o1, f1, f2, f3, g1⟩
  have O1 := Lib.hid o1
  have F1 := Lib.hid f1
  have F2 := Lib.hid f2
  have F3 := Lib.hid f3
  have G1 := Lib.hid g1
  obtain ⟨so, sc, rfl⟩ := Sees.shape (Sees.own o1)
  clear o1 f1 f2 f3 g1
  go_wp2
  go_ret2
  exact ⟨_, S, rfl, O1.out, F1.out, F2.out, by rw [HM.out]; exact F3.out, G1.out⟩
theorem step_lookup_v {w : World} {ops : Array Oper} {o : Oper} {a : Act} {K : Act → World → Prop} {Q : Exit → Act → World → Prop} {E : Prop} (hgd : o.guard = none) (m x : Operand) (t e : TypeId) (hop : o.op = Op.lookup t m x false)
    (ht : Tryz.prog.underlying t = some (.map 5 e)) (z : Value) (hz : (zeroValue e).run Tryz.prog w = .ok z w)
    (b n r : Nat) (M : Nat → Option Value) (hM : MapV w b n M) (hm : a.eval m = .map (some b)) (hx : a.eval x = .int .u8 (r : Int)) (hr : r < 256)
    (hK : K (a.put o.dst ((M r).getD z)) w) : if Region.wanted o (yielded ops a.tmps) = true then Oper.wp Tryz.prog o a w K Q else E := by
  have hw : Region.wanted o (yielded ops a.tmps) = true := by simp [Region.wanted, hgd]
  rw [if_pos hw]
  have hrun := hM.run ht hz hr
  unfold Oper.wp
  simp [execOp, hop, hm, hx, hrun, Result.andThen]
  exact hK
theorem step_of_list {w : World} {ops : Array Oper} {o : Oper} {a : Act} {K : Act → World → Prop} {Q : Exit → Act → World → Prop} {E : Prop} (hgd : o.guard = none)
    (h : Oper.wp Tryz.prog o a w K Q) : if Region.wanted o (yielded ops a.tmps) = true then Oper.wp Tryz.prog o a w K Q else E := by
  have hw : Region.wanted o (yielded ops a.tmps) = true := by simp [Region.wanted, hgd]
  rw [if_pos hw]
  exact h
theorem step_update_v {w : World} {ops : Array Oper} {o : Oper} {a : Act} {K : Act → World → Prop} {Q : Exit → Act → World → Prop} {E : Prop} (hgd : o.guard = none) (m x v : Operand) (t e : TypeId) (hop : o.op = Op.mapUpdate t m x v)
    (ht : Tryz.prog.underlying t = some (.map 5 e)) (b n r : Nat) (M : Nat → Option Value) (hM : MapV w b n M) (hn : n < 9223372036854775807) (hm : a.eval m = .map (some b)) (hx : a.eval x = .int .u8 (r : Int)) (hr : r < 256)
    (val : Value) (hv : a.eval v = val) (hK : ∀ w', MapV w' b (n + 1) (fun k => if k = r then some val else M k) → w.grownBy w' (some b) → K (a.put o.dst undef) w') :
    if Region.wanted o (yielded ops a.tmps) = true then Oper.wp Tryz.prog o a w K Q else E := by
  refine step_of_list hgd ?_
  obtain ⟨D, h1, h2, h3⟩ := hM
  obtain ⟨w', hrun, r1, r2⟩ := h1.update u8law ht (by unfold maxLen; omega) (u8key hr) (val := val) (ps := []) (d := .held val) rfl
  unfold Oper.wp
  simp [execOp, hop, hm, hx, hv, hrun, Result.andThen]
  exact hK w' (MapV.put h2 h3 r1) r2
theorem cell_grown {X Y : World} {row : Option Nat} (h : X.grownBy Y row) {g o : Nat} (hne : row ≠ some g) (hg : g < X.heap.size) : Y.cell? ⟨g, o, none⟩ = X.cell? ⟨g, o, none⟩ :=
  World.cell?_of_block (a := ⟨g, o, none⟩) (h.block g hg (fun e => hne e.symm))
/-- The state: what is of the stamps that are by. -/
def OfI (N k : Nat) (l : List Id) (w wr : World) : Prop := ∃ M, MapV wr N k M ∧ Box N wr ∧ Rws N wr.heap.size M (trs (l.take k)) 0 wr ∧ Below N w wr
theorem of_step {N k : Nat} {l : List Id} {w wo w2 w5 w6 : World} {v5 : Value} {M : Nat → Option Value} {x : Id} {o : Obj} (_hN : N ≤ w.heap.size) (hR : Rws N wo.heap.size M (trs (l.take k)) 0 wo) (hB : Box N wo) (hbel : Below N w wo) (b2 : Below wo.heap.size wo w2)
    (hs : l.take (k + 1) = l.take k ++ [x]) (hx : x.r < 256) (o5 : w5.ownsRow (N + 2) 26 1 v5 ((trs (l.take k) x.r).length + 1) (us (trs (l.take k) x.r) ++ [.int .u32 (x.t : Int)])) (g5 : (w2.drew.alloc o).grownBy w5 (rowOf M x.r).ownBlock)
    (l5 : v5.ownBlock = (rowOf M x.r).ownBlock ∨ v5.ownBlock = some (w2.drew.alloc o).heap.size) (m6 : MapV w6 N (k + 1) (fun j => if j = x.r then some v5 else M j)) (g6 : w5.grownBy w6 (some N)) : OfI N (k + 1) l w w6 := by
  have hsz : (w2.drew.alloc o).heap.size = w2.heap.size + 1 := World.size_alloc _ _
  have hsz2 := b2.size
  have b4 : Below wo.heap.size wo (w2.drew.alloc o) := b2.drew.alloc hsz2 o
  have hne : (rowOf M x.r).ownBlock ≠ some (N + 1) := fun e => by
    have := (hR.2.2 _ hx _ e).1
    omega
  have hN1 : N + 1 < wo.heap.size := (Array.getElem?_eq_some_iff.1 hB).1
  have R4 : Rws N wo.heap.size M (trs (l.take k)) 0 (w2.drew.alloc o) := hR.keeps fun j _ hj => b4.block j hj
  have R5 := R4.put hs hx o5 g5 (by omega) l5
  have hB5 : Box N w5 := (g5.block _ (by omega) (fun e => hne e.symm)).trans ((b4.block _ hN1).trans hB)
  have hs5 := g5.size
  refine ⟨_, m6, (g6.block _ (by omega) (fun e => by have := Option.some.inj e; omega)).trans hB5, ?_, ?_⟩
  · exact (R5.keeps (fun j h1 h2 => g6.block j h2 (fun e => by have := Option.some.inj e; omega))).wider g6.size
  · have h4 : Below N w (w2.drew.alloc o) := hbel.trans (b4.mono (by omega))
    have h5 : Below N w w5 := h4.grown g5 (by omega) (fun j e => by have := (hR.2.2 _ hx _ e).1; omega)
    exact h5.grown g6 (by omega) (fun j e => by cases e; exact Nat.le_refl _)
set_option maxRecDepth 100000 in
set_option maxHeartbeats 4000000 in
theorem cOf_any {K : Nat} (HS : SortC K) (hK : K ≤ 1000000) {v : Value} {l : List Id} {w : World} (hv : Ids w v l) (hl : l.length ≤ K) :
    Calls Tryz.prog 113 #[v] w (DoneC (ofC l).1 (ofC l).2 w) := by
  obtain ⟨ao, cap, rfl⟩ := hv.shape
  obtain ⟨n, hn⟩ : ∃ n, n = l.length := ⟨_, rfl⟩
  have hm : n ≤ 9223372036854775807 := by rw [hn]; exact Sees.max hv
  have HV := Lib.hid hv
  have HN := Lib.hid hn
  have HSH := Lib.hid HS
  have HKH := Lib.hid hK
  have HLH := Lib.hid hl
  obtain ⟨L, x, hd⟩ : ∃ L x, ofC l = (L, x) := ⟨_, _, rfl⟩
  rw [hd, ← hn]
  unfold ofC at hd
  by_cases hbig : 1024 < n
  · rw [if_pos (by rw [← hn]; exact hbig)] at hd
    obtain ⟨rfl, rfl⟩ : [] = L ∧ (4 : Int) = x := Prod.mk.inj hd
    have t1 : decide ((1024 : Int) < (n : Int)) = true := decide_eq_true (by omega)
    have t2 : decide (1024 < n) = true := decide_eq_true hbig
    clear hv hn hd HS hK hl
    go_enter Tryz.func113, Tryz.ntmps113
    go_wp2
    go_ret2
    exact ⟨_, rfl, OwnC.nil _ _, Below.refl _ _⟩
  rw [if_neg (by rw [← hn]; exact hbig)] at hd
  have t1 : decide ((1024 : Int) < (n : Int)) = false := decide_eq_false (by omega)
  have t2 : decide (1024 < n) = false := decide_eq_false hbig
  have HNo : Hid ((∃ a ∈ l, ¬ mayI a) → L = [] ∧ x = 8) := by
    rintro ⟨a, ha, h⟩
    rw [if_neg (fun hb => h ((allMay_iff l).1 hb a ha))] at hd
    exact ⟨(Prod.mk.inj hd).1.symm, (Prod.mk.inj hd).2.symm⟩
  have HYes : Hid ((∀ a ∈ l, mayI a) → L = among l ∧ x = 0) := fun h => by
    rw [if_pos ((allMay_iff l).2 h)] at hd
    exact ⟨(Prod.mk.inj hd).1.symm, (Prod.mk.inj hd).2.symm⟩
  have hmm := @run_makeMap Tryz.prog
  have O0 : Hid (OfI w.heap.size 0 l w ((w.alloc (.map #[] 0)).alloc (.cells #[.map (some w.heap.size)] 209))) :=
    ⟨fun _ => none, (MapV.made w).keeps ((Below.refl _ _).alloc (Nat.le_refl _) _), kb_new (by simp), Rws.nil _ _ _ _, ((Below.refl w.heap.size w).alloc (Nat.le_refl _) _).alloc (by simp) _⟩
  clear hv hn hd HS hK hl
  simp only
  go_enter Tryz.func113, Tryz.ntmps113
  go_wp2
  go_loopw [6, 14] (fun a6 i wr => ∃ k : Nat, k ≤ n ∧ i = .int .i64 (k : Int) ∧ Hid (∀ a ∈ l.take k, mayI a) ∧ Hid (OfI w.heap.size k l w wr)) (fun a6 i _ => n - (intOf i).toNat)
  case atStart => exact ⟨0, by omega, rfl, Lib.hid (by simp), O0⟩
  case round =>
    clear O0
    obtain ⟨k, hk, rfl, hal, hof⟩ := hrel
    obtain ⟨wo, rfl⟩ : ∃ wo : World, wo = wr := ⟨_, rfl⟩
    obtain ⟨M, hM, hB, hR, hbel⟩ := hof.out
    obtain ⟨N, hNN⟩ : ∃ N, N = w.heap.size := ⟨_, rfl⟩
    rw [← hNN] at hM hB hR hbel ⊢
    by_cases hkn : k < n
    · have q1 : decide (k < n) = true := by simpa using hkn
      have q2 : (0 : Int) ≤ (k : Int) := by omega
      have q3 : (k : Int) < (n : Int) := by omega
      have hkl : k < l.length := by rw [← HN.out]; exact hkn
      obtain ⟨b1, o1, rfl, hb1, ha0, ha1⟩ := (HV.out.keeps (hNN ▸ hbel)).at k hkl
      have hs := id_take_snoc l k hkl
      have hmem := id_mem hkl
      obtain ⟨y, hy⟩ : ∃ y, y = l.getD k zid := ⟨_, rfl⟩
      rw [← hy] at ha0 ha1 hs hmem
      obtain ⟨yt, yr, hyt, hyr⟩ := y
      simp only at ha0 ha1
      obtain ⟨A, hA⟩ : ∃ A, A = wo.heap.size := ⟨_, rfl⟩
      have hNA : N + 1 < A := by rw [hA]; exact (Array.getElem?_eq_some_iff.1 hB).1
      have CK := Lib.hid (stCheck_any ⟨yt, yr, hyt, hyr⟩ (wo.alloc (.cells #[.int .u32 (yt : Int), .int .u8 (yr : Int)] 28)))
      obtain ⟨q, hq⟩ : ∃ q, chkI ⟨yt, yr, hyt, hyr⟩ = q := ⟨_, rfl⟩
      rw [hq] at CK
      have BA : Hid (Below wo.heap.size wo (wo.alloc (.cells #[.int .u32 (yt : Int), .int .u8 (yr : Int)] 28))) := (Below.refl _ _).alloc (Nat.le_refl _) _
      have HBL := Lib.hid hbel
      have HAH := Lib.hid hA
      have HNH := Lib.hid hNN
      have HMH := Lib.hid hM
      have HBH := Lib.hid hB
      have HRH := Lib.hid hR
      have HSN := Lib.hid hs
      have HMEM := Lib.hid hmem
      have HQ := Lib.hid hq
      clear hof hM hB hR hbel hs hmem hq hy
      by_cases hmay : mayI ⟨yt, yr, hyt, hyr⟩
      · obtain rfl : q = 0 := by rw [← HQ.out]; exact if_pos hmay
        clear HNo hA
        go_wp2_with fail
        refine CK.out.mono ?_
        rintro e w2 ⟨rfl, b2⟩
        have B2 : Hid (Below wo.heap.size wo w2) := bt BA.out b2
        have hA2 : A < w2.heap.size := by have := b2.size; rw [World.size_alloc] at this; rw [HAH.out]; omega
        have hA3 : A = wo.heap.size := HAH.out
        have c0 : w2.cell? ⟨A, 0, none⟩ = some (.int .u32 (yt : Int)) := (b2.cell (p := ⟨A, 0, none⟩) (by rw [World.size_alloc]; show A < _; omega)).trans (cell_of_row _ A 0 _ _ _ (kb_new hA3.symm))
        have c1 : w2.cell? ⟨A, 1, none⟩ = some (.int .u8 (yr : Int)) := (b2.cell (p := ⟨A, 1, none⟩) (by rw [World.size_alloc]; show A < _; omega)).trans (cell_of_row _ A 1 _ _ _ (kb_new hA3.symm))
        have hB2 : Box N w2 := (B2.out.block _ (by omega)).trans HBH.out
        have c2 : w2.cell? ⟨N + 1, 0, none⟩ = some (.map (some N)) := cell_of_row w2 (N + 1) 0 _ _ _ hB2
        clear b2 hB2
        rw [← hA3]
        clear hA3
        go_upto_region 10 with fail
        subst hNN
        have MW : Hid (MapV w2.drew w.heap.size k M) := HMH.out.keeps B2.out.drew
        have MW5 : Hid (∀ w5, (w2.drew.alloc (.cells #[.int .u32 (yt : Int)] 26)).grownBy w5 (rowOf M yr).ownBlock → MapV w5 w.heap.size k M) := fun w5 g5 => (HMH.out.keeps (B2.out.drew.alloc B2.out.size _)).other (g5.block _ (by rw [World.size_alloc]; show w.heap.size < w2.heap.size + 1; omega) (fun e => by have := (HRH.out.2.2 _ hyr _ e.symm).1; omega))
        have RW : Hid (w2.drew.ownsRow (w.heap.size + 2) 26 1 (rowOf M yr) (trs (l.take k) yr).length (us (trs (l.take k) yr))) := (HRH.out.keeps (w' := w2.drew) (fun j _ hj => B2.out.block j hj)).1 yr (Nat.zero_le _) hyr
        have NE1 : (rowOf M yr).ownBlock ≠ some (w.heap.size + 1) := fun e => by have := (HRH.out.2.2 _ hyr _ e).1; omega
        have NEA : (rowOf M yr).ownBlock ≠ some A := fun e => by have h1 := (HRH.out.2.2 _ hyr _ e).2; have h2 := HAH.out; omega
        have S4 : Hid ((fun w' => w'.cell? ⟨w.heap.size + 1, 0, none⟩ = some (.map (some w.heap.size)) ∧ w'.cell? ⟨A, 0, none⟩ = some (.int .u32 (yt : Int)) ∧ w'.cell? ⟨A, 1, none⟩ = some (.int .u8 (yr : Int))) (w2.drew.alloc (.cells #[.int .u32 (yt : Int)] 26))) := by
          have hb : Below w2.heap.size w2 (w2.drew.alloc (.cells #[.int .u32 (yt : Int)] 26)) := (drew1 _).alloc (Nat.le_refl _) _
          exact ⟨(hb.cell (p := ⟨w.heap.size + 1, 0, none⟩) (by show w.heap.size + 1 < _; omega)).trans c2, (hb.cell (p := ⟨A, 0, none⟩) hA2).trans c0, (hb.cell (p := ⟨A, 1, none⟩) hA2).trans c1⟩
        have S5 : Hid (∀ w5, (w2.drew.alloc (.cells #[.int .u32 (yt : Int)] 26)).grownBy w5 (rowOf M yr).ownBlock → (fun w' => w'.cell? ⟨w.heap.size + 1, 0, none⟩ = some (.map (some w.heap.size)) ∧ w'.cell? ⟨A, 0, none⟩ = some (.int .u32 (yt : Int)) ∧ w'.cell? ⟨A, 1, none⟩ = some (.int .u8 (yr : Int))) w5) := fun w5 g5 =>
          ⟨(cell_grown g5 NE1 (by rw [World.size_alloc]; show w.heap.size + 1 < w2.heap.size + 1; omega)).trans S4.out.1, (cell_grown g5 NEA (by rw [World.size_alloc]; show A < w2.heap.size + 1; omega)).trans S4.out.2.1, (cell_grown g5 NEA (by rw [World.size_alloc]; show A < w2.heap.size + 1; omega)).trans S4.out.2.2⟩
        have S6 : Hid (∀ w5 w6, (w2.drew.alloc (.cells #[.int .u32 (yt : Int)] 26)).grownBy w5 (rowOf M yr).ownBlock → w5.grownBy w6 (some w.heap.size) → (fun w' => w'.cell? ⟨w.heap.size + 1, 0, none⟩ = some (.map (some w.heap.size)) ∧ w'.cell? ⟨A, 0, none⟩ = some (.int .u32 (yt : Int)) ∧ w'.cell? ⟨A, 1, none⟩ = some (.int .u8 (yr : Int))) w6) := fun w5 w6 g5 g6 => by
          have h5 := S5.out w5 g5
          have hs5 := g5.size
          rw [World.size_alloc] at hs5
          have hs6 : w2.heap.size + 1 ≤ w5.heap.size := hs5
          exact ⟨(cell_grown g6 (fun e => by have := Option.some.inj e; omega) (by omega)).trans h5.1, (cell_grown g6 (fun e => by have := Option.some.inj e; omega) (by omega)).trans h5.2.1, (cell_grown g6 (fun e => by have := Option.some.inj e; omega) (by omega)).trans h5.2.2⟩
        have FIN : Hid (∀ v5 w5 w6, w5.ownsRow (w.heap.size + 2) 26 1 v5 ((trs (l.take k) yr).length + 1) (us (trs (l.take k) yr) ++ [.int .u32 (yt : Int)]) → (w2.drew.alloc (.cells #[.int .u32 (yt : Int)] 26)).grownBy w5 (rowOf M yr).ownBlock →
            (v5.ownBlock = (rowOf M yr).ownBlock ∨ v5.ownBlock = some (w2.drew.alloc (.cells #[.int .u32 (yt : Int)] 26)).heap.size) → MapV w6 w.heap.size (k + 1) (fun j => if j = yr then some v5 else M j) → w5.grownBy w6 (some w.heap.size) → OfI w.heap.size (k + 1) l w w6) :=
          fun v5 w5 w6 o5 g5 l5 m6 g6 => of_step (x := ⟨yt, yr, hyt, hyr⟩) (Nat.le_refl _) HRH.out HBH.out HBL.out B2.out HSN.out hyr o5 g5 l5 m6 g6
        have HA : Hid (∀ a ∈ l.take (k + 1), mayI a) := by
          intro a ha
          rw [HSN.out, List.mem_append, List.mem_singleton] at ha
          rcases ha with ha | rfl
          · exact hal.out a ha
          · exact hmay
        have hmk : (trs (l.take k) yr).length ≤ 1024 := by
          have h1 := trs_len (l.take k) yr
          rw [List.length_take] at h1
          omega
        have hkm : k < 9223372036854775807 := by omega
        have hW2 : w.heap.size + 2 ≤ w2.heap.size := by omega
        obtain ⟨v0, hv0⟩ : ∃ v0, (M yr).getD (.slice none 0 0) = v0 := ⟨_, rfl⟩
        have HV0 := Lib.hid hv0
        have e0 : rowOf M yr = v0 := hv0
        obtain ⟨m, hm0⟩ : ∃ m, m = (trs (l.take k) yr).length := ⟨_, rfl⟩
        obtain ⟨us0, hus0⟩ : ∃ u, u = us (trs (l.take k) yr) := ⟨_, rfl⟩
        rw [e0, ← hm0, ← hus0] at RW
        rw [e0] at MW5 S5 S6
        rw [e0, ← hm0, ← hus0] at FIN
        rw [← hm0] at hmk
        clear hv0 e0 hm0 hus0 NE1 NEA HMH HBH HRH HBL HSN HMEM HQ CK BA hmay
        refine wp_region_held_drew (S := fun w' => w'.cell? ⟨w.heap.size + 1, 0, none⟩ = some (.map (some w.heap.size)) ∧ w'.cell? ⟨A, 0, none⟩ = some (.int .u32 (yt : Int)) ∧ w'.cell? ⟨A, 1, none⟩ = some (.int .u8 (yr : Int))) (by kernel_rfl) ⟨c2, c0, c1⟩ (fun hHeld => ?_)
        refine rN 0 ?_
        refine rN 1 ?_
        refine rN 2 ?_
        refine rN 3 ?_
        refine rN 4 ?_
        refine rN 5 ?_
        refine rN 7 ?_
        refine rN 8 ?_
        refine wpAnyH_ready (rs := [6, 9]) (by kernel_rfl) (by simp) ?_
        refine AllReadyH.cons rfl (fun K hK => ?_) ?zb6
        case zb6 =>
          refine AllReadyH.cons rfl (fun K hK => ?_) AllReadyH.nil
          go_simp
          refine hK.out _ _ S4.out (fun hNew => ?_)
          clear hNew hK K
          refine rX ?_
          refine wpAnyH_ready (rs := [6]) (by kernel_rfl) (by simp) ?_
          refine AllReadyH.cons rfl (fun K hK => ?_) AllReadyH.nil
          refine step_lookup_v rfl (.tmp 26) (.tmp 28) 209 210 rfl Tryz.underlying209 (.slice none 0 0) (zero_us _) w.heap.size k yr M (MW.out.keeps ((Below.refl _ _).alloc (Nat.le_refl _) _)) rfl rfl hyr ?_
          rw [HV0.out]
          refine hK.out _ _ S4.out (fun hNew => ?_)
          clear hNew hK K
          refine rX ?_
          refine wpAnyH_ready (rs := [10]) (by kernel_rfl) (by simp) ?_
          refine AllReadyH.cons rfl (fun K hK => ?_) AllReadyH.nil
          refine step_append_at rfl (.tmp 29) (.tmp 32) 210 26 rfl Tryz.underlying210 u32_info rfl (by decide) (w.heap.size + 2) v0 m us0 rfl (own_stays RW.out ((Below.refl _ _).alloc (Nat.le_refl _) _)) (.slice (some ⟨w2.heap.size, 0, none⟩) 1 1) 1 [.int .u32 (yt : Int)] rfl (sees_new w2.drew [.int .u32 (yt : Int)] 1 1 rfl (by omega) _ _) (by intro z hz; simp at hz; rw [hz]; rfl) (by omega) (by omega) (by show w.heap.size + 2 ≤ (w2.alloc _).heap.size; rw [World.size_alloc]; omega) ?_
          intro v5 w5 o5 g5 b5 l5
          have FI := Lib.hid (fun w6 => FIN.out v5 w5 w6 o5 g5 l5)
          have M5 := Lib.hid (MW5.out w5 g5)
          have S6' := Lib.hid (fun w6 => S6.out w5 w6 g5)
          refine hK.out _ _ (S5.out w5 g5) (fun hNew => ?_)
          clear hNew hK K o5 g5 b5 l5
          refine rX ?_
          refine wpAnyH_ready (rs := [11]) (by kernel_rfl) (by simp) ?_
          refine AllReadyH.cons rfl (fun K hK => ?_) AllReadyH.nil
          refine step_update_v rfl (.tmp 23) (.tmp 25) (.tmp 33) 209 210 rfl Tryz.underlying209 w.heap.size k yr M M5.out hkm rfl rfl hyr v5 rfl ?_
          intro w6 m6 g6
          have F6 := Lib.hid (FI.out w6 m6 g6)
          refine hK.out _ _ (S6'.out w6 g6) (fun hNew => ?_)
          clear hNew hK K m6 g6 FI M5 S6'
          try simp only [List.getElem_toArray, List.getElem_cons_succ, List.getElem_cons_zero, Act.put]
          refine wpAnyH_done (by kernel_rfl) ?_ _
          clear hHeld MW MW5 RW S4 S5 S6 FIN c0 c1 c2
          go_wp2
          go_roundw
          case rel => exact ⟨k + 1, by omega, by go_num, HA, F6⟩
          case measure => simp [intOf]; omega
        refine step_lookup_v rfl (.tmp 26) (.tmp 28) 209 210 rfl Tryz.underlying209 (.slice none 0 0) (zero_us _) w.heap.size k yr M MW.out rfl rfl hyr ?_
        rw [HV0.out]
        refine hK.out _ _ hHeld (fun hNew => ?_)
        clear hNew hK K
        refine rX ?_
        refine wpAnyH_ready (rs := [9]) (by kernel_rfl) (by simp) ?_
        refine AllReadyH.cons rfl (fun K hK => ?_) AllReadyH.nil
        go_simp
        refine hK.out _ _ S4.out (fun hNew => ?_)
        clear hNew hK K
        refine rX ?_
        refine wpAnyH_ready (rs := [10]) (by kernel_rfl) (by simp) ?_
        refine AllReadyH.cons rfl (fun K hK => ?_) AllReadyH.nil
        refine step_append_at rfl (.tmp 29) (.tmp 32) 210 26 rfl Tryz.underlying210 u32_info rfl (by decide) (w.heap.size + 2) v0 m us0 rfl (own_stays RW.out ((Below.refl _ _).alloc (Nat.le_refl _) _)) (.slice (some ⟨w2.heap.size, 0, none⟩) 1 1) 1 [.int .u32 (yt : Int)] rfl (sees_new w2.drew [.int .u32 (yt : Int)] 1 1 rfl (by omega) _ _) (by intro z hz; simp at hz; rw [hz]; rfl) (by omega) (by omega) (by show w.heap.size + 2 ≤ (w2.alloc _).heap.size; rw [World.size_alloc]; omega) ?_
        intro v5 w5 o5 g5 b5 l5
        have FI := Lib.hid (fun w6 => FIN.out v5 w5 w6 o5 g5 l5)
        have M5 := Lib.hid (MW5.out w5 g5)
        have S6' := Lib.hid (fun w6 => S6.out w5 w6 g5)
        refine hK.out _ _ (S5.out w5 g5) (fun hNew => ?_)
        clear hNew hK K o5 g5 b5 l5
        refine rX ?_
        refine wpAnyH_ready (rs := [11]) (by kernel_rfl) (by simp) ?_
        refine AllReadyH.cons rfl (fun K hK => ?_) AllReadyH.nil
        refine step_update_v rfl (.tmp 23) (.tmp 25) (.tmp 33) 209 210 rfl Tryz.underlying209 w.heap.size k yr M M5.out hkm rfl rfl hyr v5 rfl ?_
        intro w6 m6 g6
        have F6 := Lib.hid (FI.out w6 m6 g6)
        refine hK.out _ _ (S6'.out w6 g6) (fun hNew => ?_)
        clear hNew hK K m6 g6 FI M5 S6'
        try simp only [List.getElem_toArray, List.getElem_cons_succ, List.getElem_cons_zero, Act.put]
        refine wpAnyH_done (by kernel_rfl) ?_ _
        clear hHeld MW MW5 RW S4 S5 S6 FIN c0 c1 c2
        go_wp2
        go_roundw
        case rel => exact ⟨k + 1, by omega, by go_num, HA, F6⟩
        case measure => simp [intOf]; omega
      · obtain ⟨rfl, rfl⟩ := HNo.out ⟨_, HMEM.out, hmay⟩
        obtain rfl : q = 8 := by rw [← HQ.out]; exact if_neg hmay
        clear HNo HYes hA
        go_wp2_with fail
        refine CK.out.mono ?_
        rintro e w2 ⟨rfl, b2⟩
        have B2 : Hid (Below N w w2) := HBL.out.trans ((bt BA.out b2).mono (by rw [HNH.out]; exact HBL.out.size))
        clear b2
        go_wp2
        go_ret2
        exact ⟨_, rfl, OwnC.nil _ _, HNH.out ▸ B2.out⟩
    · have q1 : decide (k < n) = false := by simpa using hkn
      have hkk : l.take k = l := List.take_of_length_le (by have := HN.out; omega)
      rw [hkk] at hal hR
      obtain ⟨rfl, rfl⟩ := HYes.out hal.out
      have hal' : ∀ a ∈ l, mayI a := hal.out
      obtain ⟨A1, -, A3⟩ := among_ok l hal' (by have := HN.out; omega)
      have hN1 : N + 1 < wo.heap.size := (Array.getElem?_eq_some_iff.1 hB).1
      have TC := Lib.hid (told_any (gf := 165) (lb := #[.pointer (some ⟨N + 1, 0, none⟩)]) (enters_of Tryz.func165 (by kernel_rfl) rfl) (B := N + 2) (w := wo) (spn (among l)) (fun j W => Box N W ∧ MapV W N k M ∧ Rws N wo.heap.size M (trs l) j W) ⟨hB, hM, hR⟩ (by omega)
        (fun j W W' h1 h2 h3 => ⟨(h3.block _ hN1).trans h1.1, h1.2.1.other (h3.block _ (by omega)), h1.2.2.keeps (fun i _ hi => h3.block i hi)⟩)
        (fun j W hj hW h => by
          refine (ofOne_any HSH.out HKH.out (k := j) (by omega) h.1 h.2.1 (h.2.2.1 j (Nat.le_refl _) (by omega)) (by have := trs_len l j; have := HLH.out; omega) (trs_may hal' j)).mono ?_
          rintro e w' ⟨v', S, he, ho, f1, f2, -, g⟩
          obtain rfl : S = spn (among l) j := uniq f1 (sp_fine A1 j) (fun n => by rw [f2, A3, mem_trs])
          have hlt : ∀ i, (rowOf M j).ownBlock = some i → N + 2 ≤ i ∧ i < wo.heap.size := h.2.2.2.2 j (by omega)
          refine ⟨v', he, ho, ⟨(Below.refl _ _).grown g (by omega) (fun i e => (hlt i e).1), fun i hi hlt' => g.block i hlt' (fun e => by have := (hlt i e.symm).2; omega)⟩, ?_, ?_, ?_⟩
          · exact (g.block _ (by omega) (fun e => by have := (hlt _ e.symm).1; omega)).trans h.1
          · exact h.2.1.other (g.block _ (by omega) (fun e => by have := (hlt _ e.symm).1; omega))
          · refine ⟨fun r h1 h2 => (h.2.2.1 r (by omega) h2).kept g ?_, h.2.2.2⟩
            by_cases hn : (rowOf M r).ownBlock = none
            · exact .inl hn
            · refine .inr (fun e => ?_)
              obtain ⟨i, hi⟩ := Option.ne_none_iff_exists'.1 hn
              exact h.2.2.2.1 r j h2 (by omega) (by omega) i hi (e ▸ hi)))
      have hcl : clkFrom (spn (among l)) 0 8 = among l := clk_spn A1
      rw [hcl] at TC
      have BW5 := Lib.hid hbel
      subst hNN
      clear hkk hal hal' hR hB hM hbel A1 A3 HYes hcl hN1 hof
      go_wp2_with fail
      refine TC.out.mono ?_
      rintro e w6 ⟨v6, rfl, o6, b6⟩
      have O6 := Lib.hid (OwnC.base o6 BW5.out.size)
      have B6 : Hid (Below w.heap.size w w6) := BW5.out.trans (b6.mono (by omega))
      obtain ⟨so, sc, rfl⟩ := o6.tms.shape
      clear o6 b6
      go_wp2
      go_ret2
      exact ⟨_, rfl, O6.out, B6.out⟩
end Go.Proofs.YtgjbnbojjgbmcaaGreat.Clocks
