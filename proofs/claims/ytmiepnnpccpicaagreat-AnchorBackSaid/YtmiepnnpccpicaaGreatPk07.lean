/- slices.SortFunc over operations by their places: what it leaves. Conditions: a list of the call's own; places that may be, or the beginning. A map from stamps to nothing, as a set of stamps. Conditions: none. octavo/marks.joinedIn, takeOut: what each answers. Conditions: operations that may be, not more than a bag's. octavo/bag.Check: what it answers. Conditions: the slice's cells are operations. octavo/clock: byReplica and told: what each answers. Conditions: the clock may be; the function that is told answers spans of its own. octavo/marks.Live: what it answers. Conditions: the slice's cells are operations. -/
import Derived.Test.YtmiepnnpccpicaaGreatChecked
import Derived.WalkKit
import Derived.WalkSpells
import Derived.WalkLawsBesides
import Derived.Laws.BytesArg
import Derived.Lib.Hide
import Derived.Deep.LoopGhost
import Derived.Laws.AppendOwnNone
import Derived.Laws.OwnMore
import Derived.WideShapes
import Derived.Maps.AppendAt
import Derived.RegionTactic
import Derived.Deep.RegionHeld3
import Derived.Deep.DrawnRows
import Derived.Deep.QuietTactic
import Derived.BigQuiet
import Derived.IntWalk
import Derived.Deep.DeepCutAuto
import Derived.ScopeJumps
import Derived.Test.YtmiepnnpccpicaaGreatProg
import Derived.LoopTactic
import Derived.Laws.EntriesVeiled
import Derived.Shelf.SlSortCmp.InsertionK
import Derived.Calls
import Derived.StepT
import Derived.Below
import Derived.Sort.Grow
import Derived.Deep.Draws
import Derived.Shelf.SlLaysF0
import Derived.Shelf.SlSortCmp.NoneTotal
import Derived.Maps.Own
import Derived.Maps.OwnOps
import Derived.Maps.OwnSet
import Derived.Maps.Views
import Derived.DeepKeys4
import Derived.RowKit
import Derived.Shelf.Abstract
import Derived.RangeFuncBox
import Derived.RangeFuncLeaves
import Derived.RangeFuncNested
import Derived.RangeFuncBound
import Derived.RangeFuncCalls
import Derived.OwnWalkIn
import Derived.TacticsInMore
import Derived.LoopNIn
import Derived.LoopIn
import Derived.Test.YtmiepnnpccpicaaGreatRw
import Derived.Test.YtmiepnnpccpicaaGreatPk06
import Derived.Test.YtmiepnnpccpicaaGreatPk04
import Derived.Test.YtmiepnnpccpicaaGreatPk03
import Derived.Test.YtmiepnnpccpicaaGreatPk01
import Derived.Test.YtmiepnnpccpicaaGreatPk02
import Derived.Test.YtmiepnnpccpicaaGreatPk05

namespace Go.Proofs.YtmiepnnpccpicaaGreat.Marks
open Go.RowKit Go.WideShapes Go.Sort Stamp Go.Proofs.YtmiepnnpccpicaaGreat.Place Ops Codes
theorem sortL_any {v : Value} {l : List Opn} {base : Nat} {w : World} (hv : OwnL w base v l) (hm : ∀ o ∈ l, anyB o.pl = true) (hl : l.length < 4611686018427387904) :
    Calls Tryz.prog 94 #[v, .func (.func 95) #[] #[]] w fun e w' => e = .returned (.tuple #[]) ∧ ∃ l', l'.Perm l ∧ l'.Pairwise (fun a b => ¬ cmp b.pl a.pl < 0) ∧ OwnL w' base v l' ∧ Below base w w' := by
  obtain ⟨cs, h1, h2⟩ := hv
  by_cases hz : l = []
  · subst hz
    obtain ⟨ao, cap, rfl⟩ : ∃ ao cap, v = .slice ao 0 cap := Sees.shape (Sees.own h1)
    refine (AnyF.slices_SortFunc_none sortOp ao cap (.func (.func 95) #[] #[]) w).mono ?_
    rintro e w' ⟨rfl, rfl⟩
    exact ⟨rfl, [], .refl _, .nil, ⟨cs, h1, h2⟩, Below.refl _ _⟩
  rcases h1.2 with ⟨rfl, h⟩ | ⟨g, cap, cur, rfl, hbg, hg, hlc, hcm, hcs, hct⟩
  · exact absurd (List.length_eq_zero_iff.1 h) hz
  obtain ⟨ds, e1, e2⟩ := elts_of h2 hm
  have hn : l.length = ds.length := by rw [e2, List.length_map]
  have hgs := (Array.getElem?_eq_some_iff.1 hg).1
  have eg : ∀ args w, (callFunc 95 args).run Tryz.prog w = .ok (.enter 95 args) w := enters_of Tryz.func95 (by kernel_rfl) rfl
  have hcmp : CmpLays Tryz.prog 95 #[] (encE (w := w) (base := base)) 5 cfE g 0 ds.toArray.size w := fun m os dk _ x y =>
    Draws.calls_grow (cls_any (Runs.own (elt_stays hg m dk os x)) (Runs.own (elt_stays hg m dk os y)))
  have hH : HoldsK encE 5 w g 0 ds.toArray := elt_holds ⟨cur, hg, hcs, by rw [hct, e1]⟩ hn hlc
  have hcon := AnyQ.slices_SortFunc sortOp 5 Tryz.isAgg47 Tryz.sizeOf47 encE encE_len (fun x => by
      obtain ⟨ao, c, h⟩ := Sees.shape (Sees.own x.2.2)
      exact five_one x.1.1 x.1.2 ⟨ao, _, c, h⟩) cfE (swoE w base) 95 #[] g 0 cap ds.toArray w eg hcmp hH hgs (by simpa [← hn] using hl)
  change Calls Tryz.prog 94 _ _ _ at hcon
  rw [show ds.toArray.size = l.length by rw [hn]; simp] at hcon
  refine hcon.mono ?_
  rintro e w' ⟨rfl, d', n, os, hp, hs, rfl⟩
  obtain ⟨hp1, _, hp3⟩ := hp
  have hdn : d'.size = l.length := by rw [hp1, hn]; simp
  refine ⟨rfl, d'.toList.map opE', ?_, ?_, ⟨d'.toList.flatMap encE, ⟨?_, .inr ⟨g, cap, putCells id 0 (flatK encE 5 d') cur, ?_, hbg, srt_row encE 5 n d' os hg, ?_, hcm, ?_, ?_⟩⟩, holdP_of (elt_stays hg n d' os) _⟩, srt_below encE 5 w g 0 n base d' os hbg hgs⟩
  · rw [e2]
    refine List.Perm.map _ ?_
    have : (d'.extract 0 l.length).toList.Perm (ds.toArray.extract 0 l.length).toList := hp3
    rw [Array.extract_eq_self_of_le (by omega), Array.extract_eq_self_of_le (by simp [hn])] at this
    simpa using this
  · rw [List.pairwise_map, List.pairwise_iff_getElem]
    intro i j hi hj hij
    have := hs i j (Nat.zero_le _) hij (by rw [← hdn]; simpa using hj)
    rw [getElem!_pos d' j (by simpa using hj), getElem!_pos d' i (by simpa using hi)] at this
    unfold ltOf cfE at this
    have h := of_decide_eq_false this
    simpa [opE'] using h
  · rw [← flatK_list encE 5 (by decide) encE_len]
    simp
  · simp [hdn]
  · simpa [hdn] using hlc
  · rw [putCells_size]; exact hcs
  · have h3 : (flatK encE 5 d').size = l.length * 5 := by rw [size_flatK, hdn]
    rw [List.length_map, Array.length_toList, hdn, ← h3, putCells_take _ _ (by rw [h3, hcs]; exact Nat.mul_le_mul_right 5 hlc), flatK_list encE 5 (by decide) encE_len]
end Go.Proofs.YtmiepnnpccpicaaGreat.Marks

namespace Go.Proofs.YtmiepnnpccpicaaGreat
open Go.RowKit Go.WideShapes
open Go.Maps (Keyed IsMap)
theorem laidOut : laidOutB Tryz.prog = true := by kernel_rfl
theorem idRow : (25 : TypeId) < Tryz.prog.types.size := of_decide_eq_true (by kernel_rfl)
theorem idWide : (match Tryz.prog.underlying 25 with | some (.array _ _) | some (.struct _) => true | _ => false) = true := by rw [Tryz.underlying25]
set_option maxRecDepth 100000 in
theorem idLaw : Keyed Tryz.prog 25 := Keyed.of_law (deep_law_laid laidOut (m := 2) (by omega) idRow (by kernel_rfl) idWide)
theorem idType : Tryz.prog.keyType 25 = true := by kernel_rfl
theorem idCells : Tryz.prog.cellsOf 25 = 2 := by kernel_rfl
theorem idCell0 : Tryz.prog.cellsOf 23 = 1 := by kernel_rfl
theorem idCell1 : Tryz.prog.cellsOf 5 = 1 := by kernel_rfl
theorem idKey_some (a : Id) : ∃ l, keyOf Tryz.prog 25 (idv a) = some l := by
  obtain ⟨n, hn⟩ : ∃ n, Tryz.prog.types.size = n + 1 := by
    have h := idRow
    generalize Tryz.prog.types.size = s at h ⊢
    cases s with
    | zero => exact absurd h (Nat.not_lt_zero _)
    | succ n => exact ⟨n, rfl⟩
  have w0 : (Lit.int .u32 (a.t : Int)).wf = true := by
    have h1 : IntKind.u32.min = 0 := by decide
    have h2 : IntKind.u32.max = 4294967295 := by decide
    have := a.ht
    simp [Lit.wf, h1, h2]
    omega
  have w1 : (Lit.int .u8 (a.r : Int)).wf = true := by
    have h1 : IntKind.u8.min = 0 := by decide
    have h2 : IntKind.u8.max = 255 := by decide
    have := a.hr
    simp [Lit.wf, h1, h2]
    omega
  unfold keyOf idv
  rw [Tryz.underlying25, idType, hn]
  simp [Value.formed, Program.keyLits, Tryz.underlying25, Tryz.underlying23, Tryz.underlying5, idCells, idCell0, idCell1, w0, w1, Value.cells]
/-- A stamp as a key. -/
noncomputable def key (a : Id) : Lit := (keyOf Tryz.prog 25 (idv a)).getD (.bool true)
theorem key_of (a : Id) : keyOf Tryz.prog 25 (idv a) = some (key a) := by
  obtain ⟨l, hl⟩ := idKey_some a
  unfold key
  rw [hl]
  rfl
theorem key_inj {a b : Id} (h : key a = key b) : a = b := by
  have h1 := key_of a
  rw [h] at h1
  have := idLaw.inj h1 (key_of b)
  unfold idv at this
  simp at this
  exact Id.ext' (by omega) (by omega)
/-- Block b is a map with just these stamps. -/
def SetI (w : World) (b n : Nat) (S : Id → Bool) : Prop := ∃ D : DataW Value, w.ownsMap Tryz.prog 25 unitElem b n D ∧ ∀ a : Id, Maps.has D (key a) = S a
theorem SetI.made (w : World) : SetI (w.alloc (.map #[] 0)) w.heap.size 0 (fun _ => false) := ⟨_, World.ownsMap_made w _ _ _, fun _ => rfl⟩
theorem SetI.keeps {w w' : World} {b n : Nat} {S : Id → Bool} (h : SetI w b n S) (hb : Below w.heap.size w w') : SetI w' b n S := by
  obtain ⟨D, ⟨es, clock, h1, h2, h3, h4⟩, h5⟩ := h
  exact ⟨D, ⟨es, clock, (hb.block b (Array.getElem?_eq_some_iff.1 h1).1).trans h1, h2, h3, h4⟩, h5⟩
theorem SetI.lt {w : World} {b n : Nat} {S : Id → Bool} (h : SetI w b n S) : b < w.heap.size := by
  obtain ⟨D, h1, _⟩ := h
  exact h1.lt
theorem SetI.ext {w : World} {b n : Nat} {S T : Id → Bool} (h : SetI w b n S) (e : ∀ a, S a = T a) : SetI w b n T := by
  obtain ⟨D, h1, h2⟩ := h
  exact ⟨D, h1, fun a => (h2 a).trans (e a)⟩
set_option maxRecDepth 100000 in
/-- A store of one more, at the operation. -/
theorem wpList_put_set (w : World) {ops : Array Oper} {rest : List Oper} {o : Oper} {a : Act} {Q : Exit → Act → World → Prop}
    (hg : o.guard = none) (m x v : Operand) (t e : TypeId) (hop : o.op = Op.mapUpdate t m x v) (ht : Tryz.prog.underlying t = some (.map 25 e))
    (b n : Nat) (i : Id) (S : Id → Bool) (hM : SetI w b n S) (hn : n < 9223372036854775807) (hm : a.eval m = .map (some b)) (hx : a.eval x = .agg #[.int .u32 (i.t : Int), .int .u8 (i.r : Int)]) (hv : a.eval v = .agg #[])
    (hK : ∀ w', SetI w' b (n + 1) (fun k => decide (k = i) || S k) → w.grownBy w' (some b) → wpList Tryz.prog ops Q rest (a.put o.dst undef) w') : wpList Tryz.prog ops Q (o :: rest) a w := by
  obtain ⟨D, h1, h2⟩ := hM
  refine wpList_mapUpdate_own w hg m x v t hop 25 e idLaw ht unitElem b n D hm h1 (by unfold maxLen; omega) (idv i) (.agg #[]) (key i) hx hv (key_of i) (.agg []) [] unitElem_mk (fun w' h g => hK w' ⟨_, h, fun k => ?_⟩ g)
  by_cases hk : k = i
  · subst hk
    rw [Maps.has_put_same h1.isMap (idLaw.key (key_of k))]
    simp
  · rw [Maps.has_put_other (fun e => hk (key_inj e)), h2 k]
    simp [hk]
theorem del_size {w : World} {b n : Nat} {D : DataW Value} (h : w.ownsMap Tryz.prog 25 unitElem b n D) (i : Id) : decide (Maps.size (D.del (key i)) < Maps.size D) = Maps.has D (key i) := by
  have e := Maps.size_del (h.tidy idLaw) (k := key i)
  cases hh : Maps.has D (key i) <;> rw [hh] at e <;> simp at e
  · exact decide_eq_false (by omega)
  · exact decide_eq_true (by omega)
theorem del_has {D : DataW Value} {S : Id → Bool} (h : ∀ a : Id, Maps.has D (key a) = S a) (i : Id) : ∀ a : Id, Maps.has (D.del (key i)) (key a) = (S a && !decide (a = i)) := fun a => by
  by_cases e : a = i
  · subst e
    rw [Maps.has_del_same]
    simp
  · rw [Maps.has_del_other (fun k => e (key_inj k)), h a]
    simp [e]
end Go.Proofs.YtmiepnnpccpicaaGreat

namespace Go.Proofs.YtmiepnnpccpicaaGreat.Marks
open Go.RowKit Go.WideShapes Stamp Go.Proofs.YtmiepnnpccpicaaGreat.Place Ops Codes Bags
attribute [local go_sem ↓] Go.wp_at_zero Go.wp_at_succ
theorem ended_snoc (l : List Opn) (x : Opn) (a : Id) : ended (l ++ [x]) a = (ended l a || (decide (x.k = 4) && decide (tgt x = a))) := by
  unfold ended
  rw [List.any_append]
  simp
set_option maxRecDepth 100000 in
set_option maxHeartbeats 4000000 in
theorem joinedIn_any {v : Value} {l : List Opn} {w : World} (hv : OpL w v l) (hm : ∀ o ∈ l, mayO o = true) (hl : l.length ≤ 1024) :
    Calls Tryz.prog 92 #[v] w fun e w' => e = .returned (.map (some w.heap.size)) ∧ SetI w' w.heap.size l.length (ended l) ∧ Below w.heap.size w w' := by
  obtain ⟨ao, cap, rfl⟩ := hv.shape
  obtain ⟨n, hn⟩ : ∃ n, n = l.length := ⟨_, rfl⟩
  have HV : Hid (∀ W : World, Below w.heap.size w W → OpL W (.slice ao l.length cap) l) := fun W h => hv.keeps h
  have HN := Lib.hid hn
  have HMY := Lib.hid hm
  rw [← hn] at hl ⊢
  have hmm := @run_makeMap Tryz.prog
  have S0 : Hid (SetI (w.alloc (.map #[] 0)) w.heap.size 0 (ended (l.take 0))) := (SetI.made w).ext (fun a => by rw [List.take_zero]; rfl)
  have B0 := Lib.hid ((Below.refl w.heap.size w).alloc (Nat.le_refl _) (.map #[] 0))
  clear hv hn hm
  go_enter Tryz.func92, Tryz.ntmps92
  go_wp2
  go_loopw [9] (fun i wr => ∃ j : Nat, j ≤ n ∧ i = .int .i64 (j : Int) ∧ Hid (SetI wr w.heap.size j (ended (l.take j))) ∧ Hid (Below w.heap.size w wr)) (fun i _ => n - (intOf i).toNat)
  case atStart => exact ⟨0, by omega, rfl, S0, B0⟩
  case round =>
    clear S0 B0
    obtain ⟨j, hj, rfl, hset, hbel⟩ := hrel
    by_cases hjn : j < n
    rotate_left
    · have q3 : decide (j < n) = false := by simpa using hjn
      have hkk : l.take j = l := List.take_of_length_le (by have := HN.out; omega)
      rw [hkk] at hset
      obtain rfl : j = n := by omega
      clear hkk
      go_wp2
      go_ret
      exact ⟨rfl, hset.out, hbel.out⟩
    have q3 : decide (j < n) = true := by simpa using hjn
    have q4 : (0 : Int) ≤ (j : Int) := by omega
    have q5 : (j : Int) < (n : Int) := by omega
    have hjl : j < l.length := by rw [← HN.out]; exact hjn
    obtain ⟨bb, oo, u, e, hbb, hru, h0, h1, h2, h3, h4⟩ := opl_at (HV.out wr hbel.out) j hjl
    subst e
    obtain ⟨x, hx⟩ : ∃ x, x = l[j]'hjl := ⟨_, rfl⟩
    rw [← hx] at hru h0 h1 h2 h4
    have hxm : x ∈ l := by rw [hx]; exact List.getElem_mem _
    have MX := HMY.out x hxm
    have hsn : ∀ a, ended (l.take (j + 1)) a = (ended (l.take j) a || (decide (x.k = 4) && decide (tgt x = a))) := fun a => by rw [List.take_succ_eq_append_getElem hjl, ended_snoc, hx]
    have HSN := Lib.hid hsn
    have hc := tgt_cells MX
    have LS : Hid (∀ W : World, Below wr.heap.size wr W → Calls Tryz.prog 73 #[u] W fun e w' => e = .returned (.agg #[.int .u32 ((tgt x).t : Int), .int .u8 ((tgt x).r : Int)]) ∧ Below W.heap.size W w') := fun W h => by
      rw [hc.1, hc.2]
      exact pLast_any (hru.keeps h)
    obtain ⟨g, hg⟩ : ∃ g, tgt x = g := ⟨_, rfl⟩
    rw [hg] at LS HSN
    obtain ⟨T, R, hT, hR⟩ := g
    simp only at LS
    obtain ⟨uo, uc, rfl⟩ := hru.shape
    obtain ⟨nu, hnu⟩ : ∃ n, n = x.pl.length := ⟨_, rfl⟩
    rw [← hnu] at h3 LS
    obtain ⟨k, hk⟩ : ∃ z, x.k = z := ⟨_, rfl⟩
    obtain ⟨t, ht⟩ : ∃ z, x.t = z := ⟨_, rfl⟩
    obtain ⟨r, hr⟩ : ∃ z, x.r = z := ⟨_, rfl⟩
    obtain ⟨p, hp⟩ : ∃ z, x.p = z := ⟨_, rfl⟩
    rw [hk] at h0 HSN
    rw [ht] at h1
    rw [hr] at h2
    rw [hp] at h4
    have BL : Hid (Below wr.heap.size wr (wr.alloc (.cells #[.int .u8 (k : Int), .int .u32 (t : Int), .int .u8 (r : Int), .slice uo nu uc, .int .i64 p] 47))) := (Below.refl _ _).alloc (Nat.le_refl _) _
    have SL := Lib.hid (hset.out.keeps BL.out)
    have BW := Lib.hid (bt hbel.out BL.out)
    clear hru hx hxm MX hc hg hnu hk ht hr hp hsn hset
    by_cases hk4 : k = 4
    rotate_left
    · have qk : ((k : Int) == 4) = false := by simp; omega
      have qk2 : decide ((k : Int) = 4) = false := decide_eq_false (by omega)
      have S6 : Hid (SetI (wr.alloc (.cells #[.int .u8 (k : Int), .int .u32 (t : Int), .int .u8 (r : Int), .slice uo nu uc, .int .i64 p] 47)) w.heap.size (j + 1) (ended (l.take (j + 1)))) := by
        obtain ⟨D, d1, d2⟩ := SL.out
        exact ⟨D, d1.mono (Nat.le_succ _), fun a => by rw [d2 a, HSN.out a, decide_eq_false hk4]; simp⟩
      clear SL LS hk4 HSN
      go_wp2
      go_roundw
      case rel => exact ⟨j + 1, by omega, by go_num, S6, BW⟩
      case measure => simp [intOf]; omega
    · subst hk4
      have qk : ((((4 : Nat) : Int)) == 4) = true := by rfl
      go_wp2_with fail
      refine (LS.out _ BL.out).mono ?_
      rintro e w2 ⟨rfl, b2⟩
      have S2 := Lib.hid (SL.out.keeps b2)
      have B2 := Lib.hid (bt BW.out b2)
      clear b2 SL BW
      go_wp2_with (at_mapUpdate; refine wpList_put_set _ rfl _ _ _ 79 81 rfl Tryz.underlying79 w.heap.size j ⟨T, R, hT, hR⟩ (ended (l.take j)) S2.out (by omega) rfl rfl rfl ?_)
      intro w3 s3 g3
      have S3 : Hid (SetI w3 w.heap.size (j + 1) (ended (l.take (j + 1)))) := s3.ext (fun a => by
        rw [HSN.out a, Bool.or_comm]
        simp [eq_comm])
      have B3 : Hid (Below w.heap.size w w3) := B2.out.grown g3 B2.out.size (fun i e => by cases e; exact Nat.le_refl _)
      clear s3 g3 S2 B2 LS BL
      go_wp2
      go_roundw
      case rel => exact ⟨j + 1, by omega, by go_num, S3, B3⟩
      case measure => simp [intOf]; omega
set_option maxRecDepth 100000 in
set_option maxHeartbeats 4000000 in
theorem takeOut_any {b n : Nat} {S : Id → Bool} (i : Id) {w : World} (hs : SetI w b n S) :
    Calls Tryz.prog 93 #[.map (some b), .agg #[.int .u32 (i.t : Int), .int .u8 (i.r : Int)]] w fun e w' => e = .returned (.bool (S i)) ∧ SetI w' b n (fun a => S a && !decide (a = i)) ∧ w.grownBy w' (some b) := by
  obtain ⟨D, d1, d2⟩ := hs
  have D1 : Hid ((w.alloc (.cells #[.int .u32 (i.t : Int), .int .u8 (i.r : Int)] 25)).ownsMap Tryz.prog 25 unitElem b n D) := d1.alloc _
  have G1 : Hid (w.grownBy (w.alloc (.cells #[.int .u32 (i.t : Int), .int .u8 (i.r : Int)] 25)) none) := World.grownBy_alloc _ _ _
  have h := del_size d1 i
  rw [d2 i] at h
  obtain ⟨m1, hm1⟩ : ∃ z, Maps.size D = z := ⟨_, rfl⟩
  obtain ⟨m2, hm2⟩ : ∃ z, Maps.size (D.del (key i)) = z := ⟨_, rfl⟩
  rw [hm1, hm2] at h
  have HM1 := Lib.hid hm1
  have HM2 := Lib.hid hm2
  obtain ⟨q, hq⟩ : ∃ q, S i = q := ⟨_, rfl⟩
  rw [hq] at h ⊢
  have h' : decide ((m2 : Int) < (m1 : Int)) = q := by rw [← h]; exact decide_eq_decide.2 (by omega)
  have HD : Hid (∀ a : Id, Maps.has (D.del (key i)) (key a) = (S a && !decide (a = i))) := del_has d2 i
  clear d1 d2 hm1 hm2 hq
  obtain ⟨w3, hrun, d3, t3⟩ := D1.out.drop idLaw Tryz.underlying79 (key_of i) 0
  unfold idv at hrun
  have D3 := Lib.hid d3
  have G3 := Lib.hid t3.grown
  clear d3 t3
  have hl1 := D1.out.len Tryz.underlying79 3
  rw [HM1.out] at hl1
  have hl3 := D3.out.len Tryz.underlying79 3
  rw [HM2.out] at hl3
  go_enter Tryz.func93, Tryz.ntmps93
  go_wp2
  go_ret
  exact ⟨rfl, ⟨_, D3.out, HD.out⟩, ⟨G3.out.os.trans G1.out.os, G3.out.tape.trans G1.out.tape, G3.out.output.trans G1.out.output, Nat.le_trans G1.out.size G3.out.size, fun k hk hne => (G3.out.block k (Nat.lt_of_lt_of_le hk G1.out.size) hne).trans (G1.out.block k hk (by simp))⟩⟩
end Go.Proofs.YtmiepnnpccpicaaGreat.Marks

namespace Go.Proofs.YtmiepnnpccpicaaGreat.Bags
open Go.RowKit Go.WideShapes Stamp Go.Proofs.YtmiepnnpccpicaaGreat.Place Ops Codes
attribute [local go_sem ↓] Go.wp_at_zero Go.wp_at_succ
attribute [local go_sem] yielded_undef
theorem chkL_no {l : List Opn} (h : ¬ Bag l) : chkL l = 8 := by unfold chkL; rw [bagB_no h]; rfl
theorem chkL_yes {l : List Opn} (h : Bag l) : chkL l = 0 := by unfold chkL; rw [(bagB_iff l).2 h]; rfl
set_option maxRecDepth 100000 in
set_option maxHeartbeats 16000000 in
theorem bCheck_any {v : Value} {l : List Opn} {w : World} (hv : OpL w v l) :
    Calls Tryz.prog 37 #[v] w fun e w' => e = .returned (.int .i64 (chkL l)) ∧ Below w.heap.size w w' := by
  obtain ⟨ao, cap, rfl⟩ := hv.shape
  obtain ⟨n, hn⟩ : ∃ n, n = l.length := ⟨_, rfl⟩
  have hmx : n ≤ 9223372036854775807 := by rw [hn]; exact hv.max
  have HV : Hid (∀ W : World, Below w.heap.size w W → OpL W (.slice ao l.length cap) l) := fun W h => hv.keeps h
  have HN := Lib.hid hn
  obtain ⟨q, hq⟩ : ∃ q, chkL l = q := ⟨_, rfl⟩
  have QN : Hid (¬ Bag l → q = 8) := fun h => by rw [← hq]; exact chkL_no h
  have QY : Hid (Bag l → q = 0) := fun h => by rw [← hq]; exact chkL_yes h
  rw [hq, ← hn]
  clear hv hn hq
  have B0 : Hid (Below w.heap.size w w) := Below.refl _ _
  go_enter Tryz.func37, Tryz.ntmps37
  by_cases hbig : 1024 < n
  · have q1 : decide (1024 < n) = true := decide_eq_true hbig
    have q2 : decide (1024 < (n : Int)) = true := decide_eq_true (by omega)
    obtain rfl : q = 8 := QN.out (fun h => by have := h.1; have := HN.out; omega)
    go_wp2
    go_ret
    exact ⟨rfl, B0.out⟩
  have q1 : decide (1024 < n) = false := decide_eq_false hbig
  have q2 : decide (1024 < (n : Int)) = false := decide_eq_false (by omega)
  go_wp2
  go_loopw [10] (fun i wr => ∃ j : Nat, j ≤ n ∧ i = .int .i64 (j : Int) ∧ Hid (∀ k (h : k < l.length), k < j → mayO (l[k]'h) = true) ∧ Hid (∀ k (h : k + 1 < l.length), k + 1 < j → lessO (l[k]'(by omega)) (l[k + 1]'h)) ∧ Hid (Below w.heap.size w wr)) (fun i _ => n - (intOf i).toNat)
  case atStart => exact ⟨0, by omega, rfl, fun k h hk => by omega, fun k h hk => by omega, B0⟩
  case round =>
    clear B0
    obtain ⟨j, hj, rfl, hmay, hless, hbel⟩ := hrel
    by_cases hjn : j < n
    rotate_left
    · have q3 : decide (j < n) = false := by simpa using hjn
      obtain rfl : q = 0 := QY.out (by
        refine ⟨by have := HN.out; omega, fun o ho => ?_, pw_adj (fun k h => hless.out k h (by have := HN.out; omega))⟩
        obtain ⟨i, hi, rfl⟩ := List.getElem_of_mem ho
        exact hmay.out i hi (by have := HN.out; omega))
      go_wp2
      go_ret
      exact ⟨rfl, hbel.out⟩
    have q3 : decide (j < n) = true := by simpa using hjn
    have q4 : (0 : Int) ≤ (j : Int) := by omega
    have q5 : (j : Int) < (n : Int) := by omega
    have hjl : j < l.length := by rw [← HN.out]; exact hjn
    obtain ⟨bb, oo, u, e, hbb, hru, h0, h1, h2, h3, h4⟩ := opl_at (HV.out wr hbel.out) j hjl
    subst e
    obtain ⟨x, hx⟩ : ∃ x, x = l[j]'hjl := ⟨_, rfl⟩
    rw [← hx] at hru h0 h1 h2 h4
    have HO : Hid (∀ v : Value, opv x v = .agg #[.int .u8 (x.k : Int), .int .u32 (x.t : Int), .int .u8 (x.r : Int), v, .int .i64 x.p]) := fun v => rfl
    obtain ⟨uo, uc, rfl⟩ := hru.shape
    obtain ⟨nu, hnu⟩ : ∃ n, n = x.pl.length := ⟨_, rfl⟩
    have HNU := Lib.hid hnu
    rw [← hnu] at hru h3
    clear hnu
    have MA : Hid (∀ W : World, Below wr.heap.size wr W → Calls Tryz.prog 38 #[opv x (.slice uo nu uc)] W fun e w' => e = .returned (.int .i64 (chkO x)) ∧ Below W.heap.size W w') := fun W h => oCheck_any (hru.keeps h)
    have HJ := Lib.hid hjl
    have HX : Hid (x = l[j]'hjl) := hx
    have LX : Hid (∀ (i : Nat) (hi : i + 1 = j) (W : World) (y : Opn), y = l[i]'(by omega) → Calls Tryz.prog 49 #[.agg #[.int .u32 (y.t : Int), .int .u8 (y.r : Int)], .agg #[.int .u32 (x.t : Int), .int .u8 (x.r : Int)]] W fun e w' => e = .returned (.bool (decide (lessO y x))) ∧ Below W.heap.size W w') := fun i hi W y hy => by
      have := less_any y.t y.r x.t x.r y.ht y.hr x.ht x.hr W
      rwa [show less y.t y.r x.t x.r = decide (lessO y x) from rfl] at this
    obtain ⟨my, hmy⟩ : ∃ b, mayO x = b := ⟨_, rfl⟩
    unfold chkO at MA
    rw [hmy] at MA
    have HMY := Lib.hid hmy
    clear hmy hx
    obtain ⟨k, hk⟩ : ∃ z, x.k = z := ⟨_, rfl⟩
    obtain ⟨t, ht⟩ : ∃ z, x.t = z := ⟨_, rfl⟩
    obtain ⟨r, hr⟩ : ∃ z, x.r = z := ⟨_, rfl⟩
    obtain ⟨p, hp⟩ : ∃ z, x.p = z := ⟨_, rfl⟩
    rw [hk, ht, hr, hp] at HO
    rw [hk] at h0
    rw [ht] at h1
    rw [hr] at h2
    rw [hp] at h4
    simp only [HO.out] at MA
    rw [ht, hr] at LX
    have BL : Hid (Below wr.heap.size wr (wr.alloc (.cells #[.int .u8 (k : Int), .int .u32 (t : Int), .int .u8 (r : Int), .slice uo nu uc, .int .i64 p] 47))) := (Below.refl _ _).alloc (Nat.le_refl _) _
    have SK : Hid (∀ w' : World, Below (wr.alloc (.cells #[.int .u8 (k : Int), .int .u32 (t : Int), .int .u8 (r : Int), .slice uo nu uc, .int .i64 p] 47)).heap.size (wr.alloc (.cells #[.int .u8 (k : Int), .int .u32 (t : Int), .int .u8 (r : Int), .slice uo nu uc, .int .i64 p] 47)) w' → Below (wr.alloc (.cells #[.int .u8 (k : Int), .int .u32 (t : Int), .int .u8 (r : Int), .slice uo nu uc, .int .i64 p] 47)).heap.size (wr.alloc (.cells #[.int .u8 (k : Int), .int .u32 (t : Int), .int .u8 (r : Int), .slice uo nu uc, .int .i64 p] 47)) w' ∧ w'.cell? ⟨wr.heap.size, 0, none⟩ = some (.int .u8 (k : Int)) ∧ w'.cell? ⟨wr.heap.size, 1, none⟩ = some (.int .u32 (t : Int)) ∧ w'.cell? ⟨wr.heap.size, 2, none⟩ = some (.int .u8 (r : Int)) ∧ w'.cell? ⟨wr.heap.size, 3, none⟩ = some (.slice uo nu uc) ∧ w'.cell? ⟨wr.heap.size, 4, none⟩ = some (.int .i64 p)) := fun W h => ⟨h, five_cells h⟩
    have SZ : wr.heap.size = wr.heap.size := rfl
    clear hk ht hr hp HO SZ
    cases my
    · obtain rfl : q = 8 := QN.out (fun h => by have := h.2.1 x (by rw [HX.out]; exact List.getElem_mem _); rw [HMY.out] at this; cases this)
      rw [if_neg (by simp)] at MA
      go_wp2
      refine wp_region_held_drew (S := fun w' => Below (wr.alloc (.cells #[.int .u8 (k : Int), .int .u32 (t : Int), .int .u8 (r : Int), .slice uo nu uc, .int .i64 p] 47)).heap.size (wr.alloc (.cells #[.int .u8 (k : Int), .int .u32 (t : Int), .int .u8 (r : Int), .slice uo nu uc, .int .i64 p] 47)) w' ∧ w'.cell? ⟨wr.heap.size, 0, none⟩ = some (.int .u8 (k : Int)) ∧ w'.cell? ⟨wr.heap.size, 1, none⟩ = some (.int .u32 (t : Int)) ∧ w'.cell? ⟨wr.heap.size, 2, none⟩ = some (.int .u8 (r : Int)) ∧ w'.cell? ⟨wr.heap.size, 3, none⟩ = some (.slice uo nu uc) ∧ w'.cell? ⟨wr.heap.size, 4, none⟩ = some (.int .i64 p)) (by kernel_rfl) (SK.out _ (drew1 _)) (fun hHeld => ?_)
      refine rN 0 ?_
      refine wpAnyH_ready (rs := [1]) (by kernel_rfl) (by simp) ?_
      refine AllReadyH.cons rfl (fun K hK => ?_) ?za1
      case za1 => exact AllReadyH.nil
      go_simp
      refine (MA.out _ (bt BL.out hHeld.1)).mono ?_
      rintro e w9a1 ⟨rfl, b9⟩
      refine hK.out _ _ (SK.out _ (bt hHeld.1 b9)) (fun hNew => ?_)
      clear hHeld
      have hHeld := hNew
      clear hNew hK K
      refine rX ?_
      refine rN 2 ?_
      refine rN 3 ?_
      refine rV 4 ?_
      refine rV 5 ?_
      refine rV 6 ?_
      refine rV 7 ?_
      refine rV 8 ?_
      refine rV 9 ?_
      refine rV 10 ?_
      refine rV 11 ?_
      refine rV 12 ?_
      refine rV 13 ?_
      refine rV 14 ?_
      refine rV 15 ?_
      refine rV 16 ?_
      refine rV 17 ?_
      refine rN 18 ?_
      refine wpAnyH_done (by kernel_rfl) ?_ _
      go_wp2
      go_ret
      exact ⟨rfl, bt hbel.out (bt BL.out hHeld.1)⟩
    rw [if_pos rfl] at MA
    have MJ : Hid (∀ k (h : k < l.length), k < j + 1 → mayO (l[k]'h) = true) := fun i h hi => by
      by_cases e : i = j
      · subst e; rw [← HX.out]; exact HMY.out
      · exact hmay.out i h (by omega)
    by_cases hj0 : j = 0
    · have q8 : decide (0 < (j : Int)) = false := decide_eq_false (by omega)
      have q9 : decide (0 < j) = false := decide_eq_false (by omega)
      have LJ : Hid (∀ k (h : k + 1 < l.length), k + 1 < j + 1 → lessO (l[k]'(by omega)) (l[k + 1]'h)) := fun k h hk => by omega
      clear hj0
      go_wp2
      refine wp_region_held_drew (S := fun w' => Below (wr.alloc (.cells #[.int .u8 (k : Int), .int .u32 (t : Int), .int .u8 (r : Int), .slice uo nu uc, .int .i64 p] 47)).heap.size (wr.alloc (.cells #[.int .u8 (k : Int), .int .u32 (t : Int), .int .u8 (r : Int), .slice uo nu uc, .int .i64 p] 47)) w' ∧ w'.cell? ⟨wr.heap.size, 0, none⟩ = some (.int .u8 (k : Int)) ∧ w'.cell? ⟨wr.heap.size, 1, none⟩ = some (.int .u32 (t : Int)) ∧ w'.cell? ⟨wr.heap.size, 2, none⟩ = some (.int .u8 (r : Int)) ∧ w'.cell? ⟨wr.heap.size, 3, none⟩ = some (.slice uo nu uc) ∧ w'.cell? ⟨wr.heap.size, 4, none⟩ = some (.int .i64 p)) (by kernel_rfl) (SK.out _ (drew1 _)) (fun hHeld => ?_)
      refine rN 0 ?_
      refine wpAnyH_ready (rs := [1]) (by kernel_rfl) (by simp) ?_
      refine AllReadyH.cons rfl (fun K hK => ?_) ?zb1
      case zb1 => exact AllReadyH.nil
      go_simp
      refine (MA.out _ (bt BL.out hHeld.1)).mono ?_
      rintro e w9b1 ⟨rfl, b9⟩
      refine hK.out _ _ (SK.out _ (bt hHeld.1 b9)) (fun hNew => ?_)
      clear hHeld
      have hHeld := hNew
      clear hNew hK K
      refine rX ?_
      refine rN 2 ?_
      refine rN 3 ?_
      refine rN 4 ?_
      refine rN 5 ?_
      refine rN 6 ?_
      refine rV 7 ?_
      refine rV 8 ?_
      refine rV 9 ?_
      refine rV 10 ?_
      refine rV 11 ?_
      refine rV 12 ?_
      refine rV 13 ?_
      refine rV 14 ?_
      refine rV 15 ?_
      refine rV 16 ?_
      refine rN 17 ?_
      refine rN 18 ?_
      refine wpAnyH_done (by kernel_rfl) ?_ _
      go_wp2
      go_roundw
      case rel => exact ⟨j + 1, by omega, by go_num, MJ, LJ, Lib.hid (bt hbel.out (bt BL.out hHeld.1))⟩
      case measure => simp [intOf]; omega
    obtain ⟨i, hi⟩ : ∃ i, i + 1 = j := ⟨j - 1, by omega⟩
    have hil : i < l.length := by omega
    obtain ⟨bby, ooy, uy, ey, hbby, hruy, h0y, h1y, h2y, h3y, h4y⟩ := opl_at (HV.out wr hbel.out) i hil
    cases ey
    obtain ⟨xy, hxy⟩ : ∃ x, x = l[i]'hil := ⟨_, rfl⟩
    rw [← hxy] at hruy h0y h1y h2y h4y
    have HOy : Hid (∀ v : Value, opv xy v = .agg #[.int .u8 (xy.k : Int), .int .u32 (xy.t : Int), .int .u8 (xy.r : Int), v, .int .i64 xy.p]) := fun v => rfl
    have LY := Lib.hid (fun W => LX.out i hi W xy hxy)
    have HXY : Hid (xy = l[i]'hil) := hxy
    clear hxy LX hruy
    obtain ⟨ly, hly⟩ : ∃ b, decide (lessO xy x) = b := ⟨_, rfl⟩
    rw [hly] at LY
    have HLY := Lib.hid hly
    clear hly
    obtain ⟨ky, hky⟩ : ∃ z, xy.k = z := ⟨_, rfl⟩
    obtain ⟨ty, hty⟩ : ∃ z, xy.t = z := ⟨_, rfl⟩
    obtain ⟨ry, hry⟩ : ∃ z, xy.r = z := ⟨_, rfl⟩
    obtain ⟨py, hpy⟩ : ∃ z, xy.p = z := ⟨_, rfl⟩
    rw [hky, hty, hry, hpy] at HOy
    rw [hky] at h0y
    rw [hty] at h1y
    rw [hry] at h2y
    rw [hpy] at h4y
    rw [hty, hry] at LY
    have SL : Hid (∀ w' : World, Below (wr.alloc (.cells #[.int .u8 (k : Int), .int .u32 (t : Int), .int .u8 (r : Int), .slice uo nu uc, .int .i64 p] 47)).heap.size (wr.alloc (.cells #[.int .u8 (k : Int), .int .u32 (t : Int), .int .u8 (r : Int), .slice uo nu uc, .int .i64 p] 47)) w' → Below (wr.alloc (.cells #[.int .u8 (k : Int), .int .u32 (t : Int), .int .u8 (r : Int), .slice uo nu uc, .int .i64 p] 47)).heap.size (wr.alloc (.cells #[.int .u8 (k : Int), .int .u32 (t : Int), .int .u8 (r : Int), .slice uo nu uc, .int .i64 p] 47)) w' ∧ w'.cell? ⟨wr.heap.size, 0, none⟩ = some (.int .u8 (k : Int)) ∧ w'.cell? ⟨wr.heap.size, 1, none⟩ = some (.int .u32 (t : Int)) ∧ w'.cell? ⟨wr.heap.size, 2, none⟩ = some (.int .u8 (r : Int)) ∧ w'.cell? ⟨wr.heap.size, 3, none⟩ = some (.slice uo nu uc) ∧ w'.cell? ⟨wr.heap.size, 4, none⟩ = some (.int .i64 p) ∧ w'.cell? ⟨bb, oo + i * 5 + 1, none⟩ = some (.int .u32 (ty : Int)) ∧ w'.cell? ⟨bb, oo + i * 5 + 2, none⟩ = some (.int .u8 (ry : Int))) := fun W h => by
      have a1 := five_cells h
      have b1 := bt BL.out h
      exact ⟨h, a1.1, a1.2.1, a1.2.2.1, a1.2.2.2.1, a1.2.2.2.2, (b1.cell (p := ⟨bb, oo + i * 5 + 1, none⟩) hbb).trans h1y, (b1.cell (p := ⟨bb, oo + i * 5 + 2, none⟩) hbb).trans h2y⟩
    have ej : (j : Int) - 1 = (i : Int) := by omega
    have ew : IntKind.i64.wrap (i : Int) = (i : Int) := IntWalk.i64_in _ (by omega)
    have q6 : (0 : Int) ≤ (i : Int) := by omega
    have q7 : (i : Int) < (n : Int) := by omega
    have q8 : decide (0 < (j : Int)) = true := decide_eq_true (by omega)
    have q9 : decide (0 < j) = true := decide_eq_true (by omega)
    clear hky hty hry hpy h0y h1y h2y h3y h4y HOy SK hbby
    cases ly
    · obtain rfl : q = 8 := QN.out (fun h => by have h2 := of_decide_eq_false HLY.out; rw [HXY.out, HX.out] at h2; exact h2 (List.pairwise_iff_getElem.1 h.2.2 i j hil HJ.out (by omega)))
      go_wp2
      refine wp_region_held_drew (S := fun w' => Below (wr.alloc (.cells #[.int .u8 (k : Int), .int .u32 (t : Int), .int .u8 (r : Int), .slice uo nu uc, .int .i64 p] 47)).heap.size (wr.alloc (.cells #[.int .u8 (k : Int), .int .u32 (t : Int), .int .u8 (r : Int), .slice uo nu uc, .int .i64 p] 47)) w' ∧ w'.cell? ⟨wr.heap.size, 0, none⟩ = some (.int .u8 (k : Int)) ∧ w'.cell? ⟨wr.heap.size, 1, none⟩ = some (.int .u32 (t : Int)) ∧ w'.cell? ⟨wr.heap.size, 2, none⟩ = some (.int .u8 (r : Int)) ∧ w'.cell? ⟨wr.heap.size, 3, none⟩ = some (.slice uo nu uc) ∧ w'.cell? ⟨wr.heap.size, 4, none⟩ = some (.int .i64 p) ∧ w'.cell? ⟨bb, oo + i * 5 + 1, none⟩ = some (.int .u32 (ty : Int)) ∧ w'.cell? ⟨bb, oo + i * 5 + 2, none⟩ = some (.int .u8 (ry : Int))) (by kernel_rfl) (SL.out _ (drew1 _)) (fun hHeld => ?_)
      refine rN 0 ?_
      refine wpAnyH_ready (rs := [1]) (by kernel_rfl) (by simp) ?_
      refine AllReadyH.cons rfl (fun K hK => ?_) ?zc1
      case zc1 => exact AllReadyH.nil
      go_simp
      refine (MA.out _ (bt BL.out hHeld.1)).mono ?_
      rintro e w9c1 ⟨rfl, b9⟩
      refine hK.out _ _ (SL.out _ (bt hHeld.1 b9)) (fun hNew => ?_)
      clear hHeld
      have hHeld := hNew
      clear hNew hK K
      refine rX ?_
      refine rN 2 ?_
      refine rN 3 ?_
      refine rN 4 ?_
      refine rN 5 ?_
      refine rN 6 ?_
      refine rN 7 ?_
      refine rN 8 ?_
      refine rN 9 ?_
      refine rN 10 ?_
      refine rN 11 ?_
      refine rN 12 ?_
      refine rN 13 ?_
      refine rN 14 ?_
      refine wpAnyH_ready (rs := [15]) (by kernel_rfl) (by simp) ?_
      refine AllReadyH.cons rfl (fun K hK => ?_) ?zc15
      case zc15 => exact AllReadyH.nil
      go_simp
      refine (LY.out _).mono ?_
      rintro e w9c15 ⟨rfl, b9⟩
      refine hK.out _ _ (SL.out _ (bt hHeld.1 b9)) (fun hNew => ?_)
      clear hHeld
      have hHeld := hNew
      clear hNew hK K
      refine rX ?_
      refine rN 16 ?_
      refine rN 17 ?_
      refine rN 18 ?_
      refine wpAnyH_done (by kernel_rfl) ?_ _
      go_wp2
      go_ret
      exact ⟨rfl, bt hbel.out (bt BL.out hHeld.1)⟩
    have LJ : Hid (∀ k (h : k + 1 < l.length), k + 1 < j + 1 → lessO (l[k]'(by omega)) (l[k + 1]'h)) := fun k h hk => by
      by_cases e : k = i
      · subst e; subst hi; have h2 := of_decide_eq_true HLY.out; rw [HXY.out, HX.out] at h2; exact h2
      · exact hless.out k h (by omega)
    go_wp2
    refine wp_region_held_drew (S := fun w' => Below (wr.alloc (.cells #[.int .u8 (k : Int), .int .u32 (t : Int), .int .u8 (r : Int), .slice uo nu uc, .int .i64 p] 47)).heap.size (wr.alloc (.cells #[.int .u8 (k : Int), .int .u32 (t : Int), .int .u8 (r : Int), .slice uo nu uc, .int .i64 p] 47)) w' ∧ w'.cell? ⟨wr.heap.size, 0, none⟩ = some (.int .u8 (k : Int)) ∧ w'.cell? ⟨wr.heap.size, 1, none⟩ = some (.int .u32 (t : Int)) ∧ w'.cell? ⟨wr.heap.size, 2, none⟩ = some (.int .u8 (r : Int)) ∧ w'.cell? ⟨wr.heap.size, 3, none⟩ = some (.slice uo nu uc) ∧ w'.cell? ⟨wr.heap.size, 4, none⟩ = some (.int .i64 p) ∧ w'.cell? ⟨bb, oo + i * 5 + 1, none⟩ = some (.int .u32 (ty : Int)) ∧ w'.cell? ⟨bb, oo + i * 5 + 2, none⟩ = some (.int .u8 (ry : Int))) (by kernel_rfl) (SL.out _ (drew1 _)) (fun hHeld => ?_)
    refine rN 0 ?_
    refine wpAnyH_ready (rs := [1]) (by kernel_rfl) (by simp) ?_
    refine AllReadyH.cons rfl (fun K hK => ?_) ?zd1
    case zd1 => exact AllReadyH.nil
    go_simp
    refine (MA.out _ (bt BL.out hHeld.1)).mono ?_
    rintro e w9d1 ⟨rfl, b9⟩
    refine hK.out _ _ (SL.out _ (bt hHeld.1 b9)) (fun hNew => ?_)
    clear hHeld
    have hHeld := hNew
    clear hNew hK K
    refine rX ?_
    refine rN 2 ?_
    refine rN 3 ?_
    refine rN 4 ?_
    refine rN 5 ?_
    refine rN 6 ?_
    refine rN 7 ?_
    refine rN 8 ?_
    refine rN 9 ?_
    refine rN 10 ?_
    refine rN 11 ?_
    refine rN 12 ?_
    refine rN 13 ?_
    refine rN 14 ?_
    refine wpAnyH_ready (rs := [15]) (by kernel_rfl) (by simp) ?_
    refine AllReadyH.cons rfl (fun K hK => ?_) ?zd15
    case zd15 => exact AllReadyH.nil
    go_simp
    refine (LY.out _).mono ?_
    rintro e w9d15 ⟨rfl, b9⟩
    refine hK.out _ _ (SL.out _ (bt hHeld.1 b9)) (fun hNew => ?_)
    clear hHeld
    have hHeld := hNew
    clear hNew hK K
    refine rX ?_
    refine rN 16 ?_
    refine rN 17 ?_
    refine rN 18 ?_
    refine wpAnyH_done (by kernel_rfl) ?_ _
    go_wp2
    go_roundw
    case rel => exact ⟨j + 1, by omega, by go_num, MJ, LJ, Lib.hid (bt hbel.out (bt BL.out hHeld.1))⟩
    case measure => simp [intOf]; omega
end Go.Proofs.YtmiepnnpccpicaaGreat.Bags

namespace Go.Proofs.YtmiepnnpccpicaaGreat.Clocks
open Go.RowKit Go.Proofs.YtmiepnnpccpicaaGreat.Spans
attribute [local go_sem ↓] Go.wp_at_zero Go.wp_at_succ
/-- What lies below B stays, and what has come from H on. -/
def Apart (B H : Nat) (w w' : World) : Prop := Below B w w' ∧ ∀ j, H ≤ j → j < w.heap.size → w'.heap[j]? = w.heap[j]?
theorem own_apart {B H sz n : Nat} {w w' : World} {e : TypeId} {v : Value} {cs : List Value} (h : w.ownsRow H e sz v n cs) (ha : Apart B H w w') : w'.ownsRow H e sz v n cs := by
  refine ⟨h.1, ?_⟩
  rcases h.2 with h0 | ⟨g, cap, cur, rfl, h1, hg, h2⟩
  · exact .inl h0
  · exact .inr ⟨g, cap, cur, rfl, h1, (ha.2 g h1 (Array.getElem?_eq_some_iff.1 hg).1).trans hg, h2⟩
end Go.Proofs.YtmiepnnpccpicaaGreat.Clocks

namespace Go.Proofs.YtmiepnnpccpicaaGreat.Marks
open Go.RowKit Go.WideShapes Stamp Go.Proofs.YtmiepnnpccpicaaGreat.Place Ops Codes Bags
attribute [local go_sem ↓] Go.wp_at_zero Go.wp_at_succ
/-- The live marks of a list, in its order. -/
def pickM (L l : List Opn) : List Opn := l.filter (fun o => decide (o.k = 2) && !ended L (idO o))
theorem pick_yes {L l : List Opn} {x : Opn} (hk : x.k = 2) (he : ended L (idO x) = false) : pickM L (l ++ [x]) = pickM L l ++ [x] := by
  unfold pickM
  rw [List.filter_append, List.filter_cons_of_pos (by simp [hk, he])]
  rfl
theorem pick_no {L l : List Opn} {x : Opn} (h : ¬ (x.k = 2 ∧ ended L (idO x) = false)) : pickM L (l ++ [x]) = pickM L l := by
  unfold pickM
  rw [List.filter_append, List.filter_cons_of_neg (by simpa using h)]
  simp
theorem pick_is {l m : List Opn} (hl : Bag l) (hp : m.Perm (pickM l l)) (hs : m.Pairwise (fun a b => ¬ cmp b.pl a.pl < 0)) : livesM l l = m := by
  have hmem : ∀ y, y ∈ m ↔ y ∈ l ∧ y.k = 2 ∧ ended l (idO y) = false := fun y => by
    rw [hp.mem_iff]
    unfold pickM
    simp
  refine lives_ext hl (fun x hx => hl.2.1 x ((hmem x).1 hx).1) ?_ hmem
  have hd : m.Pairwise (fun a b => idO a ≠ idO b) := by
    refine (hp.pairwise_iff (fun {a b} h => Ne.symm h)).2 ?_
    unfold pickM
    exact (hl.2.2.imp (fun h => lessO_ne h)).filter _
  refine List.Pairwise.imp_of_mem ?_ (hs.and hd)
  intro a b ha hb h
  have h1 := (hmem a).1 ha
  have h2 := (hmem b).1 hb
  rcases mark_ne (hl.2.1 a h1.1) (hl.2.1 b h2.1) h1.2.1 h2.2.1 h.2 with h3 | h3
  · exact h3
  · exact absurd h3 h.1
theorem grown_apart {w w' : World} {N : Nat} (hN : N ≤ w.heap.size) (h : w.grownBy w' (some N)) : Clocks.Apart N (N + 1) w w' :=
  ⟨⟨h.os, h.tape, h.output, h.size, fun k hk => h.block k (by omega) (by intro e; injection e with e; omega)⟩, fun k h1 h2 => h.block k h2 (by intro e; injection e with e; omega)⟩
theorem holdP_apart {B H : Nat} {w w' : World} (ha : Clocks.Apart B H w w') : ∀ {cs : List Value} {l : List Opn}, HoldP w H cs l → HoldP w' H cs l
  | _, [], h => h
  | _, _ :: _, ⟨v, d, h1, h2, h3⟩ => ⟨v, d, h1, Clocks.own_apart h2 ha, holdP_apart ha h3⟩
theorem ownL_apart {B H : Nat} {w w' : World} {v : Value} {l : List Opn} (h : OwnL w H v l) (ha : Clocks.Apart B H w w') : OwnL w' H v l := by
  obtain ⟨cs, h1, h2⟩ := h
  exact ⟨cs, Clocks.own_apart h1 ha, holdP_apart ha h2⟩
/-- What is told of the map: of the stamps that are still to come it tells whether they are joined. -/
def Ahead (l : List Opn) (j : Nat) (N n : Nat) (wr : World) : Prop := ∃ S, SetI wr N n S ∧ ∀ (i : Nat) (h : i < l.length), j ≤ i → S (idO (l[i]'h)) = ended l (idO (l[i]'h))
theorem Ahead.keeps {l : List Opn} {j N n : Nat} {w w' : World} (h : Ahead l j N n w) (hb : Below w.heap.size w w') : Ahead l j N n w' := by
  obtain ⟨S, h1, h2⟩ := h
  exact ⟨S, h1.keeps hb, h2⟩
theorem Ahead.next {l : List Opn} {j N n : Nat} {w : World} (h : Ahead l j N n w) : Ahead l (j + 1) N n w := by
  obtain ⟨S, h1, h2⟩ := h
  exact ⟨S, h1, fun i hi hj => h2 i hi (by omega)⟩
theorem bag_ids {l : List Opn} (hl : Bag l) {i j : Nat} (hi : i < l.length) (hj : j < l.length) (h : j < i) : idO (l[i]'hi) ≠ idO (l[j]'hj) :=
  fun e => lessO_ne (List.pairwise_iff_getElem.1 hl.2.2 j i hj hi h) e.symm
set_option maxRecDepth 100000 in
set_option maxHeartbeats 8000000 in
theorem mLive_any {v : Value} {l : List Opn} {w : World} (hv : OpL w v l) : Calls Tryz.prog 53 #[v] w (DoneN (liveL l) (chkL l) w) := by
  have CK := Lib.hid (bCheck_any hv)
  obtain ⟨ao, cap, rfl⟩ := hv.shape
  obtain ⟨n, hn⟩ : ∃ n, n = l.length := ⟨_, rfl⟩
  have HV : Hid (∀ W : World, Below w.heap.size w W → OpL W (.slice ao l.length cap) l) := fun W h => hv.keeps h
  have HN := Lib.hid hn
  by_cases hbag : Bag l
  rotate_left
  · have e1 : chkL l = 8 := chkL_no hbag
    have e2 : liveL l = [] := by unfold liveL; rw [bagB_no hbag]; rfl
    rw [e1] at CK ⊢
    rw [e2]
    rw [← hn] at CK ⊢
    clear hv hn e1 e2
    go_enter Tryz.func53, Tryz.ntmps53
    go_wp2_with fail
    refine CK.out.mono ?_
    rintro e w1 ⟨rfl, b1⟩
    have B1 := Lib.hid b1
    clear b1
    go_wp2
    go_ret2
    exact ⟨_, rfl, OwnL.nil _ _, B1.out⟩
  have e1 : chkL l = 0 := chkL_yes hbag
  have e2 : liveL l = livesM l l := by unfold liveL; rw [(bagB_iff l).2 hbag]; rfl
  have HB := Lib.hid hbag
  rw [e1] at CK ⊢
  rw [e2]
  have JI : Hid (∀ W : World, Below w.heap.size w W → Calls Tryz.prog 92 #[.slice ao l.length cap] W fun e w' => e = .returned (.map (some W.heap.size)) ∧ Ahead l 0 W.heap.size n w' ∧ Below W.heap.size W w') := fun W h => by
    refine (joinedIn_any (hv.keeps h) hbag.2.1 hbag.1).mono ?_
    rintro e w' ⟨rfl, h1, h2⟩
    exact ⟨rfl, ⟨_, by rw [HN.out]; exact h1, fun _ _ _ => rfl⟩, h2⟩
  have SO : Hid (∀ (W : World) (v : Value) (base : Nat), OwnL W base v (pickM l l) → base ≤ W.heap.size → Calls Tryz.prog 94 #[v, .func (.func 95) #[] #[]] W fun e w' => e = .returned (.tuple #[]) ∧ OwnL w' base v (livesM l l) ∧ Below base W w') := fun W v base h hB => by
    refine (sortL_any h (fun o ho => anyB_may (mayO_parts (hbag.2.1 o (List.mem_filter.1 ho).1)).2.1) (by have h1 := hbag.1; have h2 : (pickM l l).length ≤ l.length := List.length_filter_le _ _; omega)).mono ?_
    rintro e w' ⟨rfl, l', h1, h2, h3, h4⟩
    rw [pick_is hbag h1 h2]
    exact ⟨rfl, h3, h4⟩
  have hnm : n ≤ 1024 := by rw [hn]; exact hbag.1
  obtain ⟨R, hR⟩ : ∃ z, livesM l l = z := ⟨_, rfl⟩
  rw [hR] at SO ⊢
  rw [← hn] at CK JI ⊢
  clear hv hn e1 e2 hR hbag
  go_enter Tryz.func53, Tryz.ntmps53
  go_wp2_with fail
  refine CK.out.mono ?_
  rintro e w1 ⟨rfl, b1⟩
  have B1 := Lib.hid b1
  clear b1 CK
  go_wp2_with fail
  refine (JI.out _ B1.out).mono ?_
  rintro e w2 ⟨rfl, s2, b2⟩
  obtain ⟨N, hN⟩ : ∃ N, w1.heap.size = N := ⟨_, rfl⟩
  have hNw : w.heap.size ≤ N := by rw [← hN]; exact B1.out.size
  have hN2 : N < w2.heap.size := by obtain ⟨S, h1, _⟩ := s2; rw [hN] at h1; exact h1.lt
  rw [hN] at s2
  have S2 := Lib.hid s2
  have B2 := Lib.hid (bt B1.out b2)
  have L2 : Hid (OwnL w2 (N + 1) (.slice none 0 0) (pickM l (l.take 0))) := OwnL.nil _ _
  have M2 : Hid (0 = (pickM l (l.take 0)).length) := rfl
  have Z2 := Lib.hid hN2
  rw [hN]
  clear s2 b2 hN hN2 B1 JI
  have HNW := Lib.hid hNw
  clear hNw
  go_wp2
  go_loopw [6, 18] (fun v i wr => ∃ j m : Nat, j ≤ n ∧ m ≤ j ∧ i = .int .i64 (j : Int) ∧ (∃ ao cap, v = .slice ao m cap) ∧ Hid (m = (pickM l (l.take j)).length) ∧ Hid (OwnL wr (N + 1) v (pickM l (l.take j))) ∧ Hid (Ahead l j N n wr) ∧ Hid (N < wr.heap.size) ∧ Hid (Below w.heap.size w wr)) (fun _ i _ => n - (intOf i).toNat)
  case atStart => exact ⟨0, 0, by omega, by omega, rfl, ⟨none, 0, rfl⟩, M2, L2, S2, Z2, B2⟩
  case round =>
    clear S2 B2 L2 M2 Z2
    obtain ⟨j, m, hj, hmj, rfl, ⟨aoL, capL, rfl⟩, hm, hown, hset, hz, hbel⟩ := hrel
    by_cases hjn : j < n
    rotate_left
    · have q3 : decide (j < n) = false := by simpa using hjn
      have hkk : l.take j = l := List.take_of_length_le (by have := HN.out; omega)
      rw [hkk] at hown
      clear hkk hm hset
      have SX := Lib.hid (SO.out _ _ _ hown.out hz.out)
      clear SO
      go_wp2_with fail
      refine SX.out.mono ?_
      rintro e w3 ⟨rfl, o3, b3⟩
      have O3 : Hid (OwnL w3 w.heap.size (.slice aoL m capL) R) := o3.base (Nat.le_succ_of_le HNW.out)
      have B3 := Lib.hid (hbel.out.trans (b3.mono (Nat.le_succ_of_le HNW.out)))
      clear o3 b3 SX hown
      go_wp2
      go_ret2
      exact ⟨_, rfl, O3.out, B3.out⟩
    have q3 : decide (j < n) = true := by simpa using hjn
    have q4 : (0 : Int) ≤ (j : Int) := by omega
    have q5 : (j : Int) < (n : Int) := by omega
    have hjl : j < l.length := by rw [← HN.out]; exact hjn
    obtain ⟨bb, oo, u, e, hbb, hru, h0, h1, h2, h3, h4⟩ := opl_at (HV.out w (Below.refl _ _)) j hjl
    subst e
    replace h0 := (hbel.out.cell (p := ⟨bb, oo + j * 5, none⟩) hbb).trans h0
    replace h1 := (hbel.out.cell (p := ⟨bb, oo + j * 5 + 1, none⟩) hbb).trans h1
    replace h2 := (hbel.out.cell (p := ⟨bb, oo + j * 5 + 2, none⟩) hbb).trans h2
    replace h3 := (hbel.out.cell (p := ⟨bb, oo + j * 5 + 3, none⟩) hbb).trans h3
    replace h4 := (hbel.out.cell (p := ⟨bb, oo + j * 5 + 4, none⟩) hbb).trans h4
    obtain ⟨x, hx⟩ : ∃ x, x = l[j]'hjl := ⟨_, rfl⟩
    rw [← hx] at hru h0 h1 h2 h4
    have RU : Hid (∀ W : World, Below w.heap.size w W → Runs W u x.pl) := fun W h => hru.keeps h
    have hxm : x ∈ l := by rw [hx]; exact List.getElem_mem _
    have hpx : x.pl.length ≤ 8796093022208 := by have := mayO_fits (HB.out.2.1 x hxm); omega
    have hst : l.take (j + 1) = l.take j ++ [x] := by rw [List.take_succ_eq_append_getElem hjl, hx]
    have FY : Hid (x.k = 2 → ended l (idO x) = false → pickM l (l.take (j + 1)) = pickM l (l.take j) ++ [x]) := fun h h2 => by rw [hst]; exact pick_yes h h2
    have FN : Hid (¬ (x.k = 2 ∧ ended l (idO x) = false) → pickM l (l.take (j + 1)) = pickM l (l.take j)) := fun h => by rw [hst]; exact pick_no h
    have TO : Hid (∀ W : World, Ahead l j N n W → N < W.heap.size → Calls Tryz.prog 93 #[.map (some N), .agg #[.int .u32 (x.t : Int), .int .u8 (x.r : Int)]] W fun e w' => e = .returned (.bool (ended l (idO x))) ∧ Ahead l (j + 1) N n w' ∧ Clocks.Apart N (N + 1) W w') := fun W ⟨S, s1, s2⟩ hW => by
      refine (takeOut_any (idO x) s1).mono ?_
      rintro e w' ⟨rfl, k1, k2⟩
      refine ⟨by rw [hx, s2 j hjl (Nat.le_refl _)], ⟨_, k1, fun i hi hji => ?_⟩, grown_apart (Nat.le_of_lt hW) k2⟩
      show (S _ && !decide _) = _
      rw [s2 i hi (by omega), hx, decide_eq_false (bag_ids HB.out hi hjl (by omega))]
      simp
    have TW : Hid (∀ W : World, Below w.heap.size w W → Calls Tryz.prog 42 #[opv x u] W fun e w' => ∃ ao cap, e = .returned (opv x (.slice ao x.pl.length cap)) ∧ w'.ownsRow W.heap.size 40 3 (.slice ao x.pl.length cap) x.pl.length (runs x.pl) ∧ Below W.heap.size W w') := fun W h => by
      refine (oTwin_any (hru.keeps h) hpx).mono ?_
      rintro e w' ⟨v', rfl, ho, hb⟩
      obtain ⟨ao', cap', rfl⟩ : ∃ ao cap, v' = .slice ao x.pl.length cap := Sees.shape (Sees.own ho)
      exact ⟨ao', cap', rfl, ho, hb⟩
    have HO : Hid (∀ v : Value, opv x v = .agg #[.int .u8 (x.k : Int), .int .u32 (x.t : Int), .int .u8 (x.r : Int), v, .int .i64 x.p]) := fun v => rfl
    obtain ⟨uo, uc, rfl⟩ := hru.shape
    obtain ⟨nu, hnu⟩ : ∃ n, n = x.pl.length := ⟨_, rfl⟩
    have HNU := Lib.hid hnu
    rw [← hnu] at h3 TW
    obtain ⟨q, hq⟩ : ∃ q, ended l (idO x) = q := ⟨_, rfl⟩
    rw [hq] at FY FN TO
    clear hru hx hxm hpx hst hnu hq RU
    obtain ⟨k, hk⟩ : ∃ z, x.k = z := ⟨_, rfl⟩
    obtain ⟨t, ht⟩ : ∃ z, x.t = z := ⟨_, rfl⟩
    obtain ⟨r, hr⟩ : ∃ z, x.r = z := ⟨_, rfl⟩
    obtain ⟨p, hp⟩ : ∃ z, x.p = z := ⟨_, rfl⟩
    have HFV : Hid (∀ v : Value, [.int .u8 (k : Int), .int .u32 (t : Int), .int .u8 (r : Int), v, .int .i64 p] = [Value.int .u8 (x.k : Int), .int .u32 (x.t : Int), .int .u8 (x.r : Int), v, .int .i64 x.p]) := fun v => by rw [hk, ht, hr, hp]
    rw [hk, ht, hr, hp] at HO
    simp only [HO.out] at TW
    rw [ht, hr] at TO
    rw [hk] at h0 FY FN
    rw [ht] at h1
    rw [hr] at h2
    rw [hp] at h4
    have BL : Hid (Below wr.heap.size wr (wr.alloc (.cells #[.int .u8 (k : Int), .int .u32 (t : Int), .int .u8 (r : Int), .slice uo nu uc, .int .i64 p] 47))) := (Below.refl _ _).alloc (Nat.le_refl _) _
    have BW := Lib.hid (bt hbel.out BL.out)
    have OW := Lib.hid (hown.out.keeps BL.out)
    have SW := Lib.hid (hset.out.keeps BL.out)
    have ZW : Hid (N < (wr.alloc (.cells #[.int .u8 (k : Int), .int .u32 (t : Int), .int .u8 (r : Int), .slice uo nu uc, .int .i64 p] 47)).heap.size) := Nat.lt_of_lt_of_le hz.out BL.out.size
    have X0 : Hid ((wr.alloc (.cells #[.int .u8 (k : Int), .int .u32 (t : Int), .int .u8 (r : Int), .slice uo nu uc, .int .i64 p] 47)).heap[wr.heap.size]? = some (.cells #[.int .u8 (k : Int), .int .u32 (t : Int), .int .u8 (r : Int), .slice uo nu uc, .int .i64 p] 47)) := blk_new rfl
    clear hk ht hr hp HO hown hset
    by_cases hk2 : k = 2
    rotate_left
    · have qk : ((k : Int) == 2) = false := by simp; omega
      have qk2 : decide ((k : Int) = 2) = false := decide_eq_false (by omega)
      have FT := Lib.hid (FN.out (fun h => hk2 h.1))
      have SN := Lib.hid SW.out.next
      rw [← FT.out] at OW hm
      clear FY FN FT TO TW hk2 SW X0 hbb hz
      go_wp2
      go_roundw
      case rel => exact ⟨j + 1, m, by omega, by omega, by go_num, ⟨_, _, rfl⟩, hm, OW, SN, ZW, BW⟩
      case measure => simp [intOf]; omega
    subst hk2
    have HF2 : Hid (∀ v : Value, [.int .u8 2, .int .u32 (t : Int), .int .u8 (r : Int), v, .int .i64 p] = [Value.int .u8 (x.k : Int), .int .u32 (x.t : Int), .int .u8 (x.r : Int), v, .int .i64 x.p]) := HFV.out
    go_wp2_with fail
    refine (TO.out _ SW.out ZW.out).mono ?_
    rintro e w3 ⟨rfl, s3, a3⟩
    have S3 := Lib.hid s3
    have O3 := Lib.hid (ownL_apart OW.out a3)
    have B3 := Lib.hid (BW.out.trans (a3.1.mono HNW.out))
    have Z3 : Hid (N < w3.heap.size) := Nat.lt_of_lt_of_le ZW.out a3.1.size
    have X3 : Hid (w3.heap[wr.heap.size]? = some (.cells #[.int .u8 2, .int .u32 (t : Int), .int .u8 (r : Int), .slice uo nu uc, .int .i64 p] 47)) := (a3.2 wr.heap.size hz.out (Array.getElem?_eq_some_iff.1 X0.out).1).trans X0.out
    clear s3 a3 OW SW BW ZW X0 TO BL hz hbb
    cases q
    rotate_left
    · have FT := Lib.hid (FN.out (by simp))
      rw [← FT.out] at O3 hm
      clear FY FN FT TW X3
      go_wp2
      go_roundw
      case rel => exact ⟨j + 1, m, by omega, by omega, by go_num, ⟨_, _, rfl⟩, hm, O3, S3, Z3, B3⟩
      case measure => simp [intOf]; omega
    have FT := Lib.hid (FY.out (by first | trivial | rfl) (by first | trivial | rfl))
    clear FY FN
    have c0 := cell_of_row _ _ 0 _ _ _ X3.out
    have c1 := cell_of_row _ _ 1 _ _ _ X3.out
    have c2 := cell_of_row _ _ 2 _ _ _ X3.out
    have c3 := cell_of_row _ _ 3 _ _ _ X3.out
    have c4 := cell_of_row _ _ 4 _ _ _ X3.out
    go_wp2_with fail
    clear c0 c1 c2 c3 c4 X3
    refine (TW.out _ B3.out).mono ?_
    rintro e w5 ⟨aoO, capO, rfl, o5, b5⟩
    have L5 := Lib.hid (O3.out.keeps b5)
    have B5 := Lib.hid (bt B3.out b5)
    have S5 := Lib.hid (S3.out.keeps b5)
    have Z5 : Hid (N < w5.heap.size) := Nat.lt_of_lt_of_le Z3.out b5.size
    obtain ⟨cs, lo, lh⟩ := L5.out
    rw [← hm.out] at lo
    have LO := Lib.hid lo
    have LH := Lib.hid lh
    have PO : Hid (w5.ownsRow (N + 1) 40 3 (.slice aoO nu capO) nu (runs x.pl)) := op_base o5 Z3.out
    have SE : Hid (Sees (w5.alloc (.cells #[.int .u8 2, .int .u32 (t : Int), .int .u8 (r : Int), .slice aoO nu capO, .int .i64 p] 47)) (.slice (some ⟨w5.heap.size, 0, none⟩) 1 1) 5 1 [.int .u8 2, .int .u32 (t : Int), .int .u8 (r : Int), .slice aoO nu capO, .int .i64 p]) := sees_new w5 [.int .u8 2, .int .u32 (t : Int), .int .u8 (r : Int), .slice aoO nu capO, .int .i64 p] 5 1 rfl (by omega) 47 (0, 0)
    have BX : Hid (Below w5.heap.size w5 (w5.alloc (.cells #[.int .u8 2, .int .u32 (t : Int), .int .u8 (r : Int), .slice aoO nu capO, .int .i64 p] 47))) := (Below.refl _ _).alloc (Nat.le_refl _) _
    have OA := Lib.hid (own_stays LO.out BX.out)
    have SA := Lib.hid (S5.out.keeps BX.out)
    have FO : ∀ z ∈ [Value.int .u8 2, .int .u32 (t : Int), .int .u8 (r : Int), .slice aoO nu capO, .int .i64 p], z.oneCell' = true := by rw [HF2.out]; exact five_one x _ ⟨_, _, _, rfl⟩
    have FO2 := Lib.hid FO
    have bz : N + 1 ≤ (w5.alloc (.cells #[.int .u8 2, .int .u32 (t : Int), .int .u8 (r : Int), .slice aoO nu capO, .int .i64 p] 47)).heap.size := Nat.le_trans Z5.out BX.out.size
    clear o5 b5 lo lh FO O3 B3 S3 L5 TW
    go_wp2_with (at_builtin; refine wpList_append_sees rfl (.tmp 32) (.tmp 35) 22 47 rfl Tryz.underlying22 op_info rfl (by decide) (N + 1) _ m cs rfl OA.out _ 1 [.int .u8 2, .int .u32 (t : Int), .int .u8 (r : Int), .slice aoO nu capO, .int .i64 p] rfl SE.out FO2.out ?k1 ?k2 ?k3 ?_)
    case k1 => omega
    case k2 => omega
    case k3 => exact bz
    rintro v6 w6 o6 g6 b6
    have L6 : Hid (OwnL w6 (N + 1) v6 (pickM l (l.take (j + 1)))) := by
      have lo2 := LO.out
      have o7 := o6
      rw [HF2.out] at o7
      have po := own_stays PO.out BX.out
      have gx := g6
      unfold Hid
      rw [FT.out]
      rw [HNU.out] at po o7
      rw [hm.out] at lo2 gx
      refine OwnL.snoc (W := w5) (W8 := w5.alloc (.cells #[.int .u8 2, .int .u32 (t : Int), .int .u8 (r : Int), .slice aoO nu capO, .int .i64 p] 47)) (m := m + 1) lo2 LH.out BX.out ?_ gx o7 (by rw [← hm.out])
      rw [HNU.out]
      exact po
    have M6 : Hid (m + 1 = (pickM l (l.take (j + 1))).length) := by unfold Hid; rw [FT.out, List.length_append, List.length_singleton, ← hm.out]
    have S6 : Hid (Ahead l (j + 1) N n w6) := by
      obtain ⟨S, s1, s2⟩ := SA.out
      exact ⟨S, by
        obtain ⟨D, d1, d2⟩ := s1
        obtain ⟨es, clock, hb, d3⟩ := d1
        refine ⟨D, ⟨es, clock, (b6.block N (Nat.lt_succ_self _)).trans hb, d3⟩, d2⟩, s2⟩
    have B6 : Hid (Below w.heap.size w w6) := (bt B5.out BX.out).trans (b6.mono (Nat.le_succ_of_le HNW.out))
    have Z6 : Hid (N < w6.heap.size) := Nat.lt_of_lt_of_le bz b6.size
    obtain ⟨va, vc, rfl⟩ : ∃ ao cap, v6 = .slice ao (m + 1) cap := Sees.shape (Sees.own o6)
    clear o6 g6 b6 OA SE LO LH PO B5 bz SA S5 Z5 BX FO2 HFV HF2 hm
    go_wp2
    go_roundw
    case rel => exact ⟨j + 1, m + 1, by omega, by omega, by go_num, ⟨va, vc, rfl⟩, M6, L6, S6, Z6, B6⟩
    case measure => simp [intOf]; omega
end Go.Proofs.YtmiepnnpccpicaaGreat.Marks
