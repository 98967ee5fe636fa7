/- octavo/cover.cut, asking and what it makes, section.homes: what each answers. Conditions: the slices' cells are runs, operations. octavo/cover.section.counts: what it answers. Conditions: content of a bag; a section of it. math/bits.Len of numbers up to 1024: how many digits they have. Conditions: as said. octavo/cover.chosen, Homed, Counts, Version: what each answers. Conditions: the slice's cells are operations. -/
import Derived.Test.YtmiepnnpccpicaaGreatChecked
import Derived.WalkKit
import Derived.WalkSpells
import Derived.WalkLawsBesides
import Derived.Laws.BytesArg
import Derived.Lib.Hide
import Derived.Deep.LoopGhost
import Derived.Laws.AppendOwnNone
import Derived.Laws.OwnMore
import Derived.WideShapes
import Derived.Maps.AppendAt
import Derived.RegionTactic
import Derived.Deep.RegionHeld3
import Derived.Deep.DrawnRows
import Derived.Deep.QuietTactic
import Derived.BigQuiet
import Derived.IntWalk
import Derived.Deep.DeepCutAuto
import Derived.ScopeJumps
import Derived.Test.YtmiepnnpccpicaaGreatProg
import Derived.LoopTactic
import Derived.Laws.EntriesVeiled
import Derived.RowKit
import Derived.Maps.Own
import Derived.Maps.OwnOps
import Derived.Maps.OwnSet
import Derived.Maps.Views
import Derived.DeepKeys4
import Derived.Scope
import Derived.Lib.Tables
import Derived.Shelf.Abstract
import Derived.Shelf.SlSortCmp.InsertionK
import Derived.Calls
import Derived.StepT
import Derived.Below
import Derived.Sort.Grow
import Derived.Deep.Draws
import Derived.Shelf.SlLaysF0
import Derived.Shelf.SlSortCmp.NoneTotal
import Derived.RangeFuncBox
import Derived.RangeFuncLeaves
import Derived.RangeFuncNested
import Derived.RangeFuncBound
import Derived.RangeFuncCalls
import Derived.OwnWalkIn
import Derived.TacticsInMore
import Derived.LoopNIn
import Derived.LoopIn
import Derived.Laws.Bits64
import Derived.Test.YtmiepnnpccpicaaGreatRw
import Derived.Test.YtmiepnnpccpicaaGreatPk08
import Derived.Test.YtmiepnnpccpicaaGreatPk05
import Derived.Test.YtmiepnnpccpicaaGreatPk04
import Derived.Test.YtmiepnnpccpicaaGreatPk03
import Derived.Test.YtmiepnnpccpicaaGreatPk02
import Derived.Test.YtmiepnnpccpicaaGreatPk01
import Derived.Test.YtmiepnnpccpicaaGreatPk07
import Derived.Test.YtmiepnnpccpicaaGreatPk06

namespace Go.Proofs.YtmiepnnpccpicaaGreat.Covers
open Go.RowKit Go.WideShapes Stamp Go.Proofs.YtmiepnnpccpicaaGreat.Place Ops Codes Bags Marks Homes
attribute [local go_sem ↓] Go.wp_at_zero Go.wp_at_succ
attribute [local go_sem] yielded_undef
theorem own_less {w : World} {B n k cap sz : Nat} {e : TypeId} {ao : Option Addr} {cs : List Value} (h : w.ownsRow B e sz (.slice ao n cap) n cs) (hk : k ≤ n) (hn : 0 < n) : w.ownsRow B e sz (.slice ao k cap) k (cs.take (k * sz)) := by
  obtain ⟨hl, h⟩ := h
  rcases h with ⟨h1, h2⟩ | ⟨g, c, cur, h1, h2, h3, h4, h5, h6, h7⟩
  · omega
  · cases h1
    refine ⟨by rw [List.length_take, hl]; exact Nat.min_eq_left (Nat.mul_le_mul_right _ hk), .inr ⟨g, cap, cur, rfl, h2, h3, by omega, h5, h6, ?_⟩⟩
    rw [← h7, List.take_take, Nat.min_eq_left (Nat.mul_le_mul_right _ hk)]
theorem runs_take (l : List Run) (k : Nat) (h : k ≤ l.length) : runs (l.take k) = (runs l).take (k * 3) := by
  have e : runs l = runs (l.take k) ++ runs (l.drop k) := by rw [← runs_append, List.take_append_drop]
  rw [e, List.take_append_of_le_length (by rw [runs_len, List.length_take]; omega)]
  exact (List.take_of_length_le (by rw [runs_len, List.length_take]; omega)).symm
theorem runs_last {l : List Run} (hl : 0 < l.length) {m : Int} (hm : -9223372036854775808 ≤ m ∧ m ≤ 9223372036854775807) :
    (runs l).set ((l.length - 1) * 3 + 2) (.int .i64 m) = runs (l.take (l.length - 1) ++ [mkRun (l.getD (l.length - 1) zrun).t (l.getD (l.length - 1) zrun).r m]) := by
  obtain ⟨k, hk⟩ : ∃ k, l.length = k + 1 := ⟨l.length - 1, by omega⟩
  have e : l = l.take k ++ [l.getD k zrun] := by
    have := List.take_append_drop k l
    rw [List.drop_eq_getElem_cons (by omega), List.drop_eq_nil_iff.2 (by omega)] at this
    rw [show l.getD k zrun = l[k] by rw [List.getD_eq_getElem?_getD, List.getElem?_eq_getElem (by omega)]; rfl]
    exact this.symm
  obtain ⟨x, hx⟩ : ∃ x, l.getD k zrun = x := ⟨_, rfl⟩
  rw [hk, Nat.add_sub_cancel, hx]
  rw [hx] at e
  have hl2 : (l.take k).length = k := by rw [List.length_take]; omega
  have e2 : runs l = runs (l.take k) ++ runs [x] := by rw [← runs_append, ← e]
  rw [e2, List.set_append_right _ _ (by rw [runs_len, hl2]; omega), runs_append]
  congr 1
  rw [runs_len, hl2, show k * 3 + 2 - k * 3 = 2 by omega]
  show [Value.int .u32 (x.t : Int), .int .u8 (x.r : Int), .int .i64 m] = [Value.int .u32 ((mkRun x.t x.r m).t : Int), .int .u8 ((mkRun x.t x.r m).r : Int), .int .i64 (mkRun x.t x.r m).m]
  rw [mkRun_t x.ht, mkRun_r x.hr, mkRun_m hm]
theorem down_len {p : List Run} (hp : 0 < p.length) : (downL p).length = if (p.getD (p.length - 1) zrun).m = 1 then p.length - 1 else p.length := by
  unfold downL
  rw [List.length_append, List.length_take]
  split <;> simp <;> omega
set_option maxRecDepth 100000 in
set_option maxHeartbeats 4000000 in
theorem vcut_any {v : Value} {p : List Run} {B : Nat} {w : World} (hv : w.ownsRow B 40 3 v p.length (runs p)) (hp : 0 < p.length) (hl : p.length ≤ 1000) (hc : Chain p) :
    Calls Tryz.prog 113 #[v] w fun e w' => (∃ ao cap, e = .returned (.slice ao (downL p).length cap) ∧ w'.ownsRow B 40 3 (.slice ao (downL p).length cap) (downL p).length (runs (downL p))) ∧ Below B w w' := by
  obtain ⟨ao, cap, rfl⟩ : ∃ ao cap, v = .slice ao p.length cap := Sees.shape (Sees.own hv)
  obtain ⟨g, rfl⟩ : ∃ g, ao = some ⟨g, 0, none⟩ := by
    rcases hv.2 with ⟨_, h⟩ | ⟨g, c, cur, h, _⟩
    · omega
    · cases h; exact ⟨g, rfl⟩
  have hg : B ≤ g := by
    rcases hv.2 with ⟨_, h⟩ | ⟨g', c, cur, h, h2, _⟩
    · omega
    · cases h; exact h2
  obtain ⟨x, hx⟩ : ∃ x, p.getD (p.length - 1) zrun = x := ⟨_, rfl⟩
  have hone : Go.Proofs.YtmiepnnpccpicaaGreat.Place.One x := by rw [← hx]; exact chain_one hc (by omega)
  obtain ⟨n, hn⟩ : ∃ n, p.length = n := ⟨_, rfl⟩
  obtain ⟨k, rfl⟩ : ∃ k, n = k + 1 := ⟨n - 1, by omega⟩
  have hdl := down_len hp
  have hset := runs_last hp (m := x.m - 1) (by have := hone.2.2.2; omega)
  have hdn : downL p = p.take k ++ (if x.m = 1 then [] else [mkRun x.t x.r (x.m - 1)]) := by unfold downL; rw [hx, hn]; rfl
  rw [hx, hn] at hdl hset
  rw [Nat.add_sub_cancel] at hset hdl
  rw [hn] at hv
  have xm : w.cell? ⟨g, k * 3 + 2, none⟩ = some (.int .i64 x.m) := by
    rw [hv.cellAt (k * 3 + 2) (by omega), (runs_get p k (by omega)).2.2, show p.getD k zrun = x by rw [← hx, hn]; rfl]
  have xf : w.frozen? ⟨g, k * 3 + 2, none⟩ = false := hv.frozenAt _
  have h1 := hone.2.2.2.1
  have h2 := hone.2.2.2.2.1
  have hst := (hv.stored (k * 3 + 2) (.int .i64 (x.m - 1))).1
  rw [hset] at hst
  have BW : Hid (Below B w (w.setCell ⟨g, k * 3 + 2, none⟩ (.int .i64 (x.m - 1)))) := (Below.refl _ _).setCell (p := ⟨g, k * 3 + 2, none⟩) hg _
  have ym : (w.setCell ⟨g, k * 3 + 2, none⟩ (.int .i64 (x.m - 1))).cell? ⟨g, k * 3 + 2, none⟩ = some (.int .i64 (x.m - 1)) := by
    rw [hst.cellAt (k * 3 + 2) (by omega)]
    have e := (runs_get (p.take k ++ [mkRun x.t x.r (x.m - 1)]) k (by simp; omega)).2.2
    rw [e]
    have e3 : (p.take k ++ [mkRun x.t x.r (x.m - 1)]).getD k zrun = mkRun x.t x.r (x.m - 1) := by
      rw [List.getD_eq_getElem?_getD, List.getElem?_append_right (by rw [List.length_take]; omega), List.length_take, Nat.min_eq_left (by omega)]
      simp
    rw [e3, mkRun_m (by omega)]
  have OW : Hid ((w.setCell ⟨g, k * 3 + 2, none⟩ (.int .i64 (x.m - 1))).ownsRow B 40 3 (.slice (some ⟨g, 0, none⟩) (k + 1) cap) (k + 1) (runs (p.take k ++ [mkRun x.t x.r (x.m - 1)]))) := hst
  have hcap : k + 1 ≤ cap ∧ cap ≤ 9223372036854775807 := by
    have := (Sees.cap (Sees.own hv)).2
    exact ⟨this.1, this.2.1⟩
  have hk0 : ((k + 1 : Nat) : Int) - 1 = (k : Int) := by omega
  have e1 : ((k : Int) + 1) - 1 = (k : Int) := by omega
  have e2 : IntKind.i64.wrap (k : Int) = (k : Int) := IntWalk.i64_in _ (by omega)
  have w0 : (0 : Int) ≤ (k : Int) := by omega
  have w1 : (k : Int) < (k : Int) + 1 := by omega
  have w2 : (k : Int) ≤ (cap : Int) := by omega
  have e4 : IntKind.i64.wrap (x.m - 1) = x.m - 1 := IntWalk.i64_in _ (by omega)
  have hkp : k ≤ p.length := by omega
  obtain ⟨WX, hWX⟩ : ∃ W, w.setCell ⟨g, k * 3 + 2, none⟩ (.int .i64 (x.m - 1)) = W := ⟨_, rfl⟩
  rw [hWX] at OW BW ym
  obtain ⟨m, hm⟩ : ∃ m, x.m = m := ⟨_, rfl⟩
  rw [hm] at hdn hdl xm h1 h2 e4 OW ym hWX
  have HDN := Lib.hid hdn
  have HDL := Lib.hid hdl
  clear hdn hdl hset hst hone hv hl hc hx
  rw [hn]
  by_cases hm1 : m = 1
  · subst hm1
    have q : decide ((1 : Int) - 1 = 0) = true := by decide
    have L2 : Hid ((downL p).length = k) := by have := HDL.out; rwa [if_pos rfl] at this
    have OK : Hid (WX.ownsRow B 40 3 (.slice (some ⟨g, 0, none⟩) k cap) k (runs (downL p))) := by
      have h := own_less OW.out (Nat.le_succ k) (Nat.succ_pos k)
      rw [← runs_take _ _ (by simp; omega), List.take_append_of_le_length (by rw [List.length_take]; omega), List.take_take, Nat.min_self] at h
      unfold Hid
      rw [HDN.out, if_pos rfl, List.append_nil]
      exact h
    have hWX0 : w.setCell ⟨g, k * 3 + 2, none⟩ (.int .i64 0) = WX := hWX
    clear OW HDN HDL hm hn hWX
    go_enter Tryz.func113, Tryz.ntmps113
    go_wp2
    go_ret
    rw [L2.out]
    exact ⟨⟨_, _, rfl, OK.out⟩, BW.out⟩
  · have q : decide (m - 1 = 0) = false := decide_eq_false (by omega)
    have q0 : ¬ m - 1 = 0 := by omega
    have L2 : Hid ((downL p).length = k + 1) := by have := HDL.out; rwa [if_neg hm1] at this
    have OK : Hid (WX.ownsRow B 40 3 (.slice (some ⟨g, 0, none⟩) (k + 1) cap) (k + 1) (runs (downL p))) := by
      unfold Hid
      rw [HDN.out, if_neg hm1]
      exact OW.out
    clear OW HDN HDL hm hn
    go_enter Tryz.func113, Tryz.ntmps113
    go_wp2
    go_ret
    rw [L2.out]
    exact ⟨⟨_, _, rfl, OK.out⟩, BW.out⟩
theorem ZU (w : World) : (zeroValue 81).run Tryz.prog w = .ok (.agg #[]) w := by kernel_rfl
set_option maxRecDepth 100000 in
set_option maxHeartbeats 4000000 in
/-- What asking makes, called: is there an operation of a stamp? -/
theorem there_any {b n g : Nat} {S : Id → Bool} (a : Id) {w : World} (hs : SetI w b n S) (hc : w.cell? ⟨g, 0, none⟩ = some (.map (some b))) (hg : g < w.heap.size) :
    Calls Tryz.prog 133 #[.agg #[.int .u32 (a.t : Int), .int .u8 (a.r : Int)], .pointer (some ⟨g, 0, none⟩)] w fun e w' => e = .returned (.bool (S a)) ∧ Below w.heap.size w w' := by
  have B0 : Below w.heap.size w (w.alloc (.cells #[.int .u32 (a.t : Int), .int .u8 (a.r : Int)] 25)) := (Below.refl _ _).alloc (Nat.le_refl _) _
  obtain ⟨D, d1, d2⟩ := hs.keeps B0
  obtain ⟨v, ps, hrun, hv⟩ := d1.look_ok idLaw Tryz.underlying79 (ZU _) unitElem_mk (key_of a)
  obtain ⟨rfl, _⟩ := unitElem_inv hv
  rw [d2 a] at hrun
  unfold idv at hrun
  have c0 := (B0.cell (p := ⟨g, 0, none⟩) hg).trans hc
  have B1 : Hid (Below w.heap.size w ((w.alloc (.cells #[.int .u32 (a.t : Int), .int .u8 (a.r : Int)] 25)).alloc (.cells #[] 81))) := B0.alloc (by simp) _
  obtain ⟨q, hq⟩ : ∃ q, S a = q := ⟨_, rfl⟩
  rw [hq] at hrun ⊢
  clear hs hc d1 d2 hv B0 hq
  go_enter Tryz.func133, Tryz.ntmps133
  go_wp2
  go_ret
  exact ⟨rfl, B1.out⟩
theorem hasO_snoc {l : List Opn} {x : Opn} (a : Id) : hasO (l ++ [x]) a = (hasO l a || decide (idO x = a)) := by
  rw [Bool.eq_iff_iff, Bool.or_eq_true, hasO_iff, hasO_iff, decide_eq_true_iff]
  simp only [List.mem_append, List.mem_singleton]
  constructor
  · rintro ⟨o, h | rfl, e⟩
    · exact .inl ⟨o, h, e⟩
    · exact .inr e
  · rintro (⟨o, h, e⟩ | e)
    · exact ⟨o, .inl h, e⟩
    · exact ⟨x, .inr rfl, e⟩
set_option maxRecDepth 100000 in
set_option maxHeartbeats 4000000 in
theorem asking_any {v : Value} {l : List Opn} {w : World} (hv : OpL w v l) (hl : l.length ≤ 1024) :
    Calls Tryz.prog 110 #[v] w fun e w' => ∃ g b n, e = .returned (.func (.func 133) #[] #[.pointer (some ⟨g, 0, none⟩)]) ∧ g < w'.heap.size ∧ w'.cell? ⟨g, 0, none⟩ = some (.map (some b)) ∧ SetI w' b n (hasO l) ∧ Below w.heap.size w w' := by
  obtain ⟨ao, cap, rfl⟩ := hv.shape
  obtain ⟨n, hn⟩ : ∃ n, n = l.length := ⟨_, rfl⟩
  have HV : Hid (∀ W : World, Below w.heap.size w W → OpL W (.slice ao l.length cap) l) := fun W h => hv.keeps h
  have HN := Lib.hid hn
  rw [← hn] at hl ⊢
  have hmm := @run_makeMap Tryz.prog
  obtain ⟨wl, hwl⟩ : ∃ wl, (w.alloc (.map #[] 0)).alloc (.cells #[.map (some w.heap.size)] 79) = wl := ⟨_, rfl⟩
  have hsz : (w.alloc (.map #[] 0)).heap.size = w.heap.size + 1 := Array.size_push _
  have BA : Below (w.alloc (.map #[] 0)).heap.size (w.alloc (.map #[] 0)) wl := by rw [← hwl]; exact (Below.refl _ _).alloc (Nat.le_refl _) _
  have S0 : Hid (SetI wl w.heap.size 0 (hasO (l.take 0))) := by
    have h : SetI (w.alloc (.map #[] 0)) w.heap.size 0 (hasO (l.take 0)) := (SetI.made w).ext (fun a => by rw [List.take_zero]; rfl)
    exact h.keeps BA
  have X0 : Hid (wl.heap[w.heap.size + 1]? = some (.cells #[.map (some w.heap.size)] 79)) := by rw [← hwl]; exact blk_new hsz
  have B0 : Hid (Below w.heap.size w wl) := by rw [← hwl]; exact ((Below.refl _ _).alloc (Nat.le_refl _) _).alloc (by rw [hsz]; omega) _
  have HW := Lib.hid hwl
  clear hv hn hwl BA hsz
  go_enter Tryz.func110, Tryz.ntmps110
  go_wp2
  rw [HW.out]
  go_loopw [9] (fun i wr => ∃ j : Nat, j ≤ n ∧ i = .int .i64 (j : Int) ∧ Hid (SetI wr w.heap.size j (hasO (l.take j))) ∧ Hid (wr.heap[w.heap.size + 1]? = some (.cells #[.map (some w.heap.size)] 79)) ∧ Hid (Below w.heap.size w wr)) (fun i _ => n - (intOf i).toNat)
  case atStart => exact ⟨0, by omega, rfl, S0, X0, B0⟩
  case round =>
    clear S0 B0 X0 HW
    obtain ⟨j, hj, rfl, hset, hblk, hbel⟩ := hrel
    by_cases hjn : j < n
    rotate_left
    · have q3 : decide (j < n) = false := by simpa using hjn
      have hkk : l.take j = l := List.take_of_length_le (by have := HN.out; omega)
      rw [hkk] at hset
      have hsz : Hid (w.heap.size + 1 < wr.heap.size) := (Array.getElem?_eq_some_iff.1 hblk.out).1
      have hce : Hid (wr.cell? ⟨w.heap.size + 1, 0, none⟩ = some (.map (some w.heap.size))) := cell_of_row _ _ 0 _ _ _ hblk.out
      obtain rfl : j = n := by omega
      clear hkk
      go_wp2
      go_ret
      exact ⟨_, _, _, rfl, hsz.out, hce.out, hset.out, hbel.out⟩
    have q3 : decide (j < n) = true := by simpa using hjn
    have q4 : (0 : Int) ≤ (j : Int) := by omega
    have q5 : (j : Int) < (n : Int) := by omega
    have hjl : j < l.length := by rw [← HN.out]; exact hjn
    obtain ⟨bb, oo, u, e, hbb, hru, h0, h1, h2, h3, h4⟩ := opl_at (HV.out wr hbel.out) j hjl
    subst e
    obtain ⟨x, hx⟩ : ∃ x, x = l[j]'hjl := ⟨_, rfl⟩
    rw [← hx] at hru h0 h1 h2 h4
    have HSN : Hid (∀ a, hasO (l.take (j + 1)) a = (hasO (l.take j) a || decide (idO x = a))) := fun a => by rw [List.take_succ_eq_append_getElem hjl, hasO_snoc, hx]
    obtain ⟨uo, uc, rfl⟩ := hru.shape
    obtain ⟨nu, hnu⟩ : ∃ n, n = x.pl.length := ⟨_, rfl⟩
    rw [← hnu] at h3
    clear hru hx hnu
    obtain ⟨k, t, r, pl, p, hk, ht, hr, hp⟩ := x
    simp only at h0 h1 h2 h4
    have BL : Hid (Below wr.heap.size wr (wr.alloc (.cells #[.int .u8 (k : Int), .int .u32 (t : Int), .int .u8 (r : Int), .slice uo nu uc, .int .i64 p] 47))) := (Below.refl _ _).alloc (Nat.le_refl _) _
    have SL := Lib.hid (hset.out.keeps BL.out)
    have XL := Lib.hid (blk_below BL.out hblk.out)
    have BW := Lib.hid (bt hbel.out BL.out)
    have c0 := cell_of_row _ _ 0 _ _ _ XL.out
    clear hset hblk BL
    go_wp2_with (at_mapUpdate; refine wpList_put_set _ rfl _ _ _ 79 81 rfl Tryz.underlying79 w.heap.size j ⟨t, r, ht, hr⟩ (hasO (l.take j)) SL.out (by omega) rfl rfl rfl ?_)
    intro w3 s3 g3
    have S3 : Hid (SetI w3 w.heap.size (j + 1) (hasO (l.take (j + 1)))) := s3.ext (fun a => by
      rw [HSN.out a, Bool.or_comm]
      simp [eq_comm, idO])
    have X3 := Lib.hid (blk_grown g3 (by simp) XL.out)
    have B3 : Hid (Below w.heap.size w w3) := BW.out.grown g3 BW.out.size (fun i e => by cases e; exact Nat.le_refl _)
    clear s3 g3 SL XL BW c0
    go_wp2
    go_roundw
    case rel => exact ⟨j + 1, by omega, by go_num, S3, X3, B3⟩
    case measure => simp [intOf]; omega
set_option maxRecDepth 100000 in
set_option maxHeartbeats 4000000 in
theorem homes_any {va vb u th : Value} {F T : List Run} {o : Opn} {w : World} (ha : Runs w va F) (hb : Runs w vb T) (hu : Runs w u o.pl) (hth : ∃ f x y, th = .func f x y) :
    Calls Tryz.prog 112 #[.agg #[va, vb, th], opv o u] w fun e w' => e = .returned (.bool (homB F T o.pl)) ∧ Below w.heap.size w w' := by
  have C1 : Hid (∀ W : World, Below w.heap.size w W → Calls Tryz.prog 16 #[va, u] W fun e w' => e = .returned (.int .i64 (cmp F o.pl)) ∧ Below W.heap.size W w') := fun W h => pCompare_any (ha.keeps h) (hu.keeps h)
  have C2 : Hid (∀ W : World, Below w.heap.size w W → Calls Tryz.prog 16 #[u, vb] W fun e w' => e = .returned (.int .i64 (cmp o.pl T)) ∧ Below W.heap.size W w') := fun W h => pCompare_any (hu.keeps h) (hb.keeps h)
  obtain ⟨f1, f2, f3, rfl⟩ := hth
  obtain ⟨ao, ac, rfl⟩ := ha.shape
  obtain ⟨bo, bc, rfl⟩ := hb.shape
  obtain ⟨uo, uc, rfl⟩ := hu.shape
  have B0 : Hid (Below w.heap.size w ((w.alloc (.cells #[.slice ao F.length ac, .slice bo T.length bc, .func f1 f2 f3] 117)).alloc (.cells #[.int .u8 (o.k : Int), .int .u32 (o.t : Int), .int .u8 (o.r : Int), .slice uo o.pl.length uc, .int .i64 o.p] 47))) := ((Below.refl _ _).alloc (Nat.le_refl _) _).alloc (by simp) _
  have SK : Hid (∀ W : World, Below ((w.alloc (.cells #[.slice ao F.length ac, .slice bo T.length bc, .func f1 f2 f3] 117)).alloc (.cells #[.int .u8 (o.k : Int), .int .u32 (o.t : Int), .int .u8 (o.r : Int), .slice uo o.pl.length uc, .int .i64 o.p] 47)).heap.size ((w.alloc (.cells #[.slice ao F.length ac, .slice bo T.length bc, .func f1 f2 f3] 117)).alloc (.cells #[.int .u8 (o.k : Int), .int .u32 (o.t : Int), .int .u8 (o.r : Int), .slice uo o.pl.length uc, .int .i64 o.p] 47)) W →
      W.cell? ⟨w.heap.size, 1, none⟩ = some (.slice bo T.length bc) ∧ W.cell? ⟨w.heap.size + 1, 3, none⟩ = some (.slice uo o.pl.length uc)) := fun W h => by
    have g1 : W.heap[w.heap.size]? = some (.cells #[.slice ao F.length ac, .slice bo T.length bc, .func f1 f2 f3] 117) := blk_below h (blk_old (blk_new rfl))
    have g2 : W.heap[w.heap.size + 1]? = some (.cells #[.int .u8 (o.k : Int), .int .u32 (o.t : Int), .int .u8 (o.r : Int), .slice uo o.pl.length uc, .int .i64 o.p] 47) := blk_below h (blk_new (by simp))
    exact ⟨cell_of_row _ _ 1 _ _ _ g1, cell_of_row _ _ 3 _ _ _ g2⟩
  have HH : Hid (homB F T o.pl = (decide (cmp F o.pl ≤ 0) && (decide (T.length = 0) || decide (cmp o.pl T < 0)))) := rfl
  obtain ⟨z, hz⟩ : ∃ z, homB F T o.pl = z := ⟨_, rfl⟩
  rw [hz] at HH ⊢
  obtain ⟨c, hc⟩ : ∃ c, cmp F o.pl = c := ⟨_, rfl⟩
  obtain ⟨d, hd⟩ : ∃ c, cmp o.pl T = c := ⟨_, rfl⟩
  rw [hc] at C1 HH
  rw [hd] at C2 HH
  obtain ⟨nf, hnf⟩ : ∃ n, F.length = n := ⟨_, rfl⟩
  obtain ⟨nt, hnt⟩ : ∃ n, T.length = n := ⟨_, rfl⟩
  obtain ⟨nu, hnu⟩ : ∃ n, o.pl.length = n := ⟨_, rfl⟩
  rw [hnf] at C1 B0 SK ⊢
  rw [hnt] at C2 B0 SK HH ⊢
  rw [hnu] at C1 C2 B0 SK
  unfold opv
  rw [hnu]
  clear ha hb hu hz hc hd hnf hnt hnu
  obtain ⟨k, t, r, l, p, hk, ht, hr, hp⟩ := o
  simp only at B0 SK ⊢
  clear hk ht hr hp
  by_cases h1 : c ≤ 0
  rotate_left
  · have q1 : decide (c ≤ 0) = false := decide_eq_false h1
    obtain rfl : false = z := by rw [HH.out, q1]; rfl
    clear HH C2
    go_enter Tryz.func112, Tryz.ntmps112
    go_wp2_with fail
    refine (C1.out _ B0.out).mono ?_
    rintro e w1 ⟨rfl, b1⟩
    have B1 := Lib.hid (bt B0.out b1)
    clear b1 C1 B0 SK
    go_wp2
    go_ret
    exact ⟨rfl, B1.out⟩
  have q1 : decide (c ≤ 0) = true := decide_eq_true h1
  by_cases h2 : nt = 0
  · obtain rfl : true = z := by rw [HH.out, q1, decide_eq_true h2]; rfl
    subst h2
    clear HH C2
    go_enter Tryz.func112, Tryz.ntmps112
    go_wp2_with fail
    refine (C1.out _ B0.out).mono ?_
    rintro e w1 ⟨rfl, b1⟩
    obtain ⟨g1, g2⟩ := SK.out _ b1
    have B1 := Lib.hid (bt B0.out b1)
    clear b1 C1 B0 SK
    go_wp2
    go_ret
    exact ⟨rfl, B1.out⟩
  · have q2 : decide ((nt : Int) = 0) = false := decide_eq_false (by omega)
    have q3 : ((nt : Int) == 0) = false := by simp; omega
    have q4 : decide (nt = 0) = false := decide_eq_false h2
    obtain rfl : decide (d < 0) = z := by rw [HH.out, q1, q4]; simp
    clear HH h1
    go_enter Tryz.func112, Tryz.ntmps112
    go_wp2_with fail
    refine (C1.out _ B0.out).mono ?_
    rintro e w1 ⟨rfl, b1⟩
    obtain ⟨g1, g2⟩ := SK.out _ b1
    have B1 := Lib.hid (bt B0.out b1)
    clear b1 C1 B0 SK
    go_wp2_with fail
    refine (C2.out _ B1.out).mono ?_
    rintro e w2 ⟨rfl, b2⟩
    have B2 := Lib.hid (bt B1.out b2)
    clear b2 C2 B1
    go_wp2
    go_ret
    exact ⟨rfl, B2.out⟩
end Go.Proofs.YtmiepnnpccpicaaGreat.Covers

namespace Go.Proofs.YtmiepnnpccpicaaGreat.Covers
open Go.RowKit Go.WideShapes Stamp Go.Proofs.YtmiepnnpccpicaaGreat.Place Ops Codes Bags Marks Homes
attribute [local go_sem ↓] Go.wp_at_zero Go.wp_at_succ
attribute [local go_sem] yielded_undef
theorem nl_all : ∀ p : List Run, nl p = (all p).length
  | [] => rfl
  | x :: p => by
    show x.m.toNat + nl p = (up x.t x.r x.m.toNat ++ all p).length
    rw [List.length_append, up_len, nl_all p]
set_option maxRecDepth 100000 in
set_option maxHeartbeats 4000000 in
theorem counts_any {va vb u : Value} {l : List Opn} {s : Id} {o : Opn} {g b n0 : Nat} {w : World} (hE : spanE l s = 0) (ho : o ∈ l) (ha : Runs w va (fromL l s)) (hb : Runs w vb (toL l s)) (hu : Runs w u o.pl) (hs : SetI w b n0 (hasO l)) (hc : w.cell? ⟨g, 0, none⟩ = some (.map (some b))) (hg : g < w.heap.size) :
    Calls Tryz.prog 85 #[.agg #[va, vb, .func (.func 133) #[] #[.pointer (some ⟨g, 0, none⟩)]], opv o u] w fun e w' => e = .returned (.bool (homB (fromL l s) (toL l s) o.pl && isB l (livesM l l) s o)) ∧ Below w.heap.size w w' := by
  have hO := (spanE_zero.1 hE).1.2.1 o ho
  have hm := (mayO_parts hO).2.1
  have hM := (mayB_iff o.pl).1 hm
  have HM : Hid (∀ W : World, Below w.heap.size w W → Calls Tryz.prog 112 #[.agg #[va, vb, .func (.func 133) #[] #[.pointer (some ⟨g, 0, none⟩)]], opv o u] W fun e w' => e = .returned (.bool (homB (fromL l s) (toL l s) o.pl)) ∧ Below W.heap.size W w') := fun W h => homes_any (ha.keeps h) (hb.keeps h) (hu.keeps h) ⟨_, _, _, rfl⟩
  have TW : Hid (∀ W : World, Below w.heap.size w W → Calls Tryz.prog 83 #[u] W fun e w' => ∃ ao cap, e = .returned (.slice ao o.pl.length cap) ∧ w'.ownsRow W.heap.size 40 3 (.slice ao o.pl.length cap) o.pl.length (runs o.pl) ∧ Below W.heap.size W w') := fun W h => by
    refine (ptwin_any (hu.keeps h) (by have := hM.2.1; omega)).mono ?_
    rintro e w' ⟨v', rfl, h1, h2⟩
    obtain ⟨ao, cap, rfl⟩ : ∃ ao cap, v' = .slice ao o.pl.length cap := Sees.shape (Sees.own h1)
    exact ⟨ao, cap, rfl, h1, h2⟩
  have TR : Hid (∀ (W : World) (a : Id), Below w.heap.size w W → Calls Tryz.prog 133 #[.agg #[.int .u32 (a.t : Int), .int .u8 (a.r : Int)], .pointer (some ⟨g, 0, none⟩)] W fun e w' => e = .returned (.bool (hasO l a)) ∧ Below W.heap.size W w') := fun W a h => there_any a (hs.keeps h) ((h.cell (p := ⟨g, 0, none⟩) hg).trans hc) (Nat.lt_of_lt_of_le hg h.size)
  have CP : Hid (∀ (W : World) (v : Value) (P : List Run), Below w.heap.size w W → Runs W v P → Calls Tryz.prog 16 #[v, va] W fun e w' => e = .returned (.int .i64 (cmp P (fromL l s))) ∧ Below W.heap.size W w') := fun W v P h h2 => pCompare_any h2 (ha.keeps h)
  obtain ⟨N, hN⟩ : ∃ N, (all o.pl).length = N := ⟨_, rfl⟩
  have hcut : ∀ k, k < N → mayB (cutN o.pl (k + 1)) = true ∧ lastV (cutN o.pl (k + 1)) = ((((all o.pl).getD k zid).t : Int), (((all o.pl).getD k zid).r : Int)) ∧ cutN o.pl k = downL (cutN o.pl (k + 1)) ∧ nl (cutN o.pl (k + 1)) = k + 1 := fun k hk => by
    rw [← hN] at hk
    refine ⟨may_cutN hm (by omega), last_cutN hm hk, cut_down hm hk, ?_⟩
    rw [nl_all, all_cutN hM.2.2.1, List.length_take]
    omega
  have HC := Lib.hid hcut
  have hall : cutN o.pl N = o.pl := by rw [← hN]; exact cutN_all hM.2.2.1
  have OK0 : Hid (okN l s o N) := by rw [← hN]; exact ok_end l s o
  obtain ⟨z, hz⟩ : ∃ z, homB (fromL l s) (toL l s) o.pl = z := ⟨_, rfl⟩
  obtain ⟨q, hq⟩ : ∃ q, isB l (livesM l l) s o = q := ⟨_, rfl⟩
  have ZE : Hid (okN l s o 0 → q = true) := fun h => by rw [← hq]; exact ok_zero h
  have ZB : Hid (∀ k, okN l s o k → cmp (cutN o.pl k) (fromL l s) < 0 → q = true) := fun k h h2 => by rw [← hq]; exact ok_break hE ho h h2
  have ZN : Hid (z = true → ∀ k, k < N → ¬ cmp (cutN o.pl (k + 1)) (fromL l s) < 0 → hasO l ((all o.pl).getD k zid) = false → q = false) := fun h k h1 h2 h3 => by rw [← hq]; exact ok_no hE ho (hz.trans h) (by rw [hN]; exact h1) h2 h3
  have ZS : Hid (∀ k, okN l s o (k + 1) → hasO l ((all o.pl).getD k zid) = true → okN l s o k) := fun k h h2 => ok_step h h2
  have Z00 : Hid (cutN o.pl 0 = []) := cutN_zero _
  rw [hz] at HM ⊢
  rw [hq]
  obtain ⟨F, hF⟩ : ∃ F, fromL l s = F := ⟨_, rfl⟩
  obtain ⟨T, hT⟩ : ∃ F, toL l s = F := ⟨_, rfl⟩
  rw [hF] at ha CP ZB ZN
  rw [hT] at hb
  obtain ⟨C, hC⟩ : ∃ C, cutN o.pl = C := ⟨_, rfl⟩
  simp only [hC] at HC hall ZB ZN Z00
  obtain ⟨A, hA⟩ : ∃ A, (fun k => (all o.pl).getD k zid) = A := ⟨_, rfl⟩
  have hA' : ∀ k, (all o.pl).getD k zid = A k := fun k => by rw [← hA]
  simp only [hA'] at HC ZN ZS
  obtain ⟨ok, hok⟩ : ∃ ok, okN l s o = ok := ⟨_, rfl⟩
  simp only [hok] at OK0 ZE ZB ZS
  obtain ⟨ao, ac, rfl⟩ := ha.shape
  obtain ⟨bo, bc, rfl⟩ := hb.shape
  obtain ⟨uo, uc, rfl⟩ := hu.shape
  obtain ⟨nf, hnf⟩ : ∃ n, F.length = n := ⟨_, rfl⟩
  obtain ⟨nt, hnt⟩ : ∃ n, T.length = n := ⟨_, rfl⟩
  obtain ⟨nu, hnu⟩ : ∃ n, o.pl.length = n := ⟨_, rfl⟩
  have hnum : nu ≤ 64 := by rw [← hnu]; exact hM.2.1
  rw [hnf] at HM CP ⊢
  rw [hnt] at HM ⊢
  rw [hnu] at HM TW ⊢
  have R0 : Hid (nu = (C N).length) := by rw [hall, hnu]; exact rfl
  unfold opv at HM ⊢
  rw [show runs o.pl = runs (C N) by rw [hall]] at TW
  clear ha hb hu hs hc hE ho hO hm hM hN hcut hall hz hq hF hT hC hA hA' hok hnf hnt hnu hg
  obtain ⟨k, t, r, pl, p, hk, ht, hr, hp⟩ := o
  simp only at HM ⊢
  clear hk ht hr hp
  obtain ⟨wl, hwl⟩ : ∃ wl, (w.alloc (.cells #[.slice ao nf ac, .slice bo nt bc, .func (.func 133) #[] #[.pointer (some ⟨g, 0, none⟩)]] 117)).alloc (.cells #[.int .u8 (k : Int), .int .u32 (t : Int), .int .u8 (r : Int), .slice uo nu uc, .int .i64 p] 47) = wl := ⟨_, rfl⟩
  have hsz : wl.heap.size = w.heap.size + 2 := by rw [← hwl]; simp
  have B0 : Hid (Below w.heap.size w wl) := by rw [← hwl]; exact ((Below.refl _ _).alloc (Nat.le_refl _) _).alloc (by simp) _
  have SK : Hid (∀ W : World, Below wl.heap.size wl W → W.cell? ⟨w.heap.size, 0, none⟩ = some (.slice ao nf ac) ∧ W.cell? ⟨w.heap.size, 1, none⟩ = some (.slice bo nt bc) ∧ W.cell? ⟨w.heap.size, 2, none⟩ = some (.func (.func 133) #[] #[.pointer (some ⟨g, 0, none⟩)]) ∧ W.cell? ⟨w.heap.size + 1, 3, none⟩ = some (.slice uo nu uc)) := fun W h => by
    have g1 : W.heap[w.heap.size]? = some (.cells #[.slice ao nf ac, .slice bo nt bc, .func (.func 133) #[] #[.pointer (some ⟨g, 0, none⟩)]] 117) := blk_below h (by rw [← hwl]; exact blk_old (blk_new rfl))
    have g2 : W.heap[w.heap.size + 1]? = some (.cells #[.int .u8 (k : Int), .int .u32 (t : Int), .int .u8 (r : Int), .slice uo nu uc, .int .i64 p] 47) := blk_below h (by rw [← hwl]; exact blk_new (by simp))
    exact ⟨cell_of_row _ _ 0 _ _ _ g1, cell_of_row _ _ 1 _ _ _ g1, cell_of_row _ _ 2 _ _ _ g1, cell_of_row _ _ 3 _ _ _ g2⟩
  have BL : Hid (∀ W : World, Below wl.heap.size wl W → Below w.heap.size w W) := fun W h => bt B0.out h
  have HW := Lib.hid hwl
  have HSZ := Lib.hid hsz
  clear hwl hsz
  cases z
  · clear ZE ZB ZN ZS OK0 HC TW TR CP SK BL Z00 R0
    go_enter Tryz.func85, Tryz.ntmps85
    go_wp2
    refine wp_scope_straight ?_
    go_wp2_with fail
    rw [HW.out]
    refine (HM.out _ B0.out).mono ?_
    rintro e w1 ⟨rfl, b1⟩
    have B1 := Lib.hid (bt B0.out b1)
    clear b1 HM B0
    go_wp2
    (first | go_ret | (rw [Exit.noGoto_ret]; go_ret))
    exact ⟨rfl, B1.out⟩
  rw [Bool.true_and]
  have ZN2 := Lib.hid (ZN.out rfl)
  clear ZN
  go_enter Tryz.func85, Tryz.ntmps85
  go_wp2
  refine wp_scope_straight ?_
  go_wp2_with fail
  rw [HW.out]
  refine (HM.out _ B0.out).mono ?_
  rintro e w1 ⟨rfl, b1⟩
  have B1 := Lib.hid b1
  obtain ⟨c0, c1, c2, c3⟩ := SK.out _ b1
  clear b1 HM
  go_wp2_with fail
  refine (TW.out _ (BL.out _ B1.out)).mono ?_
  rintro e w2 ⟨ao2, ca2, rfl, o2, b2⟩
  have B2 := Lib.hid (bt B1.out b2)
  have O2 : Hid (w2.ownsRow wl.heap.size 40 3 (.slice ao2 nu ca2) nu (runs (C N))) := op_base o2 B1.out.size
  rw [R0.out] at O2 hnum ⊢
  clear b2 o2 TW B1 c0 c1 c2 c3 B0 HW R0
  go_wp2
  go_step3
  go_wp2
  go_loopw [5] (fun v wr => ∃ k ao cap, v = .slice ao (C k).length cap ∧ k ≤ N ∧ Hid (wr.ownsRow wl.heap.size 40 3 (.slice ao (C k).length cap) (C k).length (runs (C k))) ∧ Hid (ok k) ∧ (C k).length ≤ 64 ∧ Hid (Below wl.heap.size wl wr)) (fun v wr => totV wr v)
  case atStart => exact ⟨N, _, _, rfl, Nat.le_refl _, O2, OK0, hnum, B2⟩
  case round =>
    clear O2 OK0 hnum B2
    obtain ⟨k, ao2, ca2, rfl, hkN, hown, hok, hln, hbel⟩ := hrel
    cases k with
    | zero =>
      have hq := ZE.out hok.out
      have h0 : (C 0).length = 0 := by rw [Z00.out]; rfl
      rw [h0]
      subst hq
      clear hown hok hln ZB ZN2 ZS HC TR CP ZE Z00
      go_wp2
      (first | go_ret | (rw [Exit.noGoto_ret]; go_ret))
      exact ⟨rfl, BL.out _ hbel.out⟩
    | succ k =>
    obtain ⟨m1, m2, m3, m4⟩ := HC.out k (by omega)
    obtain ⟨hp1, hp2, hp3, _⟩ := (mayB_iff _).1 m1
    have ST := Lib.hid (ZS.out k hok.out)
    have NO := Lib.hid (ZN2.out k (by omega))
    have BR := Lib.hid (ZB.out (k + 1) hok.out)
    obtain ⟨P, hP⟩ : ∃ P, C (k + 1) = P := ⟨_, rfl⟩
    obtain ⟨a, ha⟩ : ∃ a, A k = a := ⟨_, rfl⟩
    rw [hP] at m1 m2 m3 m4 hp1 hp2 hp3 hown hln NO BR ⊢
    rw [ha] at m2 ST NO
    have HQL : Hid ((C k).length ≤ 64) := by
      unfold Hid
      have := down_len hp1
      rw [m3, this]
      split <;> omega
    have LS : Hid (∀ (W : World) (v : Value), Runs W v P → Calls Tryz.prog 73 #[v] W fun e w' => e = .returned (.agg #[.int .u32 (a.t : Int), .int .u8 (a.r : Int)]) ∧ Below W.heap.size W w') := fun W v h => by
      have := pLast_any h
      rwa [m2] at this
    have CU : Hid (∀ (W : World) (v : Value), W.ownsRow wl.heap.size 40 3 v P.length (runs P) → Calls Tryz.prog 113 #[v] W fun e w' => (∃ ao cap, e = .returned (.slice ao (C k).length cap) ∧ w'.ownsRow wl.heap.size 40 3 (.slice ao (C k).length cap) (C k).length (runs (C k))) ∧ Below wl.heap.size W w') := fun W v h => by
      have := vcut_any h hp1 (by omega) hp3
      rwa [← m3] at this
    have CC := Lib.hid (fun (W : World) (v : Value) h1 h2 => CP.out W v P h1 h2)
    have TT := Lib.hid (fun (W : World) h => TR.out W a h)
    have MS : Hid (totV wr (.slice ao2 P.length ca2) = k + 1) := (totV_runs (Runs.own hown.out)).trans m4
    have MS2 : Hid (∀ (W : World) (v : Value), W.ownsRow wl.heap.size 40 3 v (C k).length (runs (C k)) → totV W v = k) := fun W v h => by
      rw [totV_runs (Runs.own h)]
      cases k with
      | zero => rw [Z00.out]; rfl
      | succ k' => exact (HC.out k' (by omega)).2.2.2
    obtain ⟨c, hcc⟩ : ∃ c, cmp P F = c := ⟨_, rfl⟩
    simp only [hcc] at CC NO BR
    obtain ⟨hh, hhh⟩ : ∃ h, hasO l a = h := ⟨_, rfl⟩
    rw [hhh] at TT ST NO
    have RR : Hid (∀ W : World, Below wr.heap.size wr W → W.ownsRow wl.heap.size 40 3 (.slice ao2 P.length ca2) P.length (runs P)) := fun W h => own_stays hown.out h
    obtain ⟨n, hn⟩ : ∃ n, P.length = n := ⟨_, rfl⟩
    simp only [hn] at hown RR MS CU hp1 hp2 hln ⊢
    have HN := Lib.hid hn
    have t1 : decide ((0 : Int) < (n : Int)) = true := decide_eq_true (by omega)
    have t2 : decide (0 < n) = true := decide_eq_true hp1
    have s0 := SK.out _ hbel.out
    obtain ⟨c0, c1, c2, c3⟩ := s0
    clear ZB ZN2 ZS HC TR CP hok Z00 ZE m1 m2 m3 m4 hP ha hcc hhh hn hp3
    have D0 : Hid (∀ W : World, Below wr.heap.size wr W → Below w.heap.size w W) := fun W h => BL.out _ (bt hbel.out h)
    go_wp2_with fail
    refine (CC.out _ _ (D0.out _ (Below.refl _ _)) (by rw [← HN.out]; exact Runs.own (by rw [HN.out]; exact hown.out))).mono ?_
    rintro e w3 ⟨rfl, b3⟩
    have B3 := Lib.hid b3
    have KK : Hid (∀ W : World, Below w3.heap.size w3 W → Below w3.heap.size w3 W ∧ W.cell? ⟨w.heap.size, 2, none⟩ = some (.func (.func 133) #[] #[.pointer (some ⟨g, 0, none⟩)])) := fun W h => ⟨h, (SK.out W (bt hbel.out (bt B3.out h))).2.2.1⟩
    clear b3 CC c0 c1 c2 c3
    by_cases hlt : c < 0
    · have q1 : decide (c < 0) = true := decide_eq_true hlt
      have hq := BR.out hlt
      subst hq
      have BE := Lib.hid (BL.out _ (bt hbel.out B3.out))
      clear BR NO ST CU TT LS RR KK MS MS2 D0
      go_wp2
      (first | go_ret | (rw [Exit.noGoto_ret]; go_ret))
      exact ⟨rfl, BE.out⟩
    have q1 : decide (c < 0) = false := decide_eq_false hlt
    have NO2 := Lib.hid (NO.out (by first | exact hlt | omega))
    have LL : Hid (∀ W : World, Below wr.heap.size wr W → Calls Tryz.prog 73 #[.slice ao2 n ca2] W fun e w' => e = .returned (.agg #[.int .u32 (a.t : Int), .int .u8 (a.r : Int)]) ∧ Below W.heap.size W w') := fun W h => LS.out W _ (by rw [← HN.out]; exact Runs.own (by rw [HN.out]; exact RR.out W h))
    have TX : Hid (∀ W : World, Below w3.heap.size w3 W → Calls Tryz.prog 133 #[.agg #[.int .u32 (a.t : Int), .int .u8 (a.r : Int)], .pointer (some ⟨g, 0, none⟩)] W fun e w' => e = .returned (.bool hh) ∧ Below W.heap.size W w') := fun W h => TT.out W (D0.out W (bt B3.out h))
    have LX : Hid (∀ W : World, Below w3.heap.size w3 W → Calls Tryz.prog 73 #[.slice ao2 n ca2] W fun e w' => e = .returned (.agg #[.int .u32 (a.t : Int), .int .u8 (a.r : Int)]) ∧ Below W.heap.size W w') := fun W h => LL.out W (bt B3.out h)
    clear NO BR LS LL TT hlt
    go_wp2
    refine wp_region_held_drew (S := fun w' => Below w3.heap.size w3 w' ∧ w'.cell? ⟨w.heap.size, 2, none⟩ = some (.func (.func 133) #[] #[.pointer (some ⟨g, 0, none⟩)])) (by kernel_rfl) (KK.out _ (drew1 _)) (fun hHeld => ?_)
    refine rN 0 ?_
    refine rN 1 ?_
    refine rN 2 ?_
    refine wpAnyH_ready (rs := [3]) (by kernel_rfl) (by simp) ?_
    refine AllReadyH.cons rfl (fun K hK => ?_) ?za3
    case za3 => exact AllReadyH.nil
    go_simp
    refine (LX.out _ hHeld.1).mono ?_
    rintro e w9a3 ⟨rfl, b9⟩
    refine hK.out _ _ (KK.out _ (bt hHeld.1 b9)) (fun hNew => ?_)
    clear hHeld
    have hHeld := hNew
    clear hNew hK K
    refine rX ?_
    refine wpAnyH_ready (rs := [4]) (by kernel_rfl) (by simp) ?_
    refine AllReadyH.cons rfl (fun K hK => ?_) ?za4
    case za4 => exact AllReadyH.nil
    go_simp
    refine (TX.out _ hHeld.1).mono ?_
    rintro e w9a4 ⟨rfl, b9⟩
    refine hK.out _ _ (KK.out _ (bt hHeld.1 b9)) (fun hNew => ?_)
    clear hHeld
    have hHeld := hNew
    clear hNew hK K
    refine rX ?_
    refine rN 5 ?_
    refine rN 6 ?_
    refine wpAnyH_done (by kernel_rfl) ?_ _
    have b4 := hHeld.1
    have B4 := Lib.hid (bt B3.out b4)
    clear b4 hHeld KK LX TX
    cases hh
    · have hq := NO2.out rfl
      subst hq
      have BE := Lib.hid (BL.out _ (bt hbel.out B4.out))
      clear NO2 ST CU RR MS MS2 D0 B3
      go_wp2
      (first | go_ret | (rw [Exit.noGoto_ret]; go_ret))
      exact ⟨rfl, BE.out⟩
    have OKK := Lib.hid (ST.out rfl)
    have CX := Lib.hid (CU.out _ _ (RR.out _ B4.out))
    clear NO2 ST CU RR D0 B3
    go_wp2_with fail
    refine CX.out.mono ?_
    rintro e w6 ⟨⟨ao6, ca6, rfl, o6⟩, b6⟩
    have O6 := Lib.hid o6
    have B6 : Hid (Below wl.heap.size wl w6) := (bt hbel.out B4.out).trans b6
    have M6 := Lib.hid (MS2.out _ _ o6)
    clear o6 b6 CX B4 MS2
    go_wp2
    go_roundw
    case rel => exact ⟨k, _, _, rfl, by omega, O6, OKK, HQL.out, B6⟩
    case measure =>
      have h1 := MS.out
      have h2 := M6.out
      first | omega | (rw [h1, h2]; omega) | (simp only [h1, h2]; omega)
end Go.Proofs.YtmiepnnpccpicaaGreat.Covers

namespace Go.Proofs.YtmiepnnpccpicaaGreat.Srt
open Go.RowKit
attribute [local go_sem ↓] Go.wp_at_zero Go.wp_at_succ
/-- k is how many binary digits x has. -/
def Dig (x k : Nat) : Prop := k ≤ 11 ∧ x < 2 ^ k ∧ (1 ≤ x → 2 ^ k ≤ 2 * x)
instance (x k : Nat) : Decidable (Dig x k) := inferInstanceAs (Decidable (_ ∧ _ ∧ _))
end Go.Proofs.YtmiepnnpccpicaaGreat.Srt

namespace Go.Proofs.YtmiepnnpccpicaaGreat.Covers
open Go.RowKit Go.WideShapes Stamp Go.Proofs.YtmiepnnpccpicaaGreat.Place Ops Codes Bags Marks Homes
attribute [local go_sem ↓] Go.wp_at_zero Go.wp_at_succ
attribute [local go_sem] yielded_undef
/-- What a choice answers, asked of content of the bag. -/
def Asks (f : Nat) (l : List Opn) (s : Id) (Q : Opn → Bool) : Prop := ∀ (W : World) (va vb u : Value) (g b n : Nat) (o : Opn), o ∈ l → Runs W va (fromL l s) → Runs W vb (toL l s) → Runs W u o.pl → SetI W b n (hasO l) → W.cell? ⟨g, 0, none⟩ = some (.map (some b)) → g < W.heap.size →
  Calls Tryz.prog f #[.agg #[va, vb, .func (.func 133) #[] #[.pointer (some ⟨g, 0, none⟩)]], opv o u] W fun e w' => e = .returned (.bool (Q o)) ∧ Below W.heap.size W w'
set_option maxRecDepth 100000 in
set_option maxHeartbeats 8000000 in
theorem chosen_any {v0 : Value} {l : List Opn} (s : Id) (f : Nat) (eg : ∀ args w, (callFunc f args).run Tryz.prog w = .ok (.enter f args) w) (Q : Opn → Bool) {w : World} (hv : OpL w v0 l) (hQ : spanE l s = 0 → Asks f l s Q) :
    Calls Tryz.prog 84 #[v0, .agg #[.int .u32 (s.t : Int), .int .u8 (s.r : Int)], .func (.func f) #[] #[]] w (DoneN (if spanE l s = 0 then l.filter (fun o => contB o && Q o) else []) (spanE l s) w) := by
  obtain ⟨ao, cap, rfl⟩ := hv.shape
  obtain ⟨n, hn⟩ : ∃ n, n = l.length := ⟨_, rfl⟩
  have HV : Hid (∀ W : World, Below w.heap.size w W → OpL W (.slice ao l.length cap) l) := fun W h => hv.keeps h
  have HN := Lib.hid hn
  have B0 : Hid (Below w.heap.size w (w.alloc (.cells #[.int .u32 (s.t : Int), .int .u8 (s.r : Int)] 25))) := (Below.refl _ _).alloc (Nat.le_refl _) _
  have SP : Hid (Calls Tryz.prog 109 #[.slice ao n cap, .agg #[.int .u32 (s.t : Int), .int .u8 (s.r : Int)]] (w.alloc (.cells #[.int .u32 (s.t : Int), .int .u8 (s.r : Int)] 25)) (TwoR (fromL l s) (toL l s) (spanE l s) (w.alloc (.cells #[.int .u32 (s.t : Int), .int .u8 (s.r : Int)] 25)))) := by
    have := hSpan_any s (hv.keeps B0.out)
    rwa [← hn] at this
  have hcs := spanE_cases l s
  by_cases hE : spanE l s = 0
  rotate_left
  · obtain ⟨c, hc⟩ : ∃ c, spanE l s = c := ⟨_, rfl⟩
    rw [hc] at hE hcs SP ⊢
    rw [if_neg hE, ← hn]
    have q1 : (c != 0) = true := by simpa using hE
    have q2 : decide (c = 0) = false := decide_eq_false hE
    obtain ⟨st, sr, hst, hsr⟩ := s
    simp only at SP B0 ⊢
    clear hv hn HV HN hcs hQ hc
    go_enter Tryz.func84, Tryz.ntmps84
    go_wp2_with fail
    refine SP.out.mono ?_
    rintro e w1 ⟨va, vb, rfl, h1, h2, b1⟩
    have B1 := Lib.hid (bt B0.out b1)
    clear h1 h2 b1 SP B0
    go_wp2
    go_ret2
    exact ⟨_, rfl, OwnL.nil _ _, B1.out⟩
  have hbag := (spanE_zero.1 hE).1
  have ASK : Hid (Asks f l s Q) := hQ hE
  rw [if_pos hE]
  rw [hE] at SP ⊢
  have hnm : n ≤ 1024 := by rw [hn]; exact hbag.1
  have HP : Hid (∀ o ∈ l, o.pl.length ≤ 8796093022208) := (bag_fits hbag).2
  have AS : Hid (∀ W : World, Below w.heap.size w W → Calls Tryz.prog 110 #[.slice ao n cap] W fun e w' => ∃ g b n, e = .returned (.func (.func 133) #[] #[.pointer (some ⟨g, 0, none⟩)]) ∧ g < w'.heap.size ∧ w'.cell? ⟨g, 0, none⟩ = some (.map (some b)) ∧ SetI w' b n (hasO l) ∧ Below W.heap.size W w') := fun W h => by
    have := asking_any (hv.keeps h) hbag.1
    rwa [← hn] at this
  rw [← hn]
  obtain ⟨st, sr, hst, hsr⟩ := s
  simp only at SP B0 ⊢
  obtain ⟨F, hF⟩ : ∃ F, fromL l ⟨st, sr, hst, hsr⟩ = F := ⟨_, rfl⟩
  obtain ⟨T, hT⟩ : ∃ T, toL l ⟨st, sr, hst, hsr⟩ = T := ⟨_, rfl⟩
  have AK : Hid (∀ (W : World) (va vb u : Value) (g b n : Nat) (o : Opn), o ∈ l → Runs W va F → Runs W vb T → Runs W u o.pl → SetI W b n (hasO l) → W.cell? ⟨g, 0, none⟩ = some (.map (some b)) → g < W.heap.size →
      Calls Tryz.prog f #[.agg #[va, vb, .func (.func 133) #[] #[.pointer (some ⟨g, 0, none⟩)]], opv o u] W fun e w' => e = .returned (.bool (Q o)) ∧ Below W.heap.size W w') := by
    have := ASK.out
    unfold Asks at this
    rw [hF, hT] at this
    exact this
  rw [hF, hT] at SP
  clear hv hn hcs hQ hbag ASK hE hF hT
  go_enter Tryz.func84, Tryz.ntmps84
  go_wp2_with fail
  refine SP.out.mono ?_
  rintro e w1 ⟨va, vb, rfl, h1, h2, b1⟩
  have R1 : Hid (Runs w1 va F) := Runs.own h1
  have R2 : Hid (Runs w1 vb T) := Runs.own h2
  obtain ⟨fo, fc, rfl⟩ := Runs.shape R1.out
  obtain ⟨to', tc, rfl⟩ := Runs.shape R2.out
  obtain ⟨nf, hnf⟩ : ∃ n, F.length = n := ⟨_, rfl⟩
  obtain ⟨nt, hnt⟩ : ∃ n, T.length = n := ⟨_, rfl⟩
  rw [hnf] at R1 ⊢
  rw [hnt] at R2 ⊢
  have B1 := Lib.hid (bt B0.out b1)
  clear h1 h2 b1 SP B0 hnf hnt
  go_wp2_with fail
  refine (AS.out _ B1.out).mono ?_
  rintro e w2 ⟨g, b, n0, rfl, hg, hc, hs, b2⟩
  have R3 := Lib.hid (R1.out.keeps b2)
  have R4 := Lib.hid (R2.out.keeps b2)
  have B2 := Lib.hid (bt B1.out b2)
  obtain ⟨wm, hwm⟩ : ∃ wm, w2.alloc (.cells #[.slice fo nf fc, .slice to' nt tc, .func (.func 133) #[] #[.pointer (some ⟨g, 0, none⟩)]] 117) = wm := ⟨_, rfl⟩
  have BM : Hid (Below w2.heap.size w2 wm) := by rw [← hwm]; exact (Below.refl _ _).alloc (Nat.le_refl _) _
  have XM : Hid (wm.heap[w2.heap.size]? = some (.cells #[.slice fo nf fc, .slice to' nt tc, .func (.func 133) #[] #[.pointer (some ⟨g, 0, none⟩)]] 117)) := by rw [← hwm]; exact blk_new rfl
  have HWM := Lib.hid hwm
  have S0 : Hid (SetI wm b n0 (hasO l)) := hs.keeps BM.out
  have C0 : Hid (wm.cell? ⟨g, 0, none⟩ = some (.map (some b))) := (BM.out.cell (p := ⟨g, 0, none⟩) hg).trans hc
  have G0 : Hid (g < wm.heap.size) := Nat.lt_of_lt_of_le hg BM.out.size
  have AX : Hid (∀ (W : World) (u : Value) (o : Opn), Below wm.heap.size wm W → o ∈ l → Runs W u o.pl → Calls Tryz.prog f #[.agg #[.slice fo nf fc, .slice to' nt tc, .func (.func 133) #[] #[.pointer (some ⟨g, 0, none⟩)]], opv o u] W fun e w' => e = .returned (.bool (Q o)) ∧ Below W.heap.size W w') := fun W u o h1 h2 h3 =>
    AK.out W _ _ u g b n0 o h2 (R3.out.keeps (bt BM.out h1)) (R4.out.keeps (bt BM.out h1)) h3 (S0.out.keeps h1) ((h1.cell (p := ⟨g, 0, none⟩) G0.out).trans C0.out) (Nat.lt_of_lt_of_le G0.out h1.size)
  have B3 : Hid (Below w.heap.size w wm) := bt B2.out BM.out
  have HZ : Hid (w2.heap.size < wm.heap.size) := (Array.getElem?_eq_some_iff.1 XM.out).1
  have L2 : Hid (OwnL wm wm.heap.size (.slice none 0 0) ((l.take 0).filter (fun o => contB o && Q o))) := OwnL.nil _ _
  have M2 : Hid (0 = ((l.take 0).filter (fun o => contB o && Q o)).length) := rfl
  have Z2 : Hid (Below wm.heap.size wm wm) := Below.refl _ _
  clear b2 hg hc hs hwm R1 R2 R3 R4 B1 B2 S0 C0 G0 AK AS BM
  go_wp2
  rw [HWM.out]
  go_loopw [12, 32] (fun v i wr => ∃ j m : Nat, j ≤ n ∧ i = .int .i64 (j : Int) ∧ m ≤ j ∧ (∃ ao cap, v = .slice ao m cap) ∧ Hid (m = ((l.take j).filter (fun o => contB o && Q o)).length) ∧ Hid (OwnL wr wm.heap.size v ((l.take j).filter (fun o => contB o && Q o))) ∧ Hid (Below wm.heap.size wm wr)) (fun _ i _ => n - (intOf i).toNat)
  case atStart => exact ⟨0, 0, by omega, rfl, by omega, ⟨none, 0, rfl⟩, M2, L2, Z2⟩
  case round =>
    clear M2 L2 Z2 HWM
    obtain ⟨j, m, hj, rfl, hmj, ⟨aoL, capL, rfl⟩, HM, hown, hbm⟩ := hrel
    have hbel : Hid (Below w.heap.size w wr) := bt B3.out hbm.out
    by_cases hjn : j < n
    rotate_left
    · have q3 : decide (j < n) = false := by simpa using hjn
      have hkk : l.take j = l := List.take_of_length_le (by have := HN.out; omega)
      rw [hkk] at hown
      clear hkk
      go_wp2
      go_ret2
      exact ⟨_, rfl, hown.out.base B3.out.size, hbel.out⟩
    have q3 : decide (j < n) = true := by simpa using hjn
    have q4 : (0 : Int) ≤ (j : Int) := by omega
    have q5 : (j : Int) < (n : Int) := by omega
    have hjl : j < l.length := by rw [← HN.out]; exact hjn
    obtain ⟨bb, oo, u, e, hbb, hru, h0, h1, h2, h3, h4⟩ := opl_at (HV.out wr hbel.out) j hjl
    subst e
    obtain ⟨x, hx⟩ : ∃ x, x = l[j]'hjl := ⟨_, rfl⟩
    rw [← hx] at hru h0 h1 h2 h4
    have HO : Hid (∀ v : Value, opv x v = .agg #[.int .u8 (x.k : Int), .int .u32 (x.t : Int), .int .u8 (x.r : Int), v, .int .i64 x.p]) := fun v => rfl
    obtain ⟨uo, uc, rfl⟩ := hru.shape
    obtain ⟨nu, hnu⟩ : ∃ n, n = x.pl.length := ⟨_, rfl⟩
    have HNU := Lib.hid hnu
    rw [← hnu] at hru h3
    clear hnu
    have hxl : x ∈ l := by rw [hx]; exact List.getElem_mem hjl
    have hpx : x.pl.length ≤ 8796093022208 := HP.out x hxl
    have FT : Hid ((l.take (j + 1)).filter (fun o => contB o && Q o) = (l.take j).filter (fun o => contB o && Q o) ++ (if (contB x && Q x) = true then [x] else [])) := by
      unfold Hid
      rw [List.take_succ_eq_append_getElem hjl, List.filter_append, hx]
      congr 1
      simp [List.filter_cons]
    obtain ⟨L, hL⟩ : ∃ z, (l.take j).filter (fun o => contB o && Q o) = z := ⟨_, rfl⟩
    rw [hL] at HM hown FT
    have CO : Hid (∀ W : World, Calls Tryz.prog 111 #[opv x (.slice uo nu uc)] W fun e w' => e = .returned (.bool (contB x)) ∧ Below W.heap.size W w') := fun W => oContent_any W
    have CH : Hid (∀ W : World, Below wr.heap.size wr W → Calls Tryz.prog f #[.agg #[.slice fo nf fc, .slice to' nt tc, .func (.func 133) #[] #[.pointer (some ⟨g, 0, none⟩)]], opv x (.slice uo nu uc)] W fun e w' => e = .returned (.bool (Q x)) ∧ Below W.heap.size W w') := fun W h => AX.out W _ x (bt hbm.out h) hxl (by rw [HNU.out]; rw [HNU.out] at hru; exact hru.keeps h)
    have TW : Hid (∀ W : World, Below wr.heap.size wr W → Calls Tryz.prog 42 #[opv x (.slice uo nu uc)] W fun e w' => ∃ ao cap, e = .returned (opv x (.slice ao nu cap)) ∧ w'.ownsRow wm.heap.size 40 3 (.slice ao nu cap) x.pl.length (runs x.pl) ∧ Below W.heap.size W w') := fun W hW => by
      refine (oTwin_any (hru.keeps hW) hpx).mono ?_
      rintro e w' ⟨v', rfl, ho, hb⟩
      obtain ⟨ao', cap', rfl⟩ : ∃ ao cap, v' = .slice ao x.pl.length cap := Sees.shape (Sees.own ho)
      rw [← HNU.out] at ho ⊢
      exact ⟨ao', cap', rfl, op_base ho (Nat.le_trans hbm.out.size hW.size), hb⟩
    clear hx hru hpx hL hxl
    obtain ⟨k, hk⟩ : ∃ z, x.k = z := ⟨_, rfl⟩
    obtain ⟨t, ht⟩ : ∃ z, x.t = z := ⟨_, rfl⟩
    obtain ⟨r, hr⟩ : ∃ z, x.r = z := ⟨_, rfl⟩
    obtain ⟨p, hp⟩ : ∃ z, x.p = z := ⟨_, rfl⟩
    rw [hk, ht, hr, hp] at HO
    rw [hk] at h0
    rw [ht] at h1
    rw [hr] at h2
    rw [hp] at h4
    simp only [HO.out] at TW CO CH
    have HFV : Hid (∀ v : Value, [.int .u8 (k : Int), .int .u32 (t : Int), .int .u8 (r : Int), v, .int .i64 p] = [Value.int .u8 (x.k : Int), .int .u32 (x.t : Int), .int .u8 (x.r : Int), v, .int .i64 x.p]) := fun v => by rw [hk, ht, hr, hp]
    obtain ⟨qc, hqc⟩ : ∃ q, contB x = q := ⟨_, rfl⟩
    rw [hqc] at CO FT
    obtain ⟨q, hq⟩ : ∃ q, Q x = q := ⟨_, rfl⟩
    rw [hq] at CH FT
    have BL : Hid (Below wr.heap.size wr (wr.alloc (.cells #[.int .u8 (k : Int), .int .u32 (t : Int), .int .u8 (r : Int), .slice uo nu uc, .int .i64 p] 47))) := (Below.refl _ _).alloc (Nat.le_refl _) _
    have SK : Hid (∀ W : World, Below (wr.alloc (.cells #[.int .u8 (k : Int), .int .u32 (t : Int), .int .u8 (r : Int), .slice uo nu uc, .int .i64 p] 47)).heap.size (wr.alloc (.cells #[.int .u8 (k : Int), .int .u32 (t : Int), .int .u8 (r : Int), .slice uo nu uc, .int .i64 p] 47)) W → (W.cell? ⟨wr.heap.size, 0, none⟩ = some (.int .u8 (k : Int)) ∧ W.cell? ⟨wr.heap.size, 1, none⟩ = some (.int .u32 (t : Int)) ∧ W.cell? ⟨wr.heap.size, 2, none⟩ = some (.int .u8 (r : Int)) ∧ W.cell? ⟨wr.heap.size, 3, none⟩ = some (.slice uo nu uc) ∧ W.cell? ⟨wr.heap.size, 4, none⟩ = some (.int .i64 p)) ∧ W.cell? ⟨w2.heap.size, 0, none⟩ = some (.slice fo nf fc) ∧ W.cell? ⟨w2.heap.size, 1, none⟩ = some (.slice to' nt tc) ∧ W.cell? ⟨w2.heap.size, 2, none⟩ = some (.func (.func 133) #[] #[.pointer (some ⟨g, 0, none⟩)])) := fun W h => by
      have g1 := blk_below h (blk_below BL.out (blk_below hbm.out XM.out))
      exact ⟨five_cells h, cell_of_row _ _ 0 _ _ _ g1, cell_of_row _ _ 1 _ _ _ g1, cell_of_row _ _ 2 _ _ _ g1⟩
    clear hk ht hr hp HO hqc hq
    cases qc
    · have FT2 : Hid ((l.take (j + 1)).filter (fun o => contB o && Q o) = L) := by unfold Hid; rw [FT.out]; simp
      clear FT TW HFV SK CH
      go_wp2_with fail
      refine (CO.out _).mono ?_
      rintro e w5 ⟨rfl, b5⟩
      have B5 := Lib.hid (bt BL.out b5)
      clear b5
      have L5 := Lib.hid (hown.out.keeps B5.out)
      have B6 := Lib.hid (bt hbm.out B5.out)
      rw [← FT2.out] at L5 HM
      clear hown
      go_wp2
      go_roundw
      case rel => exact ⟨j + 1, m, by omega, by go_num, by omega, ⟨aoL, capL, rfl⟩, HM, L5, B6⟩
      case measure => simp [intOf]; omega
    cases q
    · have FT2 : Hid ((l.take (j + 1)).filter (fun o => contB o && Q o) = L) := by unfold Hid; rw [FT.out]; simp
      clear FT TW HFV
      go_wp2_with fail
      refine (CO.out _).mono ?_
      rintro e w4 ⟨rfl, b4⟩
      have B4 := Lib.hid (bt BL.out b4)
      obtain ⟨⟨g0, g1, g2, g3, g4⟩, f0, f1, f2⟩ := SK.out _ b4
      clear b4 SK h0 h1 h2 h3 h4
      go_wp2_with fail
      refine (CH.out _ B4.out).mono ?_
      rintro e w5 ⟨rfl, b5⟩
      have B5 := Lib.hid (bt B4.out b5)
      clear b5 g0 g1 g2 g3 g4 f0 f1 f2
      have L5 := Lib.hid (hown.out.keeps B5.out)
      have B6 := Lib.hid (bt hbm.out B5.out)
      rw [← FT2.out] at L5 HM
      clear hown
      go_wp2
      go_roundw
      case rel => exact ⟨j + 1, m, by omega, by go_num, by omega, ⟨aoL, capL, rfl⟩, HM, L5, B6⟩
      case measure => simp [intOf]; omega
    have FT2 : Hid ((l.take (j + 1)).filter (fun o => contB o && Q o) = L ++ [x]) := by unfold Hid; rw [FT.out]; simp
    clear FT
    go_wp2_with fail
    refine (CO.out _).mono ?_
    rintro e w3 ⟨rfl, b3⟩
    have B3' := Lib.hid (bt BL.out b3)
    have BX3 := Lib.hid b3
    obtain ⟨⟨g0, g1, g2, g3, g4⟩, f0, f1, f2⟩ := SK.out _ b3
    clear b3 h0 h1 h2 h3 h4
    go_wp2_with fail
    refine (CH.out _ B3'.out).mono ?_
    rintro e w4 ⟨rfl, b4⟩
    have B4 := Lib.hid (bt B3'.out b4)
    clear g0 g1 g2 g3 g4 f0 f1 f2
    obtain ⟨⟨g0, g1, g2, g3, g4⟩, f0, f1, f2⟩ := SK.out _ (bt BX3.out b4)
    clear b4 SK f0 f1 f2 BX3 B3'
    go_wp2_with fail
    refine (TW.out _ B4.out).mono ?_
    rintro e w5 ⟨aoO, capO, rfl, o5, b5⟩
    have B5 := Lib.hid (bt B4.out b5)
    have BW5 := Lib.hid (bt hbel.out B5.out)
    have BM5 := Lib.hid (bt hbm.out B5.out)
    have LL := Lib.hid (hown.out.keeps B5.out)
    obtain ⟨cs, lo, lh⟩ := LL.out
    rw [← HM.out] at lo
    have LO := Lib.hid lo
    have LH := Lib.hid lh
    have PO : Hid (w5.ownsRow wm.heap.size 40 3 (.slice aoO nu capO) x.pl.length (runs x.pl)) := o5
    have SE : Hid (Sees (w5.alloc (.cells #[.int .u8 (k : Int), .int .u32 (t : Int), .int .u8 (r : Int), .slice aoO nu capO, .int .i64 p] 47)) (.slice (some ⟨w5.heap.size, 0, none⟩) 1 1) 5 1 [.int .u8 (k : Int), .int .u32 (t : Int), .int .u8 (r : Int), .slice aoO nu capO, .int .i64 p]) := sees_new w5 [.int .u8 (k : Int), .int .u32 (t : Int), .int .u8 (r : Int), .slice aoO nu capO, .int .i64 p] 5 1 rfl (by omega) 47 (0, 0)
    have OA : Hid ((w5.alloc (.cells #[.int .u8 (k : Int), .int .u32 (t : Int), .int .u8 (r : Int), .slice aoO nu capO, .int .i64 p] 47)).ownsRow wm.heap.size 47 5 (.slice aoL m capL) m cs) := own_stays LO.out ((Below.refl _ _).alloc (Nat.le_refl _) _)
    have FO2 : Hid (∀ z ∈ ([.int .u8 (k : Int), .int .u32 (t : Int), .int .u8 (r : Int), .slice aoO nu capO, .int .i64 p] : List Value), z.oneCell' = true) := by unfold Hid; rw [HFV.out]; exact five_one x _ ⟨_, _, _, rfl⟩
    have bz : Hid (wm.heap.size ≤ (w5.alloc (.cells #[.int .u8 (k : Int), .int .u32 (t : Int), .int .u8 (r : Int), .slice aoO nu capO, .int .i64 p] 47)).heap.size) := by have := BM5.out.size; unfold Hid; simp; omega
    clear o5 b5 lo lh hown hbel LL g0 g1 g2 g3 g4
    go_wp2_with (at_builtin; refine wpList_append_sees rfl (.tmp 44) (.tmp 47) 22 47 rfl Tryz.underlying22 op_info rfl (by decide) wm.heap.size _ m cs rfl OA.out _ 1 [.int .u8 (k : Int), .int .u32 (t : Int), .int .u8 (r : Int), .slice aoO nu capO, .int .i64 p] rfl SE.out FO2.out ?k1 ?k2 ?k3 ?_)
    case k1 => omega
    case k2 => omega
    case k3 => exact bz.out
    rintro v6 w6 o6 g6 b6
    have L6 : Hid (OwnL w6 wm.heap.size v6 ((l.take (j + 1)).filter (fun o => contB o && Q o))) := by
      have lo2 := LO.out
      have o7 := o6
      rw [HFV.out] at o7
      have po := own_stays PO.out ((Below.refl _ _).alloc (Nat.le_refl _) (.cells #[.int .u8 (k : Int), .int .u32 (t : Int), .int .u8 (r : Int), .slice aoO nu capO, .int .i64 p] 47))
      have gx := g6
      unfold Hid
      rw [FT2.out]
      rw [HM.out] at lo2 gx
      refine OwnL.snoc (W := w5) (W8 := w5.alloc (.cells #[.int .u8 (k : Int), .int .u32 (t : Int), .int .u8 (r : Int), .slice aoO nu capO, .int .i64 p] 47)) (m := m + 1) lo2 LH.out ((Below.refl _ _).alloc (Nat.le_refl _) _) po gx o7 (by rw [HM.out])
    have M6 : Hid (m + 1 = ((l.take (j + 1)).filter (fun o => contB o && Q o)).length) := by unfold Hid; rw [FT2.out, List.length_append, ← HM.out]; rfl
    have B6 : Hid (Below wm.heap.size wm w6) := (BM5.out.alloc BM5.out.size _).trans b6
    obtain ⟨va, vc, rfl⟩ : ∃ ao cap, v6 = .slice ao (m + 1) cap := Sees.shape (Sees.own o6)
    clear o6 g6 b6 OA SE LO LH PO bz
    go_wp2
    go_roundw
    case rel => exact ⟨j + 1, m + 1, by omega, by go_num, by omega, ⟨va, vc, rfl⟩, M6, L6, B6⟩
    case measure => simp [intOf]; omega
theorem homed_filter {l : List Opn} {s : Id} (hE : spanE l s = 0) : l.filter (fun o => contB o && homB (fromL l s) (toL l s) o.pl) = inL l (livesM l l) s := by
  unfold inL
  refine List.filter_congr fun o ho => ?_
  rw [homB_is hE (anyB_may (mayO_parts ((spanE_zero.1 hE).1.2.1 o ho)).2.1)]
theorem counts_filter {l : List Opn} {s : Id} (hE : spanE l s = 0) : l.filter (fun o => contB o && (homB (fromL l s) (toL l s) o.pl && isB l (livesM l l) s o)) = countL l (livesM l l) s := by
  unfold countL
  rw [← homed_filter hE, List.filter_filter]
  refine List.filter_congr fun o ho => ?_
  cases contB o <;> cases homB (fromL l s) (toL l s) o.pl <;> cases isB l (livesM l l) s o <;> rfl
set_option maxRecDepth 100000 in
set_option maxHeartbeats 4000000 in
theorem cCounts_any {v : Value} {l : List Opn} (s : Id) {w : World} (hv : OpL w v l) : Calls Tryz.prog 43 #[v, .agg #[.int .u32 (s.t : Int), .int .u8 (s.r : Int)]] w (DoneN (countsL l s) (spanE l s) w) := by
  have B0 : Hid (Below w.heap.size w (w.alloc (.cells #[.int .u32 (s.t : Int), .int .u8 (s.r : Int)] 25))) := (Below.refl _ _).alloc (Nat.le_refl _) _
  have CH : Hid (Calls Tryz.prog 84 #[v, .agg #[.int .u32 (s.t : Int), .int .u8 (s.r : Int)], .func (.func 85) #[] #[]] (w.alloc (.cells #[.int .u32 (s.t : Int), .int .u8 (s.r : Int)] 25)) (DoneN (countsL l s) (spanE l s) (w.alloc (.cells #[.int .u32 (s.t : Int), .int .u8 (s.r : Int)] 25)))) := by
    have h := chosen_any s 85 (enters_of Tryz.func85 (by kernel_rfl) rfl) (fun o => homB (fromL l s) (toL l s) o.pl && isB l (livesM l l) s o) (hv.keeps B0.out) (fun hE => fun W va vb u g b n o ho ha hb hu hs hc hg => counts_any hE ho ha hb hu hs hc hg)
    have e : (if spanE l s = 0 then l.filter (fun o => contB o && (fun o => homB (fromL l s) (toL l s) o.pl && isB l (livesM l l) s o) o) else []) = countsL l s := by
      unfold countsL
      by_cases hE : spanE l s = 0
      · rw [if_pos hE, if_pos hE]; exact counts_filter hE
      · rw [if_neg hE, if_neg hE]
    rwa [e] at h
  obtain ⟨ao, cap, rfl⟩ := hv.shape
  obtain ⟨n, hn⟩ : ∃ n, n = l.length := ⟨_, rfl⟩
  rw [← hn] at CH ⊢
  obtain ⟨R, hR⟩ : ∃ R, countsL l s = R := ⟨_, rfl⟩
  obtain ⟨c, hc⟩ : ∃ c, spanE l s = c := ⟨_, rfl⟩
  rw [hR, hc] at CH ⊢
  obtain ⟨st, sr, hst, hsr⟩ := s
  simp only at CH B0 ⊢
  clear hv hn hR hc
  go_enter Tryz.func43, Tryz.ntmps43
  go_wp2_with fail
  refine CH.out.mono ?_
  rintro e w1 ⟨va, rfl, o1, b1⟩
  have B1 := Lib.hid (bt B0.out b1)
  have O1 : Hid (OwnL w1 w.heap.size va R) := o1.base B0.out.size
  clear b1 o1 CH B0
  go_wp2
  go_ret2
  exact ⟨_, rfl, O1.out, B1.out⟩
theorem bag_count {l : List Opn} (h : Bag l) (live : List Opn) (s : Id) : Bag (countL l live s) := ⟨Nat.le_trans (countL_sub l live s).length_le h.1, fun o ho => h.2.1 o ((countL_sub l live s).subset ho), h.2.2.sublist (countL_sub l live s)⟩
end Go.Proofs.YtmiepnnpccpicaaGreat.Covers
