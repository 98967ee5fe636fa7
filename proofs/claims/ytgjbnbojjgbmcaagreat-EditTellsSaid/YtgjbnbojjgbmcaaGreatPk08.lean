/- octavo/cover.cut, asking and what it makes, section.homes: what each answers. Conditions: the slices' cells are runs, operations. octavo/cover.section.counts: what it answers. Conditions: content of a bag; a section of it. What calls of home answer. Conditions: none. octavo/home.name, begin, number: what each answers. Conditions: the slice's cells are operations, not more than a million. octavo/marks.Live's closure: how two operations are held against each other. Conditions: the places read as such. slices.SortFunc at operations: the library's contract laid at this program. Conditions: as it says. -/
import Derived.Test.YtgjbnbojjgbmcaaGreatChecked
import Derived.WalkKit
import Derived.WalkSpells
import Derived.WalkLawsBesides
import Derived.Laws.BytesArg
import Derived.Lib.Hide
import Derived.Deep.LoopGhost
import Derived.Laws.AppendOwnNone
import Derived.Laws.OwnMore
import Derived.WideShapes
import Derived.Maps.AppendAt
import Derived.RegionTactic
import Derived.Deep.RegionHeld3
import Derived.Deep.DrawnRows
import Derived.Deep.QuietTactic
import Derived.BigQuiet
import Derived.IntWalk
import Derived.Deep.DeepCutAuto
import Derived.ScopeJumps
import Derived.Test.YtgjbnbojjgbmcaaGreatProg
import Derived.LoopTactic
import Derived.Laws.EntriesVeiled
import Derived.RowKit
import Derived.Maps.Own
import Derived.Maps.OwnOps
import Derived.Maps.OwnSet
import Derived.Maps.Views
import Derived.DeepKeys4
import Derived.Scope
import Derived.Calls
import Derived.StepT
import Derived.Below
import Derived.Sort.Grow
import Derived.Deep.Draws
import Derived.Shelf.SlLaysF0
import Derived.Test.YtgjbnbojjgbmcaaGreatRw
import Derived.Test.YtgjbnbojjgbmcaaGreatPk07
import Derived.Test.YtgjbnbojjgbmcaaGreatPk05
import Derived.Test.YtgjbnbojjgbmcaaGreatPk04
import Derived.Test.YtgjbnbojjgbmcaaGreatPk03
import Derived.Test.YtgjbnbojjgbmcaaGreatPk02
import Derived.Test.YtgjbnbojjgbmcaaGreatPk01
import Derived.Test.YtgjbnbojjgbmcaaGreatPk06

namespace Go.Proofs.YtgjbnbojjgbmcaaGreat.Covers
open Go.RowKit Go.WideShapes Stamp Go.Proofs.YtgjbnbojjgbmcaaGreat.Place Ops Codes Bags Marks Homes
attribute [local go_sem ↓] Go.wp_at_zero Go.wp_at_succ
attribute [local go_sem] yielded_undef
theorem own_less {w : World} {B n k cap sz : Nat} {e : TypeId} {ao : Option Addr} {cs : List Value} (h : w.ownsRow B e sz (.slice ao n cap) n cs) (hk : k ≤ n) (hn : 0 < n) : w.ownsRow B e sz (.slice ao k cap) k (cs.take (k * sz)) := by
  obtain ⟨hl, h⟩ := h
  rcases h with ⟨h1, h2⟩ | ⟨g, c, cur, h1, h2, h3, h4, h5, h6, h7⟩
  · omega
  · cases h1
    refine ⟨by rw [List.length_take, hl]; exact Nat.min_eq_left (Nat.mul_le_mul_right _ hk), .inr ⟨g, cap, cur, rfl, h2, h3, by omega, h5, h6, ?_⟩⟩
    rw [← h7, List.take_take, Nat.min_eq_left (Nat.mul_le_mul_right _ hk)]
theorem runs_take (l : List Run) (k : Nat) (h : k ≤ l.length) : runs (l.take k) = (runs l).take (k * 3) := by
  have e : runs l = runs (l.take k) ++ runs (l.drop k) := by rw [← runs_append, List.take_append_drop]
  rw [e, List.take_append_of_le_length (by rw [runs_len, List.length_take]; omega)]
  exact (List.take_of_length_le (by rw [runs_len, List.length_take]; omega)).symm
theorem runs_last {l : List Run} (hl : 0 < l.length) {m : Int} (hm : -9223372036854775808 ≤ m ∧ m ≤ 9223372036854775807) :
    (runs l).set ((l.length - 1) * 3 + 2) (.int .i64 m) = runs (l.take (l.length - 1) ++ [mkRun (l.getD (l.length - 1) zrun).t (l.getD (l.length - 1) zrun).r m]) := by
  obtain ⟨k, hk⟩ : ∃ k, l.length = k + 1 := ⟨l.length - 1, by omega⟩
  have e : l = l.take k ++ [l.getD k zrun] := by
    have := List.take_append_drop k l
    rw [List.drop_eq_getElem_cons (by omega), List.drop_eq_nil_iff.2 (by omega)] at this
    rw [show l.getD k zrun = l[k] by rw [List.getD_eq_getElem?_getD, List.getElem?_eq_getElem (by omega)]; rfl]
    exact this.symm
  obtain ⟨x, hx⟩ : ∃ x, l.getD k zrun = x := ⟨_, rfl⟩
  rw [hk, Nat.add_sub_cancel, hx]
  rw [hx] at e
  have hl2 : (l.take k).length = k := by rw [List.length_take]; omega
  have e2 : runs l = runs (l.take k) ++ runs [x] := by rw [← runs_append, ← e]
  rw [e2, List.set_append_right _ _ (by rw [runs_len, hl2]; omega), runs_append]
  congr 1
  rw [runs_len, hl2, show k * 3 + 2 - k * 3 = 2 by omega]
  show [Value.int .u32 (x.t : Int), .int .u8 (x.r : Int), .int .i64 m] = [Value.int .u32 ((mkRun x.t x.r m).t : Int), .int .u8 ((mkRun x.t x.r m).r : Int), .int .i64 (mkRun x.t x.r m).m]
  rw [mkRun_t x.ht, mkRun_r x.hr, mkRun_m hm]
theorem down_len {p : List Run} (hp : 0 < p.length) : (downL p).length = if (p.getD (p.length - 1) zrun).m = 1 then p.length - 1 else p.length := by
  unfold downL
  rw [List.length_append, List.length_take]
  split <;> simp <;> omega
set_option maxRecDepth 100000 in
set_option maxHeartbeats 4000000 in
theorem vcut_any {v : Value} {p : List Run} {B : Nat} {w : World} (hv : w.ownsRow B 32 3 v p.length (runs p)) (hp : 0 < p.length) (hl : p.length ≤ 1000) (hc : Chain p) :
    Calls Tryz.prog 150 #[v] w fun e w' => (∃ ao cap, e = .returned (.slice ao (downL p).length cap) ∧ w'.ownsRow B 32 3 (.slice ao (downL p).length cap) (downL p).length (runs (downL p))) ∧ Below B w w' := by
  obtain ⟨ao, cap, rfl⟩ : ∃ ao cap, v = .slice ao p.length cap := Sees.shape (Sees.own hv)
  obtain ⟨g, rfl⟩ : ∃ g, ao = some ⟨g, 0, none⟩ := by
    rcases hv.2 with ⟨_, h⟩ | ⟨g, c, cur, h, _⟩
    · omega
    · cases h; exact ⟨g, rfl⟩
  have hg : B ≤ g := by
    rcases hv.2 with ⟨_, h⟩ | ⟨g', c, cur, h, h2, _⟩
    · omega
    · cases h; exact h2
  obtain ⟨x, hx⟩ : ∃ x, p.getD (p.length - 1) zrun = x := ⟨_, rfl⟩
  have hone : Go.Proofs.YtgjbnbojjgbmcaaGreat.Place.One x := by rw [← hx]; exact chain_one hc (by omega)
  obtain ⟨n, hn⟩ : ∃ n, p.length = n := ⟨_, rfl⟩
  obtain ⟨k, rfl⟩ : ∃ k, n = k + 1 := ⟨n - 1, by omega⟩
  have hdl := down_len hp
  have hset := runs_last hp (m := x.m - 1) (by have := hone.2.2.2; omega)
  have hdn : downL p = p.take k ++ (if x.m = 1 then [] else [mkRun x.t x.r (x.m - 1)]) := by unfold downL; rw [hx, hn]; rfl
  rw [hx, hn] at hdl hset
  rw [Nat.add_sub_cancel] at hset hdl
  rw [hn] at hv
  have xm : w.cell? ⟨g, k * 3 + 2, none⟩ = some (.int .i64 x.m) := by
    rw [hv.cellAt (k * 3 + 2) (by omega), (runs_get p k (by omega)).2.2, show p.getD k zrun = x by rw [← hx, hn]; rfl]
  have xf : w.frozen? ⟨g, k * 3 + 2, none⟩ = false := hv.frozenAt _
  have h1 := hone.2.2.2.1
  have h2 := hone.2.2.2.2.1
  have hst := (hv.stored (k * 3 + 2) (.int .i64 (x.m - 1))).1
  rw [hset] at hst
  have BW : Hid (Below B w (w.setCell ⟨g, k * 3 + 2, none⟩ (.int .i64 (x.m - 1)))) := (Below.refl _ _).setCell (p := ⟨g, k * 3 + 2, none⟩) hg _
  have ym : (w.setCell ⟨g, k * 3 + 2, none⟩ (.int .i64 (x.m - 1))).cell? ⟨g, k * 3 + 2, none⟩ = some (.int .i64 (x.m - 1)) := by
    rw [hst.cellAt (k * 3 + 2) (by omega)]
    have e := (runs_get (p.take k ++ [mkRun x.t x.r (x.m - 1)]) k (by simp; omega)).2.2
    rw [e]
    have e3 : (p.take k ++ [mkRun x.t x.r (x.m - 1)]).getD k zrun = mkRun x.t x.r (x.m - 1) := by
      rw [List.getD_eq_getElem?_getD, List.getElem?_append_right (by rw [List.length_take]; omega), List.length_take, Nat.min_eq_left (by omega)]
      simp
    rw [e3, mkRun_m (by omega)]
  have OW : Hid ((w.setCell ⟨g, k * 3 + 2, none⟩ (.int .i64 (x.m - 1))).ownsRow B 32 3 (.slice (some ⟨g, 0, none⟩) (k + 1) cap) (k + 1) (runs (p.take k ++ [mkRun x.t x.r (x.m - 1)]))) := hst
  have hcap : k + 1 ≤ cap ∧ cap ≤ 9223372036854775807 := by
    have := (Sees.cap (Sees.own hv)).2
    exact ⟨this.1, this.2.1⟩
  have hk0 : ((k + 1 : Nat) : Int) - 1 = (k : Int) := by omega
  have e1 : ((k : Int) + 1) - 1 = (k : Int) := by omega
  have e2 : IntKind.i64.wrap (k : Int) = (k : Int) := IntWalk.i64_in _ (by omega)
  have w0 : (0 : Int) ≤ (k : Int) := by omega
  have w1 : (k : Int) < (k : Int) + 1 := by omega
  have w2 : (k : Int) ≤ (cap : Int) := by omega
  have e4 : IntKind.i64.wrap (x.m - 1) = x.m - 1 := IntWalk.i64_in _ (by omega)
  have hkp : k ≤ p.length := by omega
  obtain ⟨WX, hWX⟩ : ∃ W, w.setCell ⟨g, k * 3 + 2, none⟩ (.int .i64 (x.m - 1)) = W := ⟨_, rfl⟩
  rw [hWX] at OW BW ym
  obtain ⟨m, hm⟩ : ∃ m, x.m = m := ⟨_, rfl⟩
  rw [hm] at hdn hdl xm h1 h2 e4 OW ym hWX
  have HDN := Lib.hid hdn
  have HDL := Lib.hid hdl
  clear hdn hdl hset hst hone hv hl hc hx
  rw [hn]
  by_cases hm1 : m = 1
  · subst hm1
    have q : decide ((1 : Int) - 1 = 0) = true := by decide
    have L2 : Hid ((downL p).length = k) := by have := HDL.out; rwa [if_pos rfl] at this
    have OK : Hid (WX.ownsRow B 32 3 (.slice (some ⟨g, 0, none⟩) k cap) k (runs (downL p))) := by
      have h := own_less OW.out (Nat.le_succ k) (Nat.succ_pos k)
      rw [← runs_take _ _ (by simp; omega), List.take_append_of_le_length (by rw [List.length_take]; omega), List.take_take, Nat.min_self] at h
      unfold Hid
      rw [HDN.out, if_pos rfl, List.append_nil]
      exact h
    have hWX0 : w.setCell ⟨g, k * 3 + 2, none⟩ (.int .i64 0) = WX := hWX
    clear OW HDN HDL hm hn hWX
    go_enter Tryz.func150, Tryz.ntmps150
    go_wp2
    go_ret
    rw [L2.out]
    exact ⟨⟨_, _, rfl, OK.out⟩, BW.out⟩
  · have q : decide (m - 1 = 0) = false := decide_eq_false (by omega)
    have q0 : ¬ m - 1 = 0 := by omega
    have L2 : Hid ((downL p).length = k + 1) := by have := HDL.out; rwa [if_neg hm1] at this
    have OK : Hid (WX.ownsRow B 32 3 (.slice (some ⟨g, 0, none⟩) (k + 1) cap) (k + 1) (runs (downL p))) := by
      unfold Hid
      rw [HDN.out, if_neg hm1]
      exact OW.out
    clear OW HDN HDL hm hn
    go_enter Tryz.func150, Tryz.ntmps150
    go_wp2
    go_ret
    rw [L2.out]
    exact ⟨⟨_, _, rfl, OK.out⟩, BW.out⟩
theorem ZU (w : World) : (zeroValue 102).run Tryz.prog w = .ok (.agg #[]) w := by kernel_rfl
set_option maxRecDepth 100000 in
set_option maxHeartbeats 4000000 in
/-- What asking makes, called: is there an operation of a stamp? -/
theorem there_any {b n g : Nat} {S : Id → Bool} (a : Id) {w : World} (hs : SetI w b n S) (hc : w.cell? ⟨g, 0, none⟩ = some (.map (some b))) (hg : g < w.heap.size) :
    Calls Tryz.prog 189 #[.agg #[.int .u32 (a.t : Int), .int .u8 (a.r : Int)], .pointer (some ⟨g, 0, none⟩)] w fun e w' => e = .returned (.bool (S a)) ∧ Below w.heap.size w w' := by
  have B0 : Below w.heap.size w (w.alloc (.cells #[.int .u32 (a.t : Int), .int .u8 (a.r : Int)] 28)) := (Below.refl _ _).alloc (Nat.le_refl _) _
  obtain ⟨D, d1, d2⟩ := hs.keeps B0
  obtain ⟨v, ps, hrun, hv⟩ := d1.look_ok idLaw Tryz.underlying100 (ZU _) unitElem_mk (key_of a)
  obtain ⟨rfl, _⟩ := unitElem_inv hv
  rw [d2 a] at hrun
  unfold idv at hrun
  have c0 := (B0.cell (p := ⟨g, 0, none⟩) hg).trans hc
  have B1 : Hid (Below w.heap.size w ((w.alloc (.cells #[.int .u32 (a.t : Int), .int .u8 (a.r : Int)] 28)).alloc (.cells #[] 102))) := B0.alloc (by simp) _
  obtain ⟨q, hq⟩ : ∃ q, S a = q := ⟨_, rfl⟩
  rw [hq] at hrun ⊢
  clear hs hc d1 d2 hv B0 hq
  go_enter Tryz.func189, Tryz.ntmps189
  go_wp2
  go_ret
  exact ⟨rfl, B1.out⟩
theorem hasO_snoc {l : List Opn} {x : Opn} (a : Id) : hasO (l ++ [x]) a = (hasO l a || decide (idO x = a)) := by
  rw [Bool.eq_iff_iff, Bool.or_eq_true, hasO_iff, hasO_iff, decide_eq_true_iff]
  simp only [List.mem_append, List.mem_singleton]
  constructor
  · rintro ⟨o, h | rfl, e⟩
    · exact .inl ⟨o, h, e⟩
    · exact .inr e
  · rintro (⟨o, h, e⟩ | e)
    · exact ⟨o, .inl h, e⟩
    · exact ⟨x, .inr rfl, e⟩
set_option maxRecDepth 100000 in
set_option maxHeartbeats 4000000 in
theorem asking_any {v : Value} {l : List Opn} {w : World} (hv : OpL w v l) (hl : l.length ≤ 1024) :
    Calls Tryz.prog 147 #[v] w fun e w' => ∃ g b n, e = .returned (.func (.func 189) #[] #[.pointer (some ⟨g, 0, none⟩)]) ∧ g < w'.heap.size ∧ w'.cell? ⟨g, 0, none⟩ = some (.map (some b)) ∧ SetI w' b n (hasO l) ∧ Below w.heap.size w w' := by
  obtain ⟨ao, cap, rfl⟩ := hv.shape
  obtain ⟨n, hn⟩ : ∃ n, n = l.length := ⟨_, rfl⟩
  have HV : Hid (∀ W : World, Below w.heap.size w W → OpL W (.slice ao l.length cap) l) := fun W h => hv.keeps h
  have HN := Lib.hid hn
  rw [← hn] at hl ⊢
  have hmm := @run_makeMap Tryz.prog
  obtain ⟨wl, hwl⟩ : ∃ wl, (w.alloc (.map #[] 0)).alloc (.cells #[.map (some w.heap.size)] 100) = wl := ⟨_, rfl⟩
  have hsz : (w.alloc (.map #[] 0)).heap.size = w.heap.size + 1 := Array.size_push _
  have BA : Below (w.alloc (.map #[] 0)).heap.size (w.alloc (.map #[] 0)) wl := by rw [← hwl]; exact (Below.refl _ _).alloc (Nat.le_refl _) _
  have S0 : Hid (SetI wl w.heap.size 0 (hasO (l.take 0))) := by
    have h : SetI (w.alloc (.map #[] 0)) w.heap.size 0 (hasO (l.take 0)) := (SetI.made w).ext (fun a => by rw [List.take_zero]; rfl)
    exact h.keeps BA
  have X0 : Hid (wl.heap[w.heap.size + 1]? = some (.cells #[.map (some w.heap.size)] 100)) := by rw [← hwl]; exact blk_new hsz
  have B0 : Hid (Below w.heap.size w wl) := by rw [← hwl]; exact ((Below.refl _ _).alloc (Nat.le_refl _) _).alloc (by rw [hsz]; omega) _
  have HW := Lib.hid hwl
  clear hv hn hwl BA hsz
  go_enter Tryz.func147, Tryz.ntmps147
  go_wp2
  rw [HW.out]
  go_loopw [9] (fun i wr => ∃ j : Nat, j ≤ n ∧ i = .int .i64 (j : Int) ∧ Hid (SetI wr w.heap.size j (hasO (l.take j))) ∧ Hid (wr.heap[w.heap.size + 1]? = some (.cells #[.map (some w.heap.size)] 100)) ∧ Hid (Below w.heap.size w wr)) (fun i _ => n - (intOf i).toNat)
  case atStart => exact ⟨0, by omega, rfl, S0, X0, B0⟩
  case round =>
    clear S0 B0 X0 HW
    obtain ⟨j, hj, rfl, hset, hblk, hbel⟩ := hrel
    by_cases hjn : j < n
    rotate_left
    · have q3 : decide (j < n) = false := by simpa using hjn
      have hkk : l.take j = l := List.take_of_length_le (by have := HN.out; omega)
      rw [hkk] at hset
      have hsz : Hid (w.heap.size + 1 < wr.heap.size) := (Array.getElem?_eq_some_iff.1 hblk.out).1
      have hce : Hid (wr.cell? ⟨w.heap.size + 1, 0, none⟩ = some (.map (some w.heap.size))) := cell_of_row _ _ 0 _ _ _ hblk.out
      obtain rfl : j = n := by omega
      clear hkk
      go_wp2
      go_ret
      exact ⟨_, _, _, rfl, hsz.out, hce.out, hset.out, hbel.out⟩
    have q3 : decide (j < n) = true := by simpa using hjn
    have q4 : (0 : Int) ≤ (j : Int) := by omega
    have q5 : (j : Int) < (n : Int) := by omega
    have hjl : j < l.length := by rw [← HN.out]; exact hjn
    obtain ⟨bb, oo, u, e, hbb, hru, h0, h1, h2, h3, h4⟩ := opl_at (HV.out wr hbel.out) j hjl
    subst e
    obtain ⟨x, hx⟩ : ∃ x, x = l[j]'hjl := ⟨_, rfl⟩
    rw [← hx] at hru h0 h1 h2 h4
    have HSN : Hid (∀ a, hasO (l.take (j + 1)) a = (hasO (l.take j) a || decide (idO x = a))) := fun a => by rw [List.take_succ_eq_append_getElem hjl, hasO_snoc, hx]
    obtain ⟨uo, uc, rfl⟩ := hru.shape
    obtain ⟨nu, hnu⟩ : ∃ n, n = x.pl.length := ⟨_, rfl⟩
    rw [← hnu] at h3
    clear hru hx hnu
    obtain ⟨k, t, r, pl, p, hk, ht, hr, hp⟩ := x
    simp only at h0 h1 h2 h4
    have BL : Hid (Below wr.heap.size wr (wr.alloc (.cells #[.int .u8 (k : Int), .int .u32 (t : Int), .int .u8 (r : Int), .slice uo nu uc, .int .i64 p] 38))) := (Below.refl _ _).alloc (Nat.le_refl _) _
    have SL := Lib.hid (hset.out.keeps BL.out)
    have XL := Lib.hid (blk_below BL.out hblk.out)
    have BW := Lib.hid (bt hbel.out BL.out)
    have c0 := cell_of_row _ _ 0 _ _ _ XL.out
    clear hset hblk BL
    go_wp2_with (at_mapUpdate; refine wpList_put_set _ rfl _ _ _ 100 102 rfl Tryz.underlying100 w.heap.size j ⟨t, r, ht, hr⟩ (hasO (l.take j)) SL.out (by omega) rfl rfl rfl ?_)
    intro w3 s3 g3
    have S3 : Hid (SetI w3 w.heap.size (j + 1) (hasO (l.take (j + 1)))) := s3.ext (fun a => by
      rw [HSN.out a, Bool.or_comm]
      simp [eq_comm, idO])
    have X3 := Lib.hid (blk_grown g3 (by simp) XL.out)
    have B3 : Hid (Below w.heap.size w w3) := BW.out.grown g3 BW.out.size (fun i e => by cases e; exact Nat.le_refl _)
    clear s3 g3 SL XL BW c0
    go_wp2
    go_roundw
    case rel => exact ⟨j + 1, by omega, by go_num, S3, X3, B3⟩
    case measure => simp [intOf]; omega
set_option maxRecDepth 100000 in
set_option maxHeartbeats 4000000 in
theorem homes_any {va vb u th : Value} {F T : List Run} {o : Opn} {w : World} (ha : Runs w va F) (hb : Runs w vb T) (hu : Runs w u o.pl) (hth : ∃ f x y, th = .func f x y) :
    Calls Tryz.prog 149 #[.agg #[va, vb, th], opv o u] w fun e w' => e = .returned (.bool (homB F T o.pl)) ∧ Below w.heap.size w w' := by
  have C1 : Hid (∀ W : World, Below w.heap.size w W → Calls Tryz.prog 60 #[va, u] W fun e w' => e = .returned (.int .i64 (cmp F o.pl)) ∧ Below W.heap.size W w') := fun W h => pCompare_any (ha.keeps h) (hu.keeps h)
  have C2 : Hid (∀ W : World, Below w.heap.size w W → Calls Tryz.prog 60 #[u, vb] W fun e w' => e = .returned (.int .i64 (cmp o.pl T)) ∧ Below W.heap.size W w') := fun W h => pCompare_any (hu.keeps h) (hb.keeps h)
  obtain ⟨f1, f2, f3, rfl⟩ := hth
  obtain ⟨ao, ac, rfl⟩ := ha.shape
  obtain ⟨bo, bc, rfl⟩ := hb.shape
  obtain ⟨uo, uc, rfl⟩ := hu.shape
  have B0 : Hid (Below w.heap.size w ((w.alloc (.cells #[.slice ao F.length ac, .slice bo T.length bc, .func f1 f2 f3] 161)).alloc (.cells #[.int .u8 (o.k : Int), .int .u32 (o.t : Int), .int .u8 (o.r : Int), .slice uo o.pl.length uc, .int .i64 o.p] 38))) := ((Below.refl _ _).alloc (Nat.le_refl _) _).alloc (by simp) _
  have SK : Hid (∀ W : World, Below ((w.alloc (.cells #[.slice ao F.length ac, .slice bo T.length bc, .func f1 f2 f3] 161)).alloc (.cells #[.int .u8 (o.k : Int), .int .u32 (o.t : Int), .int .u8 (o.r : Int), .slice uo o.pl.length uc, .int .i64 o.p] 38)).heap.size ((w.alloc (.cells #[.slice ao F.length ac, .slice bo T.length bc, .func f1 f2 f3] 161)).alloc (.cells #[.int .u8 (o.k : Int), .int .u32 (o.t : Int), .int .u8 (o.r : Int), .slice uo o.pl.length uc, .int .i64 o.p] 38)) W →
      W.cell? ⟨w.heap.size, 1, none⟩ = some (.slice bo T.length bc) ∧ W.cell? ⟨w.heap.size + 1, 3, none⟩ = some (.slice uo o.pl.length uc)) := fun W h => by
    have g1 : W.heap[w.heap.size]? = some (.cells #[.slice ao F.length ac, .slice bo T.length bc, .func f1 f2 f3] 161) := blk_below h (blk_old (blk_new rfl))
    have g2 : W.heap[w.heap.size + 1]? = some (.cells #[.int .u8 (o.k : Int), .int .u32 (o.t : Int), .int .u8 (o.r : Int), .slice uo o.pl.length uc, .int .i64 o.p] 38) := blk_below h (blk_new (by simp))
    exact ⟨cell_of_row _ _ 1 _ _ _ g1, cell_of_row _ _ 3 _ _ _ g2⟩
  have HH : Hid (homB F T o.pl = (decide (cmp F o.pl ≤ 0) && (decide (T.length = 0) || decide (cmp o.pl T < 0)))) := rfl
  obtain ⟨z, hz⟩ : ∃ z, homB F T o.pl = z := ⟨_, rfl⟩
  rw [hz] at HH ⊢
  obtain ⟨c, hc⟩ : ∃ c, cmp F o.pl = c := ⟨_, rfl⟩
  obtain ⟨d, hd⟩ : ∃ c, cmp o.pl T = c := ⟨_, rfl⟩
  rw [hc] at C1 HH
  rw [hd] at C2 HH
  obtain ⟨nf, hnf⟩ : ∃ n, F.length = n := ⟨_, rfl⟩
  obtain ⟨nt, hnt⟩ : ∃ n, T.length = n := ⟨_, rfl⟩
  obtain ⟨nu, hnu⟩ : ∃ n, o.pl.length = n := ⟨_, rfl⟩
  rw [hnf] at C1 B0 SK ⊢
  rw [hnt] at C2 B0 SK HH ⊢
  rw [hnu] at C1 C2 B0 SK
  unfold opv
  rw [hnu]
  clear ha hb hu hz hc hd hnf hnt hnu
  obtain ⟨k, t, r, l, p, hk, ht, hr, hp⟩ := o
  simp only at B0 SK ⊢
  clear hk ht hr hp
  by_cases h1 : c ≤ 0
  rotate_left
  · have q1 : decide (c ≤ 0) = false := decide_eq_false h1
    obtain rfl : false = z := by rw [HH.out, q1]; rfl
    clear HH C2
    go_enter Tryz.func149, Tryz.ntmps149
    go_wp2_with fail
    refine (C1.out _ B0.out).mono ?_
    rintro e w1 ⟨rfl, b1⟩
    have B1 := Lib.hid (bt B0.out b1)
    clear b1 C1 B0 SK
    go_wp2
    go_ret
    exact ⟨rfl, B1.out⟩
  have q1 : decide (c ≤ 0) = true := decide_eq_true h1
  by_cases h2 : nt = 0
  · obtain rfl : true = z := by rw [HH.out, q1, decide_eq_true h2]; rfl
    subst h2
    clear HH C2
    go_enter Tryz.func149, Tryz.ntmps149
    go_wp2_with fail
    refine (C1.out _ B0.out).mono ?_
    rintro e w1 ⟨rfl, b1⟩
    obtain ⟨g1, g2⟩ := SK.out _ b1
    have B1 := Lib.hid (bt B0.out b1)
    clear b1 C1 B0 SK
    go_wp2
    go_ret
    exact ⟨rfl, B1.out⟩
  · have q2 : decide ((nt : Int) = 0) = false := decide_eq_false (by omega)
    have q3 : ((nt : Int) == 0) = false := by simp; omega
    have q4 : decide (nt = 0) = false := decide_eq_false h2
    obtain rfl : decide (d < 0) = z := by rw [HH.out, q1, q4]; simp
    clear HH h1
    go_enter Tryz.func149, Tryz.ntmps149
    go_wp2_with fail
    refine (C1.out _ B0.out).mono ?_
    rintro e w1 ⟨rfl, b1⟩
    obtain ⟨g1, g2⟩ := SK.out _ b1
    have B1 := Lib.hid (bt B0.out b1)
    clear b1 C1 B0 SK
    go_wp2_with fail
    refine (C2.out _ B1.out).mono ?_
    rintro e w2 ⟨rfl, b2⟩
    have B2 := Lib.hid (bt B1.out b2)
    clear b2 C2 B1
    go_wp2
    go_ret
    exact ⟨rfl, B2.out⟩
end Go.Proofs.YtgjbnbojjgbmcaaGreat.Covers

namespace Go.Proofs.YtgjbnbojjgbmcaaGreat.Covers
open Go.RowKit Go.WideShapes Stamp Go.Proofs.YtgjbnbojjgbmcaaGreat.Place Ops Codes Bags Marks Homes
attribute [local go_sem ↓] Go.wp_at_zero Go.wp_at_succ
attribute [local go_sem] yielded_undef
theorem nl_all : ∀ p : List Run, nl p = (all p).length
  | [] => rfl
  | x :: p => by
    show x.m.toNat + nl p = (up x.t x.r x.m.toNat ++ all p).length
    rw [List.length_append, up_len, nl_all p]
set_option maxRecDepth 100000 in
set_option maxHeartbeats 4000000 in
theorem counts_any {va vb u : Value} {l : List Opn} {s : Id} {o : Opn} {g b n0 : Nat} {w : World} (hE : spanE l s = 0) (ho : o ∈ l) (ha : Runs w va (fromL l s)) (hb : Runs w vb (toL l s)) (hu : Runs w u o.pl) (hs : SetI w b n0 (hasO l)) (hc : w.cell? ⟨g, 0, none⟩ = some (.map (some b))) (hg : g < w.heap.size) :
    Calls Tryz.prog 106 #[.agg #[va, vb, .func (.func 189) #[] #[.pointer (some ⟨g, 0, none⟩)]], opv o u] w fun e w' => e = .returned (.bool (homB (fromL l s) (toL l s) o.pl && isB l (livesM l l) s o)) ∧ Below w.heap.size w w' := by
  have hO := (spanE_zero.1 hE).1.2.1 o ho
  have hm := (mayO_parts hO).2.1
  have hM := (mayB_iff o.pl).1 hm
  have HM : Hid (∀ W : World, Below w.heap.size w W → Calls Tryz.prog 149 #[.agg #[va, vb, .func (.func 189) #[] #[.pointer (some ⟨g, 0, none⟩)]], opv o u] W fun e w' => e = .returned (.bool (homB (fromL l s) (toL l s) o.pl)) ∧ Below W.heap.size W w') := fun W h => homes_any (ha.keeps h) (hb.keeps h) (hu.keeps h) ⟨_, _, _, rfl⟩
  have TW : Hid (∀ W : World, Below w.heap.size w W → Calls Tryz.prog 75 #[u] W fun e w' => ∃ ao cap, e = .returned (.slice ao o.pl.length cap) ∧ w'.ownsRow W.heap.size 32 3 (.slice ao o.pl.length cap) o.pl.length (runs o.pl) ∧ Below W.heap.size W w') := fun W h => by
    refine (ptwin_any (hu.keeps h) (by have := hM.2.1; omega)).mono ?_
    rintro e w' ⟨v', rfl, h1, h2⟩
    obtain ⟨ao, cap, rfl⟩ : ∃ ao cap, v' = .slice ao o.pl.length cap := Sees.shape (Sees.own h1)
    exact ⟨ao, cap, rfl, h1, h2⟩
  have TR : Hid (∀ (W : World) (a : Id), Below w.heap.size w W → Calls Tryz.prog 189 #[.agg #[.int .u32 (a.t : Int), .int .u8 (a.r : Int)], .pointer (some ⟨g, 0, none⟩)] W fun e w' => e = .returned (.bool (hasO l a)) ∧ Below W.heap.size W w') := fun W a h => there_any a (hs.keeps h) ((h.cell (p := ⟨g, 0, none⟩) hg).trans hc) (Nat.lt_of_lt_of_le hg h.size)
  have CP : Hid (∀ (W : World) (v : Value) (P : List Run), Below w.heap.size w W → Runs W v P → Calls Tryz.prog 60 #[v, va] W fun e w' => e = .returned (.int .i64 (cmp P (fromL l s))) ∧ Below W.heap.size W w') := fun W v P h h2 => pCompare_any h2 (ha.keeps h)
  obtain ⟨N, hN⟩ : ∃ N, (all o.pl).length = N := ⟨_, rfl⟩
  have hcut : ∀ k, k < N → mayB (cutN o.pl (k + 1)) = true ∧ lastV (cutN o.pl (k + 1)) = ((((all o.pl).getD k zid).t : Int), (((all o.pl).getD k zid).r : Int)) ∧ cutN o.pl k = downL (cutN o.pl (k + 1)) ∧ nl (cutN o.pl (k + 1)) = k + 1 := fun k hk => by
    rw [← hN] at hk
    refine ⟨may_cutN hm (by omega), last_cutN hm hk, cut_down hm hk, ?_⟩
    rw [nl_all, all_cutN hM.2.2.1, List.length_take]
    omega
  have HC := Lib.hid hcut
  have hall : cutN o.pl N = o.pl := by rw [← hN]; exact cutN_all hM.2.2.1
  have OK0 : Hid (okN l s o N) := by rw [← hN]; exact ok_end l s o
  obtain ⟨z, hz⟩ : ∃ z, homB (fromL l s) (toL l s) o.pl = z := ⟨_, rfl⟩
  obtain ⟨q, hq⟩ : ∃ q, isB l (livesM l l) s o = q := ⟨_, rfl⟩
  have ZE : Hid (okN l s o 0 → q = true) := fun h => by rw [← hq]; exact ok_zero h
  have ZB : Hid (∀ k, okN l s o k → cmp (cutN o.pl k) (fromL l s) < 0 → q = true) := fun k h h2 => by rw [← hq]; exact ok_break hE ho h h2
  have ZN : Hid (z = true → ∀ k, k < N → ¬ cmp (cutN o.pl (k + 1)) (fromL l s) < 0 → hasO l ((all o.pl).getD k zid) = false → q = false) := fun h k h1 h2 h3 => by rw [← hq]; exact ok_no hE ho (hz.trans h) (by rw [hN]; exact h1) h2 h3
  have ZS : Hid (∀ k, okN l s o (k + 1) → hasO l ((all o.pl).getD k zid) = true → okN l s o k) := fun k h h2 => ok_step h h2
  have Z00 : Hid (cutN o.pl 0 = []) := cutN_zero _
  rw [hz] at HM ⊢
  rw [hq]
  obtain ⟨F, hF⟩ : ∃ F, fromL l s = F := ⟨_, rfl⟩
  obtain ⟨T, hT⟩ : ∃ F, toL l s = F := ⟨_, rfl⟩
  rw [hF] at ha CP ZB ZN
  rw [hT] at hb
  obtain ⟨C, hC⟩ : ∃ C, cutN o.pl = C := ⟨_, rfl⟩
  simp only [hC] at HC hall ZB ZN Z00
  obtain ⟨A, hA⟩ : ∃ A, (fun k => (all o.pl).getD k zid) = A := ⟨_, rfl⟩
  have hA' : ∀ k, (all o.pl).getD k zid = A k := fun k => by rw [← hA]
  simp only [hA'] at HC ZN ZS
  obtain ⟨ok, hok⟩ : ∃ ok, okN l s o = ok := ⟨_, rfl⟩
  simp only [hok] at OK0 ZE ZB ZS
  obtain ⟨ao, ac, rfl⟩ := ha.shape
  obtain ⟨bo, bc, rfl⟩ := hb.shape
  obtain ⟨uo, uc, rfl⟩ := hu.shape
  obtain ⟨nf, hnf⟩ : ∃ n, F.length = n := ⟨_, rfl⟩
  obtain ⟨nt, hnt⟩ : ∃ n, T.length = n := ⟨_, rfl⟩
  obtain ⟨nu, hnu⟩ : ∃ n, o.pl.length = n := ⟨_, rfl⟩
  have hnum : nu ≤ 64 := by rw [← hnu]; exact hM.2.1
  rw [hnf] at HM CP ⊢
  rw [hnt] at HM ⊢
  rw [hnu] at HM TW ⊢
  have R0 : Hid (nu = (C N).length) := by rw [hall, hnu]; exact rfl
  unfold opv at HM ⊢
  rw [show runs o.pl = runs (C N) by rw [hall]] at TW
  clear ha hb hu hs hc hE ho hO hm hM hN hcut hall hz hq hF hT hC hA hA' hok hnf hnt hnu hg
  obtain ⟨k, t, r, pl, p, hk, ht, hr, hp⟩ := o
  simp only at HM ⊢
  clear hk ht hr hp
  obtain ⟨wl, hwl⟩ : ∃ wl, (w.alloc (.cells #[.slice ao nf ac, .slice bo nt bc, .func (.func 189) #[] #[.pointer (some ⟨g, 0, none⟩)]] 161)).alloc (.cells #[.int .u8 (k : Int), .int .u32 (t : Int), .int .u8 (r : Int), .slice uo nu uc, .int .i64 p] 38) = wl := ⟨_, rfl⟩
  have hsz : wl.heap.size = w.heap.size + 2 := by rw [← hwl]; simp
  have B0 : Hid (Below w.heap.size w wl) := by rw [← hwl]; exact ((Below.refl _ _).alloc (Nat.le_refl _) _).alloc (by simp) _
  have SK : Hid (∀ W : World, Below wl.heap.size wl W → W.cell? ⟨w.heap.size, 0, none⟩ = some (.slice ao nf ac) ∧ W.cell? ⟨w.heap.size, 1, none⟩ = some (.slice bo nt bc) ∧ W.cell? ⟨w.heap.size, 2, none⟩ = some (.func (.func 189) #[] #[.pointer (some ⟨g, 0, none⟩)]) ∧ W.cell? ⟨w.heap.size + 1, 3, none⟩ = some (.slice uo nu uc)) := fun W h => by
    have g1 : W.heap[w.heap.size]? = some (.cells #[.slice ao nf ac, .slice bo nt bc, .func (.func 189) #[] #[.pointer (some ⟨g, 0, none⟩)]] 161) := blk_below h (by rw [← hwl]; exact blk_old (blk_new rfl))
    have g2 : W.heap[w.heap.size + 1]? = some (.cells #[.int .u8 (k : Int), .int .u32 (t : Int), .int .u8 (r : Int), .slice uo nu uc, .int .i64 p] 38) := blk_below h (by rw [← hwl]; exact blk_new (by simp))
    exact ⟨cell_of_row _ _ 0 _ _ _ g1, cell_of_row _ _ 1 _ _ _ g1, cell_of_row _ _ 2 _ _ _ g1, cell_of_row _ _ 3 _ _ _ g2⟩
  have BL : Hid (∀ W : World, Below wl.heap.size wl W → Below w.heap.size w W) := fun W h => bt B0.out h
  have HW := Lib.hid hwl
  have HSZ := Lib.hid hsz
  clear hwl hsz
  cases z
  · clear ZE ZB ZN ZS OK0 HC TW TR CP SK BL Z00 R0
    go_enter Tryz.func106, Tryz.ntmps106
    go_wp2
    refine wp_scope_straight ?_
    go_wp2_with fail
    rw [HW.out]
    refine (HM.out _ B0.out).mono ?_
    rintro e w1 ⟨rfl, b1⟩
    have B1 := Lib.hid (bt B0.out b1)
    clear b1 HM B0
    go_wp2
    (first | go_ret | (rw [Exit.noGoto_ret]; go_ret))
    exact ⟨rfl, B1.out⟩
  rw [Bool.true_and]
  have ZN2 := Lib.hid (ZN.out rfl)
  clear ZN
  go_enter Tryz.func106, Tryz.ntmps106
  go_wp2
  refine wp_scope_straight ?_
  go_wp2_with fail
  rw [HW.out]
  refine (HM.out _ B0.out).mono ?_
  rintro e w1 ⟨rfl, b1⟩
  have B1 := Lib.hid b1
  obtain ⟨c0, c1, c2, c3⟩ := SK.out _ b1
  clear b1 HM
  go_wp2_with fail
  refine (TW.out _ (BL.out _ B1.out)).mono ?_
  rintro e w2 ⟨ao2, ca2, rfl, o2, b2⟩
  have B2 := Lib.hid (bt B1.out b2)
  have O2 : Hid (w2.ownsRow wl.heap.size 32 3 (.slice ao2 nu ca2) nu (runs (C N))) := op_base o2 B1.out.size
  rw [R0.out] at O2 hnum ⊢
  clear b2 o2 TW B1 c0 c1 c2 c3 B0 HW R0
  go_wp2
  go_step3
  go_wp2
  go_loopw [5] (fun v wr => ∃ k ao cap, v = .slice ao (C k).length cap ∧ k ≤ N ∧ Hid (wr.ownsRow wl.heap.size 32 3 (.slice ao (C k).length cap) (C k).length (runs (C k))) ∧ Hid (ok k) ∧ (C k).length ≤ 64 ∧ Hid (Below wl.heap.size wl wr)) (fun v wr => totV wr v)
  case atStart => exact ⟨N, _, _, rfl, Nat.le_refl _, O2, OK0, hnum, B2⟩
  case round =>
    clear O2 OK0 hnum B2
    obtain ⟨k, ao2, ca2, rfl, hkN, hown, hok, hln, hbel⟩ := hrel
    cases k with
    | zero =>
      have hq := ZE.out hok.out
      have h0 : (C 0).length = 0 := by rw [Z00.out]; rfl
      rw [h0]
      subst hq
      clear hown hok hln ZB ZN2 ZS HC TR CP ZE Z00
      go_wp2
      (first | go_ret | (rw [Exit.noGoto_ret]; go_ret))
      exact ⟨rfl, BL.out _ hbel.out⟩
    | succ k =>
    obtain ⟨m1, m2, m3, m4⟩ := HC.out k (by omega)
    obtain ⟨hp1, hp2, hp3, _⟩ := (mayB_iff _).1 m1
    have ST := Lib.hid (ZS.out k hok.out)
    have NO := Lib.hid (ZN2.out k (by omega))
    have BR := Lib.hid (ZB.out (k + 1) hok.out)
    obtain ⟨P, hP⟩ : ∃ P, C (k + 1) = P := ⟨_, rfl⟩
    obtain ⟨a, ha⟩ : ∃ a, A k = a := ⟨_, rfl⟩
    rw [hP] at m1 m2 m3 m4 hp1 hp2 hp3 hown hln NO BR ⊢
    rw [ha] at m2 ST NO
    have HQL : Hid ((C k).length ≤ 64) := by
      unfold Hid
      have := down_len hp1
      rw [m3, this]
      split <;> omega
    have LS : Hid (∀ (W : World) (v : Value), Runs W v P → Calls Tryz.prog 74 #[v] W fun e w' => e = .returned (.agg #[.int .u32 (a.t : Int), .int .u8 (a.r : Int)]) ∧ Below W.heap.size W w') := fun W v h => by
      have := pLast_any h
      rwa [m2] at this
    have CU : Hid (∀ (W : World) (v : Value), W.ownsRow wl.heap.size 32 3 v P.length (runs P) → Calls Tryz.prog 150 #[v] W fun e w' => (∃ ao cap, e = .returned (.slice ao (C k).length cap) ∧ w'.ownsRow wl.heap.size 32 3 (.slice ao (C k).length cap) (C k).length (runs (C k))) ∧ Below wl.heap.size W w') := fun W v h => by
      have := vcut_any h hp1 (by omega) hp3
      rwa [← m3] at this
    have CC := Lib.hid (fun (W : World) (v : Value) h1 h2 => CP.out W v P h1 h2)
    have TT := Lib.hid (fun (W : World) h => TR.out W a h)
    have MS : Hid (totV wr (.slice ao2 P.length ca2) = k + 1) := (totV_runs (Runs.own hown.out)).trans m4
    have MS2 : Hid (∀ (W : World) (v : Value), W.ownsRow wl.heap.size 32 3 v (C k).length (runs (C k)) → totV W v = k) := fun W v h => by
      rw [totV_runs (Runs.own h)]
      cases k with
      | zero => rw [Z00.out]; rfl
      | succ k' => exact (HC.out k' (by omega)).2.2.2
    obtain ⟨c, hcc⟩ : ∃ c, cmp P F = c := ⟨_, rfl⟩
    simp only [hcc] at CC NO BR
    obtain ⟨hh, hhh⟩ : ∃ h, hasO l a = h := ⟨_, rfl⟩
    rw [hhh] at TT ST NO
    have RR : Hid (∀ W : World, Below wr.heap.size wr W → W.ownsRow wl.heap.size 32 3 (.slice ao2 P.length ca2) P.length (runs P)) := fun W h => own_stays hown.out h
    obtain ⟨n, hn⟩ : ∃ n, P.length = n := ⟨_, rfl⟩
    simp only [hn] at hown RR MS CU hp1 hp2 hln ⊢
    have HN := Lib.hid hn
    have t1 : decide ((0 : Int) < (n : Int)) = true := decide_eq_true (by omega)
    have t2 : decide (0 < n) = true := decide_eq_true hp1
    have s0 := SK.out _ hbel.out
    obtain ⟨c0, c1, c2, c3⟩ := s0
    clear ZB ZN2 ZS HC TR CP hok Z00 ZE m1 m2 m3 m4 hP ha hcc hhh hn hp3
    have D0 : Hid (∀ W : World, Below wr.heap.size wr W → Below w.heap.size w W) := fun W h => BL.out _ (bt hbel.out h)
    go_wp2_with fail
    refine (CC.out _ _ (D0.out _ (Below.refl _ _)) (by rw [← HN.out]; exact Runs.own (by rw [HN.out]; exact hown.out))).mono ?_
    rintro e w3 ⟨rfl, b3⟩
    have B3 := Lib.hid b3
    have KK : Hid (∀ W : World, Below w3.heap.size w3 W → Below w3.heap.size w3 W ∧ W.cell? ⟨w.heap.size, 2, none⟩ = some (.func (.func 189) #[] #[.pointer (some ⟨g, 0, none⟩)])) := fun W h => ⟨h, (SK.out W (bt hbel.out (bt B3.out h))).2.2.1⟩
    clear b3 CC c0 c1 c2 c3
    by_cases hlt : c < 0
    · have q1 : decide (c < 0) = true := decide_eq_true hlt
      have hq := BR.out hlt
      subst hq
      have BE := Lib.hid (BL.out _ (bt hbel.out B3.out))
      clear BR NO ST CU TT LS RR KK MS MS2 D0
      go_wp2
      (first | go_ret | (rw [Exit.noGoto_ret]; go_ret))
      exact ⟨rfl, BE.out⟩
    have q1 : decide (c < 0) = false := decide_eq_false hlt
    have NO2 := Lib.hid (NO.out (by first | exact hlt | omega))
    have LL : Hid (∀ W : World, Below wr.heap.size wr W → Calls Tryz.prog 74 #[.slice ao2 n ca2] W fun e w' => e = .returned (.agg #[.int .u32 (a.t : Int), .int .u8 (a.r : Int)]) ∧ Below W.heap.size W w') := fun W h => LS.out W _ (by rw [← HN.out]; exact Runs.own (by rw [HN.out]; exact RR.out W h))
    have TX : Hid (∀ W : World, Below w3.heap.size w3 W → Calls Tryz.prog 189 #[.agg #[.int .u32 (a.t : Int), .int .u8 (a.r : Int)], .pointer (some ⟨g, 0, none⟩)] W fun e w' => e = .returned (.bool hh) ∧ Below W.heap.size W w') := fun W h => TT.out W (D0.out W (bt B3.out h))
    have LX : Hid (∀ W : World, Below w3.heap.size w3 W → Calls Tryz.prog 74 #[.slice ao2 n ca2] W fun e w' => e = .returned (.agg #[.int .u32 (a.t : Int), .int .u8 (a.r : Int)]) ∧ Below W.heap.size W w') := fun W h => LL.out W (bt B3.out h)
    clear NO BR LS LL TT hlt
    go_wp2
    refine wp_region_held_drew (S := fun w' => Below w3.heap.size w3 w' ∧ w'.cell? ⟨w.heap.size, 2, none⟩ = some (.func (.func 189) #[] #[.pointer (some ⟨g, 0, none⟩)])) (by kernel_rfl) (KK.out _ (drew1 _)) (fun hHeld => ?_)
    refine rN 0 ?_
    refine rN 1 ?_
    refine rN 2 ?_
    refine wpAnyH_ready (rs := [3]) (by kernel_rfl) (by simp) ?_
    refine AllReadyH.cons rfl (fun K hK => ?_) ?za3
    case za3 => exact AllReadyH.nil
    go_simp
    refine (LX.out _ hHeld.1).mono ?_
    rintro e w9a3 ⟨rfl, b9⟩
    refine hK.out _ _ (KK.out _ (bt hHeld.1 b9)) (fun hNew => ?_)
    clear hHeld
    have hHeld := hNew
    clear hNew hK K
    refine rX ?_
    refine wpAnyH_ready (rs := [4]) (by kernel_rfl) (by simp) ?_
    refine AllReadyH.cons rfl (fun K hK => ?_) ?za4
    case za4 => exact AllReadyH.nil
    go_simp
    refine (TX.out _ hHeld.1).mono ?_
    rintro e w9a4 ⟨rfl, b9⟩
    refine hK.out _ _ (KK.out _ (bt hHeld.1 b9)) (fun hNew => ?_)
    clear hHeld
    have hHeld := hNew
    clear hNew hK K
    refine rX ?_
    refine rN 5 ?_
    refine rN 6 ?_
    refine wpAnyH_done (by kernel_rfl) ?_ _
    have b4 := hHeld.1
    have B4 := Lib.hid (bt B3.out b4)
    clear b4 hHeld KK LX TX
    cases hh
    · have hq := NO2.out rfl
      subst hq
      have BE := Lib.hid (BL.out _ (bt hbel.out B4.out))
      clear NO2 ST CU RR MS MS2 D0 B3
      go_wp2
      (first | go_ret | (rw [Exit.noGoto_ret]; go_ret))
      exact ⟨rfl, BE.out⟩
    have OKK := Lib.hid (ST.out rfl)
    have CX := Lib.hid (CU.out _ _ (RR.out _ B4.out))
    clear NO2 ST CU RR D0 B3
    go_wp2_with fail
    refine CX.out.mono ?_
    rintro e w6 ⟨⟨ao6, ca6, rfl, o6⟩, b6⟩
    have O6 := Lib.hid o6
    have B6 : Hid (Below wl.heap.size wl w6) := (bt hbel.out B4.out).trans b6
    have M6 := Lib.hid (MS2.out _ _ o6)
    clear o6 b6 CX B4 MS2
    go_wp2
    go_roundw
    case rel => exact ⟨k, _, _, rfl, by omega, O6, OKK, HQL.out, B6⟩
    case measure =>
      have h1 := MS.out
      have h2 := M6.out
      first | omega | (rw [h1, h2]; omega) | (simp only [h1, h2]; omega)
end Go.Proofs.YtgjbnbojjgbmcaaGreat.Covers

namespace Go.Proofs.YtgjbnbojjgbmcaaGreat.Homes
open Go.RowKit Go.WideShapes Stamp Go.Proofs.YtgjbnbojjgbmcaaGreat.Place Ops Codes Bags Marks
/-- Two rows of the call's own (they may lie in one block), and an error. -/
def TwoR (A B : List Run) (x : Int) (w : World) (e : Ending) (w' : World) : Prop := ∃ va vb, e = .returned (.tuple #[va, vb, .int .i64 x]) ∧ w'.ownsRow w.heap.size 32 3 va A.length (runs A) ∧ w'.ownsRow w.heap.size 32 3 vb B.length (runs B) ∧ Below w.heap.size w w'
end Go.Proofs.YtgjbnbojjgbmcaaGreat.Homes

namespace Go.Proofs.YtgjbnbojjgbmcaaGreat.Homes
open Go.RowKit Go.WideShapes Stamp Go.Proofs.YtgjbnbojjgbmcaaGreat.Place Ops Codes Bags Marks
attribute [local go_sem ↓] Go.wp_at_zero Go.wp_at_succ
attribute [local go_sem] yielded_undef
theorem sects_succ {live : List Opn} {j : Nat} (h : j < live.length) : (sectsM live).getD (j + 1) zid = idO (live[j]'h) := by
  unfold sectsM
  rw [List.getD_cons_succ, List.getD_eq_getElem?_getD, List.getElem?_map, List.getElem?_eq_getElem h]
  rfl
set_option maxRecDepth 100000 in
set_option maxHeartbeats 4000000 in
theorem hName_any {v : Value} {live : List Opn} {w : World} (hv : OpL w v live) (hl : live.length ≤ 1000000) (i : Nat) (hi : i ≤ live.length) :
    Calls Tryz.prog 62 #[v, .int .i64 (i : Int)] w fun e w' => e = .returned (.agg #[.int .u32 (((sectsM live).getD i zid).t : Int), .int .u8 (((sectsM live).getD i zid).r : Int)]) ∧ Below w.heap.size w w' := by
  obtain ⟨ao, cap, rfl⟩ := hv.shape
  by_cases h0 : i = 0
  · subst h0
    have e1 : (sectsM live).getD 0 zid = zid := rfl
    rw [e1]
    generalize live.length = n
    clear e1 hv hl hi
    go_enter Tryz.func62, Tryz.ntmps62
    go_wp2
    refine bodyPost_ret (v := .agg #[.int .u32 0, .int .u8 0]) (by simp [results, Tryz.results62, go_sem]) rfl ⟨rfl, ?_⟩
    exact (Below.refl _ _).alloc (Nat.le_refl _) _
  obtain ⟨j, rfl⟩ : ∃ j, i = j + 1 := ⟨i - 1, by omega⟩
  have hjl : j < live.length := by omega
  rw [sects_succ hjl]
  have B0 : Below w.heap.size w (w.alloc (.cells #[.int .u32 0, .int .u8 0] 28)) := (Below.refl _ _).alloc (Nat.le_refl _) _
  obtain ⟨bb, oo, y, e, hbb, hru, h0, h1, h2, h3, h4⟩ := opl_at (hv.keeps B0) j hjl
  subst e
  obtain ⟨x, hx⟩ : ∃ x, live[j]'hjl = x := ⟨_, rfl⟩
  rw [hx] at h1 h2 ⊢
  obtain ⟨k, t, r, l, p, hk, ht, hr, hp⟩ := x
  simp only [idO] at h1 h2 ⊢
  obtain ⟨bb', oo', y', e', hbb', _⟩ := opl_at hv j hjl
  cases e'
  obtain ⟨n, hn⟩ : ∃ n, live.length = n := ⟨_, rfl⟩
  rw [hn] at hl hjl hi ⊢
  have e1 : ((j + 1 : Nat) : Int) = (j : Int) + 1 := by omega
  have q0 : ¬ ((j : Int) + 1 = 0) := by omega
  have q1 : decide ((j : Int) + 1 = 0) = false := decide_eq_false q0
  have q2 : (j : Int) + 1 - 1 = (j : Int) := by omega
  have q3 : IntKind.i64.wrap (j : Int) = (j : Int) := IntWalk.i64_in _ (by omega)
  have q4 : (0 : Int) ≤ (j : Int) := by omega
  have q5 : (j : Int) < (n : Int) := by omega
  have hne : ¬ bb = w.heap.size := by omega
  rw [e1]
  clear hv h3 h4 hru hx hn B0 e1 hbb
  go_enter Tryz.func62, Tryz.ntmps62
  go_wp2
  refine bodyPost_ret (v := .agg #[.int .u32 (t : Int), .int .u8 (r : Int)]) (by simp [results, Tryz.results62, go_sem]) rfl ⟨rfl, ?_⟩
  exact (Below.refl _ _).alloc (Nat.le_refl _) _
theorem holdP_at {w : World} {base : Nat} : ∀ {cs : List Value} {l : List Opn}, HoldP w base cs l → ∀ k (h : k < l.length), ∃ y, cs[k * 5 + 3]? = some y ∧ w.ownsRow base 32 3 y (l[k]'h).pl.length (runs (l[k]'h).pl)
  | _, [], _, k, h => by simp at h
  | _, o :: l, ⟨v, d, h1, h2, h3⟩, 0, h => ⟨v, by rw [h1]; rfl, h2⟩
  | _, o :: l, ⟨v, d, h1, h2, h3⟩, k + 1, h => by
    obtain ⟨y, e1, e2⟩ := holdP_at h3 k (by simpa using h)
    refine ⟨y, ?_, by simpa using e2⟩
    rw [h1, List.getElem?_append_right (by simp only [List.length_cons, List.length_nil]; omega)]
    rw [show (k + 1) * 5 + 3 - [Value.int .u8 (o.k : Int), .int .u32 (o.t : Int), .int .u8 (o.r : Int), v, .int .i64 o.p].length = k * 5 + 3 by simp only [List.length_cons, List.length_nil]; omega]
    exact e1
theorem ownL_at {w : World} {base : Nat} {v : Value} {l : List Opn} (hv : OwnL w base v l) (k : Nat) (h : k < l.length) :
    ∃ g cap y, v = .slice (some ⟨g, 0, none⟩) l.length cap ∧ w.cell? ⟨g, k * 5 + 3, none⟩ = some y ∧ w.ownsRow base 32 3 y (l[k]'h).pl.length (runs (l[k]'h).pl) := by
  obtain ⟨cs, h1, h2⟩ := hv
  obtain ⟨y, e1, e2⟩ := holdP_at h2 k h
  rcases h1.2 with ⟨_, h0⟩ | ⟨g, cap, cur, rfl, _⟩
  · omega
  · exact ⟨g, cap, y, rfl, by rw [h1.cellAt (k * 5 + 3) (by omega), e1], e2⟩
theorem own_slice {w : World} {base n : Nat} {e : TypeId} {v : Value} {cs : List Value} (h : w.ownsRow base e 3 v n cs) : ∃ ao cap, v = .slice ao n cap := by
  rcases h.2 with ⟨hv, h0⟩ | ⟨g, c2, cur, hv, hb, _⟩
  · rw [h0]; exact ⟨_, _, hv⟩
  · exact ⟨_, _, hv⟩
set_option maxRecDepth 100000 in
set_option maxHeartbeats 4000000 in
theorem hBegin_any {v : Value} {live : List Opn} {base : Nat} {w : World} (hv : OwnL w base v live) (i : Nat) (hi2 : i ≤ 1000001) :
    Calls Tryz.prog 125 #[v, .int .i64 (i : Int)] w fun e w' => (∃ ao cap, e = .returned (.slice ao (beginM live i).length cap) ∧ w.ownsRow base 32 3 (.slice ao (beginM live i).length cap) (beginM live i).length (runs (beginM live i))) ∧ w' = w := by
  obtain ⟨ao, cap, rfl⟩ := hv.opl.shape
  by_cases h0 : i = 0
  · subst h0
    rw [begin_low (by omega)]
    obtain ⟨n, hn⟩ : ∃ n, live.length = n := ⟨_, rfl⟩
    rw [hn]
    clear hv hn hi2
    go_enter Tryz.func125, Tryz.ntmps125
    go_wp2
    go_ret
    exact ⟨⟨_, _, rfl, World.ownsRow_nil _ _ _ _⟩, rfl⟩
  have q1 : decide ((i : Int) = 0) = false := decide_eq_false (by omega)
  have q0 : ¬ ((i : Int) = 0) := by omega
  by_cases hi : live.length < i
  · rw [begin_high (by omega)]
    obtain ⟨n, hn⟩ : ∃ n, live.length = n := ⟨_, rfl⟩
    rw [hn] at hi ⊢
    have q2 : decide (n < i) = true := decide_eq_true hi
    have q3 : decide ((n : Int) < (i : Int)) = true := decide_eq_true (by omega)
    clear hv hn
    go_enter Tryz.func125, Tryz.ntmps125
    go_wp2
    go_ret
    exact ⟨⟨_, _, rfl, World.ownsRow_nil _ _ _ _⟩, rfl⟩
  obtain ⟨j, hj⟩ : ∃ j, j = i - 1 := ⟨_, rfl⟩
  have hjl : j < live.length := by omega
  have hbg := begin_succ hjl
  have q4 : (i : Int) - 1 = (j : Int) := by omega
  rw [show (j : Int) + 1 = (i : Int) by omega] at hbg
  obtain ⟨g, cap', y, e, h3, ho⟩ := ownL_at hv j hjl
  cases e
  rw [hbg]
  obtain ⟨R, hR⟩ : ∃ z, (live[j]'hjl).pl = z := ⟨_, rfl⟩
  rw [hR] at ho ⊢
  obtain ⟨n, hn⟩ : ∃ n, live.length = n := ⟨_, rfl⟩
  rw [hn] at hjl hi ⊢
  obtain ⟨yo, yc, rfl⟩ := own_slice ho
  have HO := Lib.hid ho
  have q2 : decide (n < i) = false := decide_eq_false hi
  have q3 : decide ((n : Int) < (i : Int)) = false := decide_eq_false (by omega)
  have q5 : IntKind.i64.wrap (j : Int) = (j : Int) := IntWalk.i64_in _ (by omega)
  have q6 : (0 : Int) ≤ (j : Int) := by omega
  have q7 : (j : Int) < (n : Int) := by omega
  obtain ⟨m, hm⟩ : ∃ m, R.length = m := ⟨_, rfl⟩
  rw [hm] at HO h3 ⊢
  clear hv hn ho hj hbg hR hm
  go_enter Tryz.func125, Tryz.ntmps125
  go_wp2
  go_ret
  exact ⟨⟨_, _, rfl, HO.out⟩, rfl⟩
/-- The number of a section, and whether it is one. -/
def NumI (x : Int) (e : Ending) : Prop := e = .returned (.tuple #[.int .i64 (if 0 ≤ x then x else 0), .bool (decide (0 ≤ x))])
set_option maxRecDepth 100000 in
set_option maxHeartbeats 8000000 in
theorem hNumber_any {v : Value} {live : List Opn} (s : Id) {w : World} (hv : OpL w v live) (hl : live.length ≤ 1000000) :
    Calls Tryz.prog 124 #[v, .agg #[.int .u32 (s.t : Int), .int .u8 (s.r : Int)]] w fun e w' => NumI (whereM live s) e ∧ Below w.heap.size w w' := by
  obtain ⟨ao, cap, rfl⟩ := hv.shape
  obtain ⟨wl, hwl⟩ : ∃ x, x = w.alloc (.cells #[.int .u32 (s.t : Int), .int .u8 (s.r : Int)] 28) := ⟨_, rfl⟩
  have B0 : Hid (Below w.heap.size w wl) := by rw [hwl]; exact (Below.refl _ _).alloc (Nat.le_refl _) _
  have P0 : Hid (Pair wl w.heap.size (.int .u32 (s.t : Int)) (.int .u8 (s.r : Int))) := by rw [hwl]; exact pair_new _ _ _ _
  have HW := Lib.hid hwl
  have NA : Hid (∀ (W : World) (i : Nat), Below w.heap.size w W → i ≤ live.length → Calls Tryz.prog 62 #[.slice ao live.length cap, .int .i64 (i : Int)] W fun e w' => e = .returned (.agg #[.int .u32 (((sectsM live).getD i zid).t : Int), .int .u8 (((sectsM live).getD i zid).r : Int)]) ∧ Below W.heap.size W w') := fun W i h hi => hName_any (hv.keeps h) hl i hi
  have HN : Hid (live.length + 1 = (sectsM live).length) := (sectsM_len live).symm
  have HY : Hid (∀ j (hj : j < (sectsM live).length), (∀ i (h : i < (sectsM live).length), i < j → (sectsM live)[i]'h ≠ s) → (sectsM live)[j]'hj = s → whereM live s = j) := fun j hj h1 h2 => where_is hj h1 h2
  have HZ : Hid ((∀ i (h : i < (sectsM live).length), (sectsM live)[i]'h ≠ s) → whereM live s = -1) := fun h => where_no h
  obtain ⟨q, hq⟩ : ∃ q, whereM live s = q := ⟨_, rfl⟩
  rw [hq] at HY HZ ⊢
  obtain ⟨L, hL⟩ : ∃ z, sectsM live = z := ⟨_, rfl⟩
  rw [hL] at NA HN HY HZ
  obtain ⟨n, hn⟩ : ∃ n, live.length = n := ⟨_, rfl⟩
  rw [hn] at NA HN hl ⊢
  obtain ⟨N, hNN⟩ : ∃ N, n + 1 = N := ⟨_, rfl⟩
  have hNm : N ≤ 1000001 := by omega
  have e0 : (n : Int) + 1 = (N : Int) := by omega
  have e1 : IntKind.i64.wrap (N : Int) = (N : Int) := IntWalk.i64_in _ (by omega)
  rw [hNN] at HN
  have NB : Hid (∀ (W : World) (i : Nat), Below w.heap.size w W → i < N → Calls Tryz.prog 62 #[.slice ao n cap, .int .i64 (i : Int)] W fun e w' => e = .returned (.agg #[.int .u32 ((L.getD i zid).t : Int), .int .u8 ((L.getD i zid).r : Int)]) ∧ Below W.heap.size W w') := fun W i h hi => NA.out W i h (by omega)
  obtain ⟨S, hS⟩ : ∃ z, s = z := ⟨_, rfl⟩
  have HSI : Hid (∀ x : Id, x = s ↔ x.t = s.t ∧ x.r = s.r) := fun x => Id.eq_iff
  rw [hS] at HY HZ
  have HSE : Hid (∀ x : Id, x = S ↔ x.t = s.t ∧ x.r = s.r) := by rw [← hS]; exact HSI.out
  obtain ⟨ts, rs, hts, hrs⟩ := s
  simp only at P0 HSE HW ⊢
  have HGO : Hid (∀ e (W : World), NumI q e → Below w.heap.size w W → NumI q e ∧ Below w.heap.size w W) := fun e W h1 h2 => ⟨h1, h2⟩
  have HQ1 : Hid (∀ j : Nat, q = (j : Int) → NumI q (.returned (.tuple #[.int .i64 (j : Int), .bool true]))) := fun j h => by
    unfold NumI
    rw [h, if_pos (by omega), decide_eq_true (by omega)]
  have HQ0 : Hid (q = -1 → NumI q (.returned (.tuple #[.int .i64 0, .bool false]))) := fun h => by
    unfold NumI
    rw [h, if_neg (by omega), decide_eq_false (by omega)]
  clear hv hq hL hn hl hS HSI hwl NA hNN
  go_enter Tryz.func124, Tryz.ntmps124
  go_wp2
  rw [← HW.out]
  go_loopw [10] (fun i wr => ∃ j : Nat, j ≤ N ∧ i = .int .i64 (j : Int) ∧ Hid (∀ k (h : k < L.length), k < j → L[k]'h ≠ S) ∧ Hid (Below wl.heap.size wl wr)) (fun i _ => N - (intOf i).toNat)
  case atStart => exact ⟨0, by omega, rfl, fun k h hk => by omega, Below.refl _ _⟩
  case round =>
    obtain ⟨j, hj, rfl, hno, hbel⟩ := hrel
    have BW := Lib.hid (bt B0.out hbel.out)
    by_cases hjn : j < N
    rotate_left
    · have q3 : decide (j < N) = false := by simpa using hjn
      have HR := Lib.hid (HQ0.out (HZ.out (fun i h => hno.out i h (by have := HN.out; omega))))
      go_wp2
      go_ret2
      exact HGO.out _ _ HR.out BW.out
    have q3 : decide (j < N) = true := by simpa using hjn
    have hjl : j < L.length := by rw [← HN.out]; exact hjn
    have NX := Lib.hid (fun W (h : Below wr.heap.size wr W) => NB.out W j (bt BW.out h) hjn)
    rw [getD_get hjl] at NX
    obtain ⟨x, hx⟩ : ∃ x, L[j]'hjl = x := ⟨_, rfl⟩
    rw [hx] at NX
    have HX : Hid (L[j]'hjl = x) := hx
    have HXS := Lib.hid (HSE.out x)
    obtain ⟨t, r, ht, hr⟩ := x
    simp only at NX HXS
    have SK : Hid (∀ w' : World, Below wr.heap.size wr w' → Below wr.heap.size wr w' ∧ w'.cell? ⟨w.heap.size, 0, none⟩ = some (.int .u32 (ts : Int)) ∧ w'.cell? ⟨w.heap.size, 1, none⟩ = some (.int .u8 (rs : Int))) := fun W h => by
      have p := P0.out.keeps (bt hbel.out h)
      exact ⟨h, p.2.1, p.2.2⟩
    clear hx
    by_cases he : t = ts ∧ r = rs
    · obtain ⟨rfl, rfl⟩ := he
      have HR := Lib.hid (HQ1.out j (HY.out j hjl hno.out (by rw [HX.out]; exact HXS.out.2 ⟨rfl, rfl⟩)))
      clear HXS HX HY HZ HQ0 HQ1 hno NB
      go_wp2
      refine wp_region_held_drew (S := fun w' => Below wr.heap.size wr w' ∧ w'.cell? ⟨w.heap.size, 0, none⟩ = some (.int .u32 (t : Int)) ∧ w'.cell? ⟨w.heap.size, 1, none⟩ = some (.int .u8 (r : Int))) (by kernel_rfl) (SK.out _ (drew1 _)) (fun hHeld => ?_)
      refine rN 0 ?_
      refine rN 1 ?_
      refine rN 3 ?_
      refine wpAnyH_ready (rs := [2]) (by kernel_rfl) (by simp) ?_
      refine AllReadyH.cons rfl (fun K hK => ?_) ?za2
      case za2 => exact AllReadyH.nil
      go_simp
      refine (NX.out _ hHeld.1).mono ?_
      rintro e w9a2 ⟨rfl, b9⟩
      refine hK.out _ _ (SK.out _ (bt hHeld.1 b9)) (fun hNew => ?_)
      clear hHeld
      have hHeld := hNew
      clear hNew hK K
      refine rX ?_
      refine rN 4 ?_
      refine wpAnyH_done (by kernel_rfl) ?_ _
      go_wp2
      go_ret2
      exact HGO.out _ _ HR.out (bt BW.out hHeld.1)
    have NO : Hid (∀ k (h : k < L.length), k < j + 1 → L[k]'h ≠ S) := fun k h hk => by
      by_cases e : k = j
      · subst e
        rw [HX.out]
        intro e2
        exact he (HXS.out.1 e2)
      · exact hno.out k h (by omega)
    have hne : ¬ t = ts ∨ (t = ts ∧ ¬ r = rs) := by
      by_cases h : t = ts
      · exact .inr ⟨h, fun h2 => he ⟨h, h2⟩⟩
      · exact .inl h
    clear HXS HX HY HZ HQ0 HQ1 hno NB he
    rcases hne with hne | ⟨rfl, hne⟩
    · have hi : ¬ ((t : Int) = (ts : Int)) := by omega
      go_wp2
      refine wp_region_held_drew (S := fun w' => Below wr.heap.size wr w' ∧ w'.cell? ⟨w.heap.size, 0, none⟩ = some (.int .u32 (ts : Int)) ∧ w'.cell? ⟨w.heap.size, 1, none⟩ = some (.int .u8 (rs : Int))) (by kernel_rfl) (SK.out _ (drew1 _)) (fun hHeld => ?_)
      refine rN 0 ?_
      refine rN 1 ?_
      refine rN 3 ?_
      refine wpAnyH_ready (rs := [2]) (by kernel_rfl) (by simp) ?_
      refine AllReadyH.cons rfl (fun K hK => ?_) ?zb2
      case zb2 => exact AllReadyH.nil
      go_simp
      refine (NX.out _ hHeld.1).mono ?_
      rintro e w9b2 ⟨rfl, b9⟩
      refine hK.out _ _ (SK.out _ (bt hHeld.1 b9)) (fun hNew => ?_)
      clear hHeld
      have hHeld := hNew
      clear hNew hK K
      refine rX ?_
      refine rN 4 ?_
      refine wpAnyH_done (by kernel_rfl) ?_ _
      go_wp2
      go_roundw
      case rel => exact ⟨j + 1, by omega, by go_num, NO, Lib.hid (bt hbel.out hHeld.1)⟩
      case measure => simp [intOf]; omega
    · have hi : ¬ ((r : Int) = (rs : Int)) := by omega
      go_wp2
      refine wp_region_held_drew (S := fun w' => Below wr.heap.size wr w' ∧ w'.cell? ⟨w.heap.size, 0, none⟩ = some (.int .u32 (t : Int)) ∧ w'.cell? ⟨w.heap.size, 1, none⟩ = some (.int .u8 (rs : Int))) (by kernel_rfl) (SK.out _ (drew1 _)) (fun hHeld => ?_)
      refine rN 0 ?_
      refine rN 1 ?_
      refine rN 3 ?_
      refine wpAnyH_ready (rs := [2]) (by kernel_rfl) (by simp) ?_
      refine AllReadyH.cons rfl (fun K hK => ?_) ?zc2
      case zc2 => exact AllReadyH.nil
      go_simp
      refine (NX.out _ hHeld.1).mono ?_
      rintro e w9c2 ⟨rfl, b9⟩
      refine hK.out _ _ (SK.out _ (bt hHeld.1 b9)) (fun hNew => ?_)
      clear hHeld
      have hHeld := hNew
      clear hNew hK K
      refine rX ?_
      refine rN 4 ?_
      refine wpAnyH_done (by kernel_rfl) ?_ _
      go_wp2
      go_roundw
      case rel => exact ⟨j + 1, by omega, by go_num, NO, Lib.hid (bt hbel.out hHeld.1)⟩
      case measure => simp [intOf]; omega
end Go.Proofs.YtgjbnbojjgbmcaaGreat.Homes

namespace Go.Proofs.YtgjbnbojjgbmcaaGreat.Marks
open Go.RowKit Go.WideShapes Stamp Go.Proofs.YtgjbnbojjgbmcaaGreat.Place Ops Codes
attribute [local go_sem ↓] Go.wp_at_zero Go.wp_at_succ
set_option maxRecDepth 100000 in
set_option maxHeartbeats 4000000 in
theorem cls_any {u v : Value} {x y : Opn} {w : World} (hu : Runs w u x.pl) (hv : Runs w v y.pl) :
    Calls Tryz.prog 83 #[opv x u, opv y v] w fun e w' => e = .returned (.int .i64 (cmp x.pl y.pl)) ∧ Below w.heap.size w w' := by
  have PC : Hid (∀ W : World, Below w.heap.size w W → Calls Tryz.prog 60 #[u, v] W fun e w' => e = .returned (.int .i64 (cmp x.pl y.pl)) ∧ Below W.heap.size W w') := fun W h => pCompare_any (hu.keeps h) (hv.keeps h)
  have B0 : Hid (Below w.heap.size w ((w.alloc (.cells #[.int .u8 (x.k : Int), .int .u32 (x.t : Int), .int .u8 (x.r : Int), u, .int .i64 x.p] 38)).alloc (.cells #[.int .u8 (y.k : Int), .int .u32 (y.t : Int), .int .u8 (y.r : Int), v, .int .i64 y.p] 38))) := ((Below.refl _ _).alloc (Nat.le_refl _) _).alloc (by simp) _
  obtain ⟨q, hq⟩ : ∃ q, cmp x.pl y.pl = q := ⟨_, rfl⟩
  rw [hq] at PC ⊢
  obtain ⟨uo, uc, rfl⟩ := hu.shape
  obtain ⟨vo, vc, rfl⟩ := hv.shape
  obtain ⟨nu, hnu⟩ : ∃ n, x.pl.length = n := ⟨_, rfl⟩
  obtain ⟨nv, hnv⟩ : ∃ n, y.pl.length = n := ⟨_, rfl⟩
  rw [hnu] at PC B0 ⊢
  rw [hnv] at PC B0 ⊢
  clear hq hu hv hnu hnv
  obtain ⟨k1, t1, r1, l1, p1, hk1, ht1, hr1, hp1⟩ := x
  obtain ⟨k2, t2, r2, l2, p2, hk2, ht2, hr2, hp2⟩ := y
  unfold opv
  simp only at B0 ⊢
  clear hk1 ht1 hr1 hp1 hk2 ht2 hr2 hp2
  go_enter Tryz.func83, Tryz.ntmps83
  go_wp2_with fail
  refine (PC.out _ B0.out).mono ?_
  rintro e w1 ⟨rfl, b1⟩
  have B1 := Lib.hid (bt B0.out b1)
  clear b1 PC B0
  go_wp2
  go_ret
  exact ⟨rfl, B1.out⟩
end Go.Proofs.YtgjbnbojjgbmcaaGreat.Marks

namespace Go.Proofs.YtgjbnbojjgbmcaaGreat.Marks
open Go.Shelf Go.Proofs
def sortOp_ren : Go.Shelf.Ren := ⟨fun | 6 => 82 | 15 => 108 | 14 => 123 | 28 => 159 | 29 => 160 | 20 => 170 | 21 => 171 | 22 => 172 | 23 => 173 | 24 => 174 | 25 => 175 | 26 => 176 | 27 => 177 | 46 => 196 | 47 => 191 | 48 => 192 | 49 => 197 | 50 => 198 | 57 => 203 | n => n, fun | 22 => 22 | 24 => 38 | 25 => 138 | 3 => 3 | 39 => 164 | 0 => 0 | 53 => 26 | 55 => 202 | 4 => 4 | 46 => 195 | 45 => 194 | 50 => 155 | 5 => 5 | 9 => 9 | 66 => 227 | 70 => 231 | 76 => 239 | 77 => 148 | n => n, fun | n => n⟩
theorem sortOp : Go.Proofs.SlLaysF0.n6 Tryz.prog sortOp_ren where
  mixed := by kernel_rfl
  f6 := ⟨ "slices.SortFunc[[]octavo/api.Op,octavo/api.Op]", by decide, Tryz.func82.trans (congrArg some (by kernel_rfl))⟩
  f14 := ⟨ "slices.pdqsortCmpFunc[octavo/api.Op]", by decide, Tryz.func123.trans (congrArg some (by kernel_rfl))⟩
  f15 := Tryz.func108.trans (congrArg some (by kernel_rfl))
  f20 := ⟨ "slices.insertionSortCmpFunc[octavo/api.Op]", by decide, Tryz.func170.trans (congrArg some (by kernel_rfl))⟩
  f21 := ⟨ "slices.heapSortCmpFunc[octavo/api.Op]", by decide, Tryz.func171.trans (congrArg some (by kernel_rfl))⟩
  f22 := ⟨ "slices.breakPatternsCmpFunc[octavo/api.Op]", by decide, Tryz.func172.trans (congrArg some (by kernel_rfl))⟩
  f23 := ⟨ "slices.choosePivotCmpFunc[octavo/api.Op]", by decide, Tryz.func173.trans (congrArg some (by kernel_rfl))⟩
  f24 := ⟨ "slices.reverseRangeCmpFunc[octavo/api.Op]", by decide, Tryz.func174.trans (congrArg some (by kernel_rfl))⟩
  f25 := ⟨ "slices.partialInsertionSortCmpFunc[octavo/api.Op]", by decide, Tryz.func175.trans (congrArg some (by kernel_rfl))⟩
  f26 := ⟨ "slices.partitionEqualCmpFunc[octavo/api.Op]", by decide, Tryz.func176.trans (congrArg some (by kernel_rfl))⟩
  f27 := ⟨ "slices.partitionCmpFunc[octavo/api.Op]", by decide, Tryz.func177.trans (congrArg some (by kernel_rfl))⟩
  f28 := Tryz.func159.trans (congrArg some (by kernel_rfl))
  f29 := Tryz.func160.trans (congrArg some (by kernel_rfl))
  f46 := ⟨ "slices.siftDownCmpFunc[octavo/api.Op]", by decide, Tryz.func196.trans (congrArg some (by kernel_rfl))⟩
  f47 := Tryz.func191.trans (congrArg some (by kernel_rfl))
  f48 := Tryz.func192.trans (congrArg some (by kernel_rfl))
  f49 := ⟨ "slices.medianAdjacentCmpFunc[octavo/api.Op]", by decide, Tryz.func197.trans (congrArg some (by kernel_rfl))⟩
  f50 := ⟨ "slices.medianCmpFunc[octavo/api.Op]", by decide, Tryz.func198.trans (congrArg some (by kernel_rfl))⟩
  f57 := ⟨ "slices.order2CmpFunc[octavo/api.Op]", by decide, Tryz.func203.trans (congrArg some (by kernel_rfl))⟩
  t0 := Tryz.underlying0
  a0 := Tryz.isAgg0
  z0 := Tryz.sizeOf0
  v0 := Tryz.zeroValue0
  t3 := Tryz.underlying3
  a3 := Tryz.isAgg3
  z3 := Tryz.sizeOf3
  v3 := Tryz.zeroValue3
  t4 := Tryz.underlying4
  a4 := Tryz.isAgg4
  z4 := Tryz.sizeOf4
  v4 := Tryz.zeroValue4
  t5 := Tryz.underlying5
  a5 := Tryz.isAgg5
  z5 := Tryz.sizeOf5
  v5 := Tryz.zeroValue5
  t9 := Tryz.underlying9
  a9 := Tryz.isAgg9
  z9 := Tryz.sizeOf9
  v9 := Tryz.zeroValue9
  t22 := Tryz.underlying22
  a22 := Tryz.isAgg22
  z22 := Tryz.sizeOf22
  v22 := Tryz.zeroValue22
  t25 := Tryz.underlying138
  a25 := Tryz.isAgg138
  z25 := Tryz.sizeOf138
  v25 := Tryz.zeroValue138
  t39 := Tryz.underlying164
  a39 := Tryz.isAgg164
  z39 := Tryz.sizeOf164
  v39 := Tryz.zeroValue164
  t45 := Tryz.underlying194
  a45 := Tryz.isAgg194
  z45 := Tryz.sizeOf194
  v45 := Tryz.zeroValue194
  t46 := Tryz.underlying195
  a46 := Tryz.isAgg195
  z46 := Tryz.sizeOf195
  v46 := Tryz.zeroValue195
  t50 := Tryz.underlying155
  a50 := Tryz.isAgg155
  z50 := Tryz.sizeOf155
  v50 := Tryz.zeroValue155
  t53 := Tryz.underlying26
  a53 := Tryz.isAgg26
  z53 := Tryz.sizeOf26
  v53 := Tryz.zeroValue26
  t55 := Tryz.underlying202
  a55 := Tryz.isAgg202
  z55 := Tryz.sizeOf202
  v55 := Tryz.zeroValue202
  t66 := Tryz.underlying227
  a66 := Tryz.isAgg227
  z66 := Tryz.sizeOf227
  v66 := Tryz.zeroValue227
  t70 := Tryz.underlying231
  a70 := Tryz.isAgg231
  z70 := Tryz.sizeOf231
  v70 := Tryz.zeroValue231
  t76 := Tryz.underlying239
  a76 := Tryz.isAgg239
  z76 := Tryz.sizeOf239
  v76 := Tryz.zeroValue239
  t77 := Tryz.underlying148
  a77 := Tryz.isAgg148
  z77 := Tryz.sizeOf148
  v77 := Tryz.zeroValue148
end Go.Proofs.YtgjbnbojjgbmcaaGreat.Marks
