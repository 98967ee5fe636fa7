/- octavo/edit.Insert: what it answers. Conditions: the slice's cells are operations; a text of at most 2^30 bytes. octavo/edit.done[octavo/api.Element]: what it answers, of elements: by what the function that is handed on answers of each. Conditions: none. -/
import Derived.Test.YtgjbnbojjgbmcaaGreatChecked
import Derived.WalkKit
import Derived.WalkSpells
import Derived.WalkLawsBesides
import Derived.Laws.BytesArg
import Derived.Lib.Hide
import Derived.Deep.LoopGhost
import Derived.Laws.AppendOwnNone
import Derived.Laws.OwnMore
import Derived.WideShapes
import Derived.Maps.AppendAt
import Derived.RegionTactic
import Derived.Deep.RegionHeld3
import Derived.Deep.DrawnRows
import Derived.Deep.QuietTactic
import Derived.BigQuiet
import Derived.IntWalk
import Derived.Deep.DeepCutAuto
import Derived.ScopeJumps
import Derived.Test.YtgjbnbojjgbmcaaGreatProg
import Derived.LoopTactic
import Derived.Laws.EntriesVeiled
import Derived.RowKit
import Derived.Lib.DecodeN
import Derived.Lib.RuneBytes
import Derived.Maps.Own
import Derived.Maps.OwnOps
import Derived.Maps.OwnSet
import Derived.Maps.Views
import Derived.DeepKeys4
import Derived.Shelf.SlSortCmp.InsertionK
import Derived.Calls
import Derived.StepT
import Derived.Below
import Derived.Sort.Grow
import Derived.Deep.Draws
import Derived.Shelf.SlLaysF0
import Derived.Shelf.SlSortCmp.NoneTotal
import Derived.Scope
import Derived.Shelf.Abstract
import Derived.RangeFuncBox
import Derived.RangeFuncLeaves
import Derived.RangeFuncNested
import Derived.RangeFuncBound
import Derived.RangeFuncCalls
import Derived.OwnWalkIn
import Derived.TacticsInMore
import Derived.LoopNIn
import Derived.LoopIn
import Derived.Lib.Tables
import Derived.Laws.Bits64
import Derived.Test.YtgjbnbojjgbmcaaGreatShelf
import Derived.Lib.OthersKept
import Derived.BigCall
import Derived.Laws.CopyOwn
import Derived.Deep.AppendSrc
import Derived.Lib.AppendZeros
import Derived.Laws.MakeOwn
import Derived.Deep.RegionWith
import Derived.BigRegion
import Derived.Test.YtgjbnbojjgbmcaaGreatPk11
import Derived.Test.YtgjbnbojjgbmcaaGreatPk06
import Derived.Test.YtgjbnbojjgbmcaaGreatPk05
import Derived.Test.YtgjbnbojjgbmcaaGreatPk04
import Derived.Test.YtgjbnbojjgbmcaaGreatPk03
import Derived.Test.YtgjbnbojjgbmcaaGreatPk02
import Derived.Test.YtgjbnbojjgbmcaaGreatPk01
import Derived.Test.YtgjbnbojjgbmcaaGreatPk10
import Derived.Test.YtgjbnbojjgbmcaaGreatPk07
import Derived.Test.YtgjbnbojjgbmcaaGreatPk08
import Derived.Test.YtgjbnbojjgbmcaaGreatPk09

namespace Go.Proofs.YtgjbnbojjgbmcaaGreat.Edits
open Go.RowKit Go.WideShapes Stamp Go.Proofs.YtgjbnbojjgbmcaaGreat.Place Ops Codes Bags Marks Homes Covers Views
attribute [local go_sem ↓] Go.wp_at_zero Go.wp_at_succ
attribute [local go_sem] yielded_undef
theorem und_deep {p : List Run} {a : Id} {t : Nat} (hp : anyB p = true) (ha : may a.t a.r = true) (hu : Upto t (all p)) (ht : t < a.t) : (und p a).2 = 0 ∨ (und p a).2 = 60 := by
  have hl : ¬ (0 < p.length ∧ (a.t : Int) ≤ fin (p.getD (p.length - 1) zrun)) := by
    rintro ⟨h0, h1⟩
    have hA := (anyB_iff p).1 hp
    have hm : mayB p = true := by
      cases e : mayB p
      · unfold anyB at hp
        rw [e, decide_eq_false (by omega)] at hp
        cases hp
      · rfl
    rcases List.eq_nil_or_concat (all p) with e | ⟨P, b, e⟩
    · rw [(all_nil hA.chain).1 e] at h0
      exact absurd h0 (by decide)
    · rw [List.concat_eq_append] at e
      have hv := lastV_of hm e
      have hb := hu b (by rw [e]; simp)
      unfold lastV at hv
      rw [if_pos hm] at hv
      have h3 := (Prod.mk.inj hv).1
      unfold fin at h1
      omega
  rw [und_may hp ha hl]
  cases mayB (more p a)
  · exact .inr rfl
  · exact .inl rfl
/-- The places that a text's inserts are put under. -/
def pq : List Run → Nat → Nat → Nat → List Run
  | p, _, _, 0 => p
  | p, r, t, j + 1 => pq (und p (mk (t + 1) r)).1 r (t + 1) j
theorem pq_succ : ∀ (j : Nat) (p : List Run) (r t : Nat), pq p r t (j + 1) = (und (pq p r t j) (mk (t + j + 1) r)).1
  | 0, _, _, _ => rfl
  | j + 1, p, r, t => by
    show pq (und p (mk (t + 1) r)).1 r (t + 1) (j + 1) = _
    rw [pq_succ j, show t + 1 + j + 1 = t + (j + 1) + 1 by omega]
    rfl
def oI (p : List Run) (r t : Nat) (cs : List Int) (j : Nat) : Opn := mkO 1 (mk (t + j + 1) r) (und (pq p r t j) (mk (t + j + 1) r)).1 (cs.getD j 0)
def eI (p : List Run) (r t j : Nat) : Int := (und (pq p r t j) (mk (t + j + 1) r)).2
theorem oI_succ (p : List Run) (r t : Nat) (c : Int) (cs : List Int) (j : Nat) : oI p r t (c :: cs) (j + 1) = oI (und p (mk (t + 1) r)).1 r (t + 1) cs j := by
  unfold oI
  rw [show t + (j + 1) + 1 = t + 1 + j + 1 by omega]
  rfl
theorem eI_succ (p : List Run) (r t j : Nat) : eI p r t (j + 1) = eI (und p (mk (t + 1) r)).1 r (t + 1) j := by
  unfold eI
  rw [show t + (j + 1) + 1 = t + 1 + j + 1 by omega]
  rfl
theorem typed_all : ∀ (cs : List Int) (p : List Run) (r t : Nat), (∀ i, i < cs.length → eI p r t i = 0) → typed p r t cs = ((List.range cs.length).map (oI p r t cs), true)
  | [], _, _, _, _ => rfl
  | c :: cs, p, r, t, h => by
    have h0 : (und p (mk (t + 1) r)).2 = 0 := h 0 (by simp)
    have ih := typed_all cs (und p (mk (t + 1) r)).1 r (t + 1) (fun i hi => by rw [← eI_succ]; exact h (i + 1) (by simpa using hi))
    rw [typed_step, if_pos h0, ih, List.length_cons, List.range_succ_eq_map, List.map_cons, List.map_map]
    have e : (oI p r t (c :: cs) ∘ Nat.succ) = oI (und p (mk (t + 1) r)).1 r (t + 1) cs := funext fun j => oI_succ p r t c cs j
    rw [e]
    rfl
theorem typed_no : ∀ (cs : List Int) (p : List Run) (r t j : Nat), j < cs.length → eI p r t j ≠ 0 → (typed p r t cs).2 = false
  | [], _, _, _, j, h, _ => absurd h (Nat.not_lt_zero j)
  | c :: cs, p, r, t, 0, _, h => by
    have h0 : ¬ (und p (mk (t + 1) r)).2 = 0 := h
    rw [typed_step, if_neg h0]
  | c :: cs, p, r, t, j + 1, hj, h => by
    rw [typed_step]
    by_cases h0 : (und p (mk (t + 1) r)).2 = 0
    · rw [if_pos h0]
      exact typed_no cs _ r (t + 1) j (by simpa using hj) (by rw [← eI_succ]; exact h)
    · rw [if_neg h0]
theorem pq_upto {p : List Run} {r t : Nat} (hp : anyB p = true) (hu : Upto t (all p)) (hr : r < 8) : ∀ (j : Nat), t + j ≤ 1073741824 → (∀ i, i < j → eI p r t i = 0) → anyB (pq p r t j) = true ∧ Upto (t + j) (all (pq p r t j))
  | 0, _, _ => ⟨hp, hu⟩
  | j + 1, ht, h => by
    obtain ⟨h1, h2⟩ := pq_upto hp hu hr j (by omega) (fun i hi => h i (by omega))
    obtain ⟨u1, u2, u3, u4⟩ := und_ok (h j (by omega))
    rw [pq_succ]
    refine ⟨anyB_may u3, ?_⟩
    rw [u4]
    intro b hb
    rcases List.mem_append.1 hb with hb | hb
    · have := h2 b hb; omega
    · rw [List.mem_singleton] at hb
      subst hb
      rw [mk_t (by omega)]
      omega
theorem may_mk {t r : Nat} (hr : r < 8) (ht : t + 1 ≤ 1073741824) : may (mk (t + 1) r).t (mk (t + 1) r).r = true := by
  rw [mk_t (by omega), mk_r (by omega)]
  exact may_iff.2 ⟨by omega, by omega, hr⟩
theorem eI_deep {p : List Run} {r t j : Nat} (hp : anyB p = true) (hu : Upto t (all p)) (hr : r < 8) (ht : t + j + 1 ≤ 1073741824) (h : ∀ i, i < j → eI p r t i = 0) : eI p r t j = 0 ∨ eI p r t j = 60 := by
  obtain ⟨h1, h2⟩ := pq_upto hp hu hr j (by omega) h
  exact und_deep h1 (may_mk hr ht) h2 (by rw [mk_t (by omega)]; omega)
theorem left_upto {l : List Opn} {s : Id} (h : spanE l s = 0) {k t : Nat} (hk : k ≤ (elmL l s).length) (ho : Old l t) : Upto t (all (leftP l s k)) := by
  obtain ⟨hb, -⟩ := spanE_zero.1 h
  obtain ⟨hj, -⟩ := sec_where h
  unfold leftP leftM
  split
  · rename_i h0
    have hk1 : k - 1 < (elmL l s).length := by omega
    rw [getD_of hk1]
    have hm := mem_elm_l (List.getElem_mem hk1)
    exact upto_any hm.2.2.2.2.1 (ho _ hm.2.2.1)
  · obtain ⟨j, hjj⟩ : ∃ j, whereN (livesM l l) s = j := ⟨_, rfl⟩
    rw [hjj] at hj ⊢
    cases j with
    | zero => intro b hb2; exact absurd hb2 (by simp [beginM, all])
    | succ j =>
      have hj' : j < (livesM l l).length := by omega
      rw [show ((j + 1 : Nat) : Int) = (j : Int) + 1 by omega, begin_succ hj']
      exact old_lives hb ho _ (List.getElem_mem hj')
/-- A place in a variable, and an error in the next one. -/
def BoxI (pB : Nat) (p : List Run) (W : World) : Prop := ∃ v c, W.heap[pB]? = some (.cells #[v] 33) ∧ W.heap[pB + 1]? = some (.cells #[c] 23) ∧ ∃ b, W.ownsRow b 32 3 v p.length (runs p)
theorem boxI_below {pB : Nat} {p : List Run} {W W' : World} (h : BoxI pB p W) (hb : Below W.heap.size W W') : BoxI pB p W' := by
  obtain ⟨v, c, h1, h2, b, h3⟩ := h
  exact ⟨v, c, blk_below hb h1, blk_below hb h2, b, own_stays h3 hb⟩
theorem boxI_copied {pB H g o : Nat} {p : List Run} {W X : World} {cur cs : List Value} (hg : H ≤ g) (hp : pB + 2 ≤ H) (hw : W.heap[g]? = some (.cells cur.toArray 38 (0, 0))) (hc : Copied W g cur o cs 38 X) (h : BoxI pB p W) : BoxI pB p X := by
  obtain ⟨v, c, h1, h2, b, h3⟩ := h
  exact ⟨v, c, (hc.2.1 pB (by omega)).trans h1, (hc.2.1 (pB + 1) (by omega)).trans h2, b, own_copied h3 hw (by decide) hc⟩
set_option maxRecDepth 100000 in
set_option maxHeartbeats 8000000 in
theorem insOne_any {c : Int} (a : Id) {p : List Run} {pB H : Nat} {W : World} (hb : BoxI pB p W) (hc : -9223372036854775808 ≤ c ∧ c ≤ 9223372036854775807) (hpH : pB + 2 ≤ H) (hHW : H ≤ W.heap.size) :
    Calls Tryz.prog 34 #[.int .i64 c, .agg #[.int .u32 (a.t : Int), .int .u8 (a.r : Int)], .pointer (some ⟨pB, 0, none⟩), .pointer (some ⟨pB + 1, 0, none⟩)] W fun e w' => ∃ u, e = .returned (.tuple #[opv (mkO 1 a (und p a).1 c) u, .int .i64 (und p a).2]) ∧
      w'.ownsRow H 32 3 u (mkO 1 a (und p a).1 c).pl.length (runs (mkO 1 a (und p a).1 c).pl) ∧ Clocks.Apart pB H W w' ∧ BoxI pB (und p a).1 w' := by
  obtain ⟨v, c0, x1, x2, b, x3⟩ := hb
  obtain ⟨N, hN⟩ : ∃ N, W.heap.size = N := ⟨_, rfl⟩
  obtain ⟨wb, hwb⟩ : ∃ x, x = W.alloc (.cells #[.int .u32 (a.t : Int), .int .u8 (a.r : Int)] 28) := ⟨_, rfl⟩
  obtain ⟨wl, hwl⟩ : ∃ x, x = wb.alloc (.cells #[.int .u8 0, .int .u32 0, .int .u8 0, .slice none 0 0, .int .i64 0] 38) := ⟨_, rfl⟩
  have hsz : wb.heap.size = N + 1 := by rw [hwb, ← hN]; exact Array.size_push _
  have hsl : wl.heap.size = N + 2 := by rw [hwl]; exact (Array.size_push _).trans (by rw [hsz])
  have Z0 : wl.heap[N + 1]? = some (.cells #[.int .u8 0, .int .u32 0, .int .u8 0, .slice none 0 0, .int .i64 0] 38) := by rw [hwl, ← hsz]; exact blk_new rfl
  have Bb : Below W.heap.size W wb := by rw [hwb]; exact (Below.refl _ _).alloc (Nat.le_refl _) _
  have B0 : Below W.heap.size W wl := by rw [hwl]; exact Bb.alloc (by omega) _
  have Y0 : wl.heap[N]? = some (.cells #[.int .u32 (a.t : Int), .int .u8 (a.r : Int)] 28) := by
    have h1 : wb.heap[N]? = some (.cells #[.int .u32 (a.t : Int), .int .u8 (a.r : Int)] 28) := by rw [hwb, ← hN]; exact blk_new rfl
    rw [hwl]
    exact blk_below ((Below.refl _ _).alloc (Nat.le_refl _) _) h1
  have HW : Hid (wl = (W.alloc (.cells #[.int .u32 (a.t : Int), .int .u8 (a.r : Int)] 28)).alloc (.cells #[.int .u8 0, .int .u32 0, .int .u8 0, .slice none 0 0, .int .i64 0] 38)) := by rw [hwl, hwb]; rfl
  have X1 := blk_below B0 x1
  have X2 := blk_below B0 x2
  have X3 := own_stays x3 B0
  have UN : Hid (Calls Tryz.prog 35 #[v, .agg #[.int .u32 (a.t : Int), .int .u8 (a.r : Int)]] wl (Undone (und p a).1 (und p a).2 wl)) := pUnder_any (Runs.own X3)
  obtain ⟨U, hU⟩ : ∃ U, (und p a).1 = U := ⟨_, rfl⟩
  obtain ⟨x, hx⟩ : ∃ x, (und p a).2 = x := ⟨_, rfl⟩
  rw [hU, hx] at UN ⊢
  obtain ⟨po, pc, rfl⟩ : ∃ ao cap, v = .slice ao p.length cap := Sees.shape (Sees.own x3)
  obtain ⟨np, hnp⟩ : ∃ n, p.length = n := ⟨_, rfl⟩
  rw [hnp] at UN X1
  have HO : Hid (∀ u : Value, opv (mkO 1 a U c) u = .agg #[.int .u8 1, .int .u32 (a.t : Int), .int .u8 (a.r : Int), u, .int .i64 c]) := fun u => by
    have e : (mkO 1 a U c).p = c := if_pos hc
    unfold opv
    rw [e]
    rfl
  have HP : Hid ((mkO 1 a U c).pl = U) := rfl
  rw [HP.out]
  simp only [HO.out]
  have HB0 := Lib.hid B0
  have HX1 := Lib.hid X1
  have HX2 := Lib.hid X2
  have HY0 := Lib.hid Y0
  have HZ0 := Lib.hid Z0
  have HNW := Lib.hid hN
  have HSL := Lib.hid hsl
  have y0 := cell_of_row _ _ 0 _ _ _ Y0
  have y1 := cell_of_row _ _ 1 _ _ _ Y0
  have x0 := cell_of_row _ _ 0 _ _ _ X1
  have hNH : pB + 2 ≤ N := by omega
  have hH2 : H ≤ N := by omega
  rw [HW.out] at x0
  obtain ⟨ta, ra, hta, hra⟩ := a
  simp only at UN HY0 HW y0 y1 x0 ⊢
  clear hc hwb hwl hsz hsl Bb B0 Y0 Z0 X1 X2 X3 x1 x2 x3 hU hx hnp HO HP hN hHW
  go_enter Tryz.func34, Tryz.ntmps34
  go_wp2_with fail
  rw [← HW.out]
  refine UN.out.mono ?_
  rintro e w1 ⟨uo, uc, rfl, o1, b1⟩
  have B1 := Lib.hid (bt HB0.out b1)
  have K1 := blk_below b1 HX1.out
  have K2 := blk_below b1 HX2.out
  have Y1 := blk_below b1 HY0.out
  have Z1 := blk_below b1 HZ0.out
  obtain ⟨nu, hnu⟩ : ∃ n, U.length = n := ⟨_, rfl⟩
  have HNU := Lib.hid hnu
  rw [hnu] at o1 ⊢
  have k1 := cell_of_row _ _ 0 _ _ _ K1
  have k2 := cell_of_row _ _ 0 _ _ _ K2
  have f1 : w1.frozen? ⟨pB, 0, none⟩ = false := by simp [World.frozen?, K1]
  have hNW := HNW.out
  obtain ⟨W2, hW2⟩ : ∃ y, y = (w1.setCell ⟨pB, 0, none⟩ (.slice uo nu uc)).setCell ⟨pB + 1, 0, none⟩ (.int .i64 x) := ⟨_, rfl⟩
  have M1 := heap_setCell_same w1 pB 0 _ _ (.slice uo nu uc) K1
  have M2 : (w1.setCell ⟨pB, 0, none⟩ (.slice uo nu uc)).heap[pB + 1]? = some (.cells #[c0] 23) := by rw [heap_setCell_other _ _ _ _ (by simp)]; exact K2
  have f2 : (w1.setCell ⟨pB, 0, none⟩ (.slice uo nu uc)).frozen? ⟨pB + 1, 0, none⟩ = false := by simp [World.frozen?, M2]
  have k3 := cell_of_row _ _ 0 _ _ _ M2
  have P2 := heap_setCell_same (w1.setCell ⟨pB, 0, none⟩ (.slice uo nu uc)) (pB + 1) 0 _ _ (.int .i64 x) M2
  have P1 : ((w1.setCell ⟨pB, 0, none⟩ (.slice uo nu uc)).setCell ⟨pB + 1, 0, none⟩ (.int .i64 x)).heap[pB]? = some (.cells #[.slice uo nu uc] 33) := by rw [heap_setCell_other _ _ _ _ (by simp)]; exact M1
  have PY : ((w1.setCell ⟨pB, 0, none⟩ (.slice uo nu uc)).setCell ⟨pB + 1, 0, none⟩ (.int .i64 x)).heap[W.heap.size]? = some (.cells #[.int .u32 (ta : Int), .int .u8 (ra : Int)] 28) := by
    rw [heap_setCell_other _ _ _ _ (by simp; omega), heap_setCell_other _ _ _ _ (by simp; omega), HNW.out]; exact Y1
  have PZ : ((w1.setCell ⟨pB, 0, none⟩ (.slice uo nu uc)).setCell ⟨pB + 1, 0, none⟩ (.int .i64 x)).heap[W.heap.size + 1]? = some (.cells #[.int .u8 0, .int .u32 0, .int .u8 0, .slice none 0 0, .int .i64 0] 38) := by
    rw [heap_setCell_other _ _ _ _ (by simp; omega), heap_setCell_other _ _ _ _ (by simp; omega), HNW.out]; exact Z1
  have hNl : pB + 2 ≤ wl.heap.size := by rw [HSL.out]; omega
  have PO : ((w1.setCell ⟨pB, 0, none⟩ (.slice uo nu uc)).setCell ⟨pB + 1, 0, none⟩ (.int .i64 x)).ownsRow wl.heap.size 32 3 (.slice uo nu uc) nu (runs U) := op_set (H := pB + 1) (op_set (H := pB) o1 (by omega)) (by omega)
  have hB1 : Below pB W w1 := B1.out.mono (by rw [HNW.out]; omega)
  have BB : Below pB W ((w1.setCell ⟨pB, 0, none⟩ (.slice uo nu uc)).setCell ⟨pB + 1, 0, none⟩ (.int .i64 x)) := (hB1.setCell (p := ⟨pB, 0, none⟩) (Nat.le_refl _) _).setCell (p := ⟨pB + 1, 0, none⟩) (Nat.le_succ _) _
  have BA : ∀ j, H ≤ j → j < W.heap.size → ((w1.setCell ⟨pB, 0, none⟩ (.slice uo nu uc)).setCell ⟨pB + 1, 0, none⟩ (.int .i64 x)).heap[j]? = W.heap[j]? := fun j h1 h2 => by
    have m1 : j ≠ pB + 1 := by omega
    have m2 : j ≠ pB := by omega
    rw [heap_setCell_other _ ⟨pB + 1, 0, none⟩ _ _ m1, heap_setCell_other _ ⟨pB, 0, none⟩ _ _ m2]
    exact B1.out.block j h2
  rw [← hW2] at P1 P2 PY PZ PO BB BA
  have HW2 := Lib.hid hW2
  have HPO := Lib.hid PO
  have HBB := Lib.hid BB
  have HBA := Lib.hid BA
  have HP1 := Lib.hid P1
  have HP2 := Lib.hid P2
  have HPZ := Lib.hid PZ
  have q1 := cell_of_row _ _ 0 _ _ _ P1
  have q2 := cell_of_row _ _ 0 _ _ _ P2
  have q3 := cell_of_row _ _ 0 _ _ _ PY
  have q4 := cell_of_row _ _ 1 _ _ _ PY
  obtain ⟨z0, z1, z2, z3, z4⟩ := cells5 PZ
  have n1 : ¬ pB = W.heap.size := by omega
  have n2 : ¬ W.heap.size = pB := by omega
  have hf9 : ∀ o, W2.frozen? ⟨W.heap.size + 1, o, none⟩ = false := fun o => free5 PZ o
  clear o1 b1 K1 K2 Y1 Z1 hnu M1 M2 P1 P2 PY PZ PO BB BA hW2 UN HW hNW
  go_wp2
  rw [← HW2.out]
  clear k1 k2 k3 f1 f2
  go_region
  all_goals go_wp2
  obtain ⟨WX, hWX⟩ : ∃ y, y = put5 W2 (W.heap.size + 1) (.int .u8 1) (.int .u32 (ta : Int)) (.int .u8 (ra : Int)) (.slice uo nu uc) (.int .i64 c) := ⟨_, rfl⟩
  have hN2 : W.heap.size + 1 < wl.heap.size := by rw [HSL.out, HNW.out]; omega
  have OW := (op_base (put5_own (.int .u8 1) (.int .u32 (ta : Int)) (.int .u8 (ra : Int)) (.slice uo nu uc) (.int .i64 c) HPO.out hN2) (show H ≤ wl.heap.size by rw [HSL.out]; omega)).drew
  have BW := (put5_below (.int .u8 1) (.int .u32 (ta : Int)) (.int .u8 (ra : Int)) (.slice uo nu uc) (.int .i64 c) (show pB ≤ W.heap.size + 1 by rw [HNW.out]; omega) HBB.out).drew
  have E1 := put5_other (.int .u8 1) (.int .u32 (ta : Int)) (.int .u8 (ra : Int)) (.slice uo nu uc) (.int .i64 c) (show pB ≠ W.heap.size + 1 by rw [HNW.out]; omega) HP1.out
  have E2 := put5_other (.int .u8 1) (.int .u32 (ta : Int)) (.int .u8 (ra : Int)) (.slice uo nu uc) (.int .i64 c) (show pB + 1 ≠ W.heap.size + 1 by rw [HNW.out]; omega) HP2.out
  have BX : ∀ j, H ≤ j → j < W.heap.size → (put5 W2 (W.heap.size + 1) (.int .u8 1) (.int .u32 (ta : Int)) (.int .u8 (ra : Int)) (.slice uo nu uc) (.int .i64 c)).heap[j]? = W.heap[j]? := fun j h1 h2 => by
    have h3 := HBA.out j h1 h2
    rw [Array.getElem?_eq_getElem h2] at h3 ⊢
    exact put5_other _ _ _ _ _ (show j ≠ W.heap.size + 1 by omega) h3
  obtain ⟨e0, e1, e2, e3, e4⟩ := cells5 (put5_same (.int .u8 1) (.int .u32 (ta : Int)) (.int .u8 (ra : Int)) (.slice uo nu uc) (.int .i64 c) HPZ.out)
  rw [← hWX] at OW BW E1 E2 BX e0 e1 e2 e3 e4
  unfold put5 at hWX
  rw [← hWX]
  refine bodyPost_ret (v := .tuple #[.agg #[.int .u8 1, .int .u32 (ta : Int), .int .u8 (ra : Int), .slice uo nu uc, .int .i64 c], .int .i64 x]) (by simp [results, Tryz.results34, go_sem, e0, e1, e2, e3, e4]) rfl ⟨_, rfl, ?_, ⟨BW, BX⟩, _, _, E1, E2, H, ?_⟩
  · rw [HNU.out]; exact OW
  · rw [HNU.out]; exact OW
theorem ints_apart {B H : Nat} {w w' : World} {b : Nat} {v : Value} {L : List Int} (h : w.ownsRow H 3 1 v L.length (is L)) (ha : Clocks.Apart B H w w') (hb : b = H) : Ints w' v L := by
  subst hb
  exact Sees.own (Clocks.own_apart h ha)
set_option maxRecDepth 100000 in
set_option maxHeartbeats 8000000 in
theorem eInsert_any {v : Value} {l : List Opn} {r t : Nat} (s : Id) (k : Int) (T : ByteArray) {w : World} (hv : OpL w v l) (hr : r < 256) (ht : t < 4294967296) (hT : T.size ≤ 1073741824) (hk : k ≤ 9223372036854775807) :
    Calls Tryz.prog 7 #[v, .int .u8 (r : Int), .int .u32 (t : Int), .agg #[.int .u32 (s.t : Int), .int .u8 (s.r : Int)], .int .i64 k, .string T] w (DoneN (insL l r t s k (Point.pr T.data.toList).1 (Point.pr T.data.toList).2) (insE l r t s k (Point.pr T.data.toList).1 (Point.pr T.data.toList).2) w) := by
  obtain ⟨wl, hwl⟩ : ∃ x, x = w.alloc (.cells #[.int .u32 (s.t : Int), .int .u8 (s.r : Int)] 28) := ⟨_, rfl⟩
  have B0 : Hid (Below w.heap.size w wl) := by rw [hwl]; exact (Below.refl _ _).alloc (Nat.le_refl _) _
  have Y0 : Hid (wl.heap[w.heap.size]? = some (.cells #[.int .u32 (s.t : Int), .int .u8 (s.r : Int)] 28)) := by rw [hwl]; exact blk_new rfl
  have HW := Lib.hid hwl
  have LE : Hid (Calls Tryz.prog 32 #[v, .int .u8 (r : Int), .int .u32 (t : Int), .agg #[.int .u32 (s.t : Int), .int .u8 (s.r : Int)], .int .i64 k] wl (LefN l r t s k wl)) := eLeft_any s k (hv.keeps B0.out) hr ht hk
  unfold LefN at LE
  have PT : Hid (∀ W : World, Calls Tryz.prog 24 #[.string T] W (fun e w' => Point.Ans (Point.pr T.data.toList).1 (Point.pr T.data.toList).2 e W w')) := fun W => Point.points_any T W hT
  have PB := Lib.hid (pr_len T.data.toList)
  unfold Point.Ans at PT
  obtain ⟨cs, f, hcf⟩ : ∃ cs f, Point.pr T.data.toList = (cs, f) := ⟨_, _, rfl⟩
  simp only [hcf] at PT PB ⊢
  have HE : Hid (insE l r t s k cs f = if lefE l r t s k = 0 then (if f = 0 then if cs = [] then 2 else if 64 < cs.length then 4 else if 1073741824 < t + cs.length then 50 else if (typed (leftP l s k.toNat) r t cs).2 = true then 0 else 60 else f) else lefE l r t s k) := by
    unfold Hid insE lefE
    by_cases h1 : askE l r t s = 0
    · rw [if_pos h1, if_pos h1]
      by_cases h2 : 0 ≤ k ∧ k ≤ ((elmL l s).length : Int)
      · rw [if_pos h2, if_pos h2]; rfl
      · rw [if_neg h2, if_neg h2]; rfl
    · rw [if_neg h1, if_neg h1, if_neg h1]
  have HL : Hid (insL l r t s k cs f = if insE l r t s k cs f = 0 then (typed (leftP l s k.toNat) r t cs).1 else []) := rfl
  have HLP : Hid (lefE l r t s k = 0 → lefP l r t s k = leftP l s k.toNat ∧ r < 8 ∧ anyB (leftP l s k.toNat) = true ∧ Upto t (all (leftP l s k.toNat))) := fun h => by
    have ha : askE l r t s = 0 := by
      unfold lefE at h
      by_cases h1 : askE l r t s = 0
      · exact h1
      · rw [if_neg h1] at h; exact h
    have hk2 : 0 ≤ k ∧ k ≤ ((elmL l s).length : Int) := by
      unfold lefE at h
      rw [if_pos ha] at h
      by_cases h2 : 0 ≤ k ∧ k ≤ ((elmL l s).length : Int)
      · exact h2
      · rw [if_neg h2] at h; cases h
    obtain ⟨a1, a2, a3⟩ := askE_zero.1 ha
    exact ⟨by unfold lefP; rw [if_pos h], a1, left_any a3 (by omega), left_upto a3 (by omega) a2⟩
  obtain ⟨ao, cap, rfl⟩ := hv.shape
  obtain ⟨n, hn⟩ : ∃ n, l.length = n := ⟨_, rfl⟩
  rw [hn] at LE ⊢
  obtain ⟨ie, hie⟩ : ∃ x, insE l r t s k cs f = x := ⟨_, rfl⟩
  rw [hie] at HE HL ⊢
  obtain ⟨il, hil⟩ : ∃ x, insL l r t s k cs f = x := ⟨_, rfl⟩
  rw [hil] at HL ⊢
  obtain ⟨a, ha⟩ : ∃ a, lefE l r t s k = a := ⟨_, rfl⟩
  rw [ha] at LE HE HLP
  obtain ⟨LP, hLP⟩ : ∃ LP, leftP l s k.toNat = LP := ⟨_, rfl⟩
  rw [hLP] at HE HL HLP
  obtain ⟨P, hP⟩ : ∃ P, lefP l r t s k = P := ⟨_, rfl⟩
  rw [hP] at LE HLP
  have BS : Hid (∀ w1 : World, Below w.heap.size w w1 → w.heap.size ≤ w1.heap.size) := fun w1 h => h.size
  clear hv hwl hn hie hil ha hLP hP hcf hT hk
  obtain ⟨ts, rs, hts, hrs⟩ := s
  simp only at Y0 HW LE ⊢
  have d0 := cell_of_row _ _ 0 _ _ _ Y0.out
  have d1 := cell_of_row _ _ 1 _ _ _ Y0.out
  by_cases h0 : a = 0
  rotate_left
  · obtain rfl : ie = a := by rw [HE.out, if_neg h0]
    obtain rfl : il = [] := by rw [HL.out, if_neg h0]
    have t1 : (ie != 0) = true := by simpa using h0
    have t2 : decide (ie = 0) = false := decide_eq_false h0
    clear HE HL HLP PT PB
    go_enter Tryz.func7, Tryz.ntmps7
    go_wp2_with fail
    rw [← HW.out]
    refine LE.out.mono ?_
    rintro e w1 ⟨v1, rfl, o1, b1⟩
    obtain ⟨po, pc, rfl⟩ : ∃ ao cap, v1 = .slice ao P.length cap := Sees.shape (Sees.own o1)
    have B1 := Lib.hid (bt B0.out b1)
    generalize P.length = np at *
    have B2 : Hid (Below w.heap.size w ((w1.alloc (.cells #[.slice po np pc] 33)).alloc (.cells #[.int .i64 ie] 23))) := (B1.out.alloc B1.out.size _).alloc (Nat.le_trans B1.out.size (Nat.le_trans (Nat.le_succ _) (by simp))) _
    clear b1 o1 Y0 B0 HW LE d0 d1
    go_wp2
    go_quiet (fail)
    go_wp2
    exact bodyPost_ret (v := .tuple #[.slice none 0 0, .int .i64 ie]) (by simp [results, Tryz.results7, go_sem]) rfl ⟨_, rfl, OwnL.nil _ _, below_draw B2.out _⟩
  subst h0
  rw [if_pos rfl] at HE
  obtain ⟨hPL, hr8, hAL, hUL⟩ := HLP.out rfl
  subst hPL
  clear HLP
  obtain ⟨nc, hnc⟩ : ∃ n, cs.length = n := ⟨_, rfl⟩
  have HNC := Lib.hid hnc
  rw [hnc] at PT HE
  have hcs0 : cs = [] ↔ nc = 0 := by rw [← hnc]; exact List.length_eq_zero_iff.symm
  simp only [hcs0] at HE
  clear hcs0
  have DN : Hid (f = 0 → ∀ (pB : Nat) (w3 : World) (co : Option Addr) (cc : Nat), 0 < nc → nc ≤ 64 → BoxI pB P w3 → pB + 2 ≤ w3.heap.size → w3.ownsRow (pB + 2) 3 1 (.slice co nc cc) nc (is cs) →
      Calls Tryz.prog 33 #[.slice co nc cc, .int .u8 (r : Int), .int .u32 (t : Int), .func (.func 34) #[] #[.pointer (some ⟨pB, 0, none⟩), .pointer (some ⟨pB + 1, 0, none⟩)]] w3 (DoneX t nc (oI P r t cs) (eI P r t) pB (pB + 2) w3)) := fun hf pB w3 co cc h1 h2 hbox hsz hown => by
    subst hnc
    refine eDoneI_any (O := oI P r t cs) (E := eI P r t) (fun j W => BoxI pB (pq P r t j) W) hbox (fun j W W' => boxI_below) (fun j W X g o cur cs' h3 h4 h5 => boxI_copied h3 (Nat.le_refl _) h4 h5) h1 h2 ht (Nat.le_add_right _ _) hsz (fun W hW => ints_apart hown hW rfl) (fun j W hj hl hA hS => ?_)
    have hcb : -9223372036854775808 ≤ cs.getD j 0 ∧ cs.getD j 0 ≤ 9223372036854775807 := by
      rw [List.getD_eq_getElem?_getD, List.getElem?_eq_getElem hj]
      exact PB.out hf _ (List.getElem_mem hj)
    have h := insOne_any (H := pB + 2) (mk (t + j + 1) r) hS hcb (Nat.le_refl _) (Nat.le_trans hsz hA.1.size)
    have e1 : ((mk (t + j + 1) r).t : Int) = (t : Int) + 1 + (j : Int) := by rw [mk_t (by omega)]; omega
    have e2 : ((mk (t + j + 1) r).r : Int) = (r : Int) := by rw [mk_r hr]
    rw [e1, e2] at h
    refine h.mono ?_
    rintro e w' ⟨u, g1, g2, g3, g4⟩
    refine ⟨u, g1, g2, g3, fun _ => ?_⟩
    rw [pq_succ]
    exact g4
  have HR : Hid (f = 0 → 0 < nc → nc ≤ 64 → ∀ (x4 : Int) (L4 : List Opn), ((1073741824 < t + nc ∧ x4 = 50 ∧ L4 = []) ∨ (t + nc ≤ 1073741824 ∧ ∃ j, j < nc ∧ (∀ i, i < j → eI P r t i = 0) ∧ eI P r t j ≠ 0 ∧ x4 = eI P r t j ∧ L4 = []) ∨ (t + nc ≤ 1073741824 ∧ (∀ i, i < nc → eI P r t i = 0) ∧ x4 = 0 ∧ L4 = (List.range nc).map (oI P r t cs))) → x4 = ie ∧ L4 = il) := fun hf h1 h2 x4 L4 h => by
    have hE := HE.out
    have hL := HL.out
    rw [if_pos hf, if_neg (by omega), if_neg (by omega)] at hE
    subst hnc
    rcases h with ⟨h3, rfl, rfl⟩ | ⟨h3, j, h4, h5, h6, rfl, rfl⟩ | ⟨h3, h4, rfl, rfl⟩
    · rw [if_pos h3] at hE
      rw [hE] at hL ⊢
      rw [hL, if_neg (by decide)]
      exact ⟨rfl, rfl⟩
    · rw [if_neg (by omega), typed_no cs P r t j h4 h6, if_neg (by decide)] at hE
      rw [hE] at hL ⊢
      rw [hL, if_neg (by decide)]
      rcases eI_deep hAL hUL hr8 (by omega) h5 with h7 | h7
      · exact absurd h7 h6
      · exact ⟨h7, rfl⟩
    · rw [if_neg (by omega), typed_all cs P r t h4, if_pos rfl] at hE
      rw [hE] at hL ⊢
      rw [hL, if_pos rfl, typed_all cs P r t h4]
      exact ⟨rfl, rfl⟩
  clear hAL hUL hr8 hnc
  by_cases hf : f = 0
  rotate_left
  · obtain rfl : ie = f := by rw [HE.out, if_neg hf]
    obtain rfl : il = [] := by rw [HL.out, if_neg hf]
    have t1 : (ie != 0) = true := by simpa using hf
    have t2 : decide (ie = 0) = false := decide_eq_false hf
    clear HE HL HR DN PB
    go_enter Tryz.func7, Tryz.ntmps7
    go_wp2_with fail
    rw [← HW.out]
    refine LE.out.mono ?_
    rintro e w1 ⟨v1, rfl, o1, b1⟩
    obtain ⟨po, pc, rfl⟩ : ∃ ao cap, v1 = .slice ao P.length cap := Sees.shape (Sees.own o1)
    have B1 := Lib.hid (bt B0.out b1)
    generalize P.length = np at *
    obtain ⟨wm, hwm⟩ : ∃ y, y = (w1.alloc (.cells #[.slice po np pc] 33)).alloc (.cells #[.int .i64 0] 23) := ⟨_, rfl⟩
    have hs1 : (w1.alloc (.cells #[.slice po np pc] 33)).heap.size = w1.heap.size + 1 := Array.size_push _
    have C2 : wm.heap[w1.heap.size + 1]? = some (.cells #[.int .i64 0] 23) := by rw [hwm, ← hs1]; exact blk_new rfl
    have BM : Below w1.heap.size w1 wm := by rw [hwm]; exact ((Below.refl _ _).alloc (Nat.le_refl _) _).alloc (by omega) _
    have HWM := Lib.hid hwm
    have HC2 := Lib.hid C2
    have HBM := Lib.hid (bt B1.out BM)
    clear b1 o1 Y0 B0 HW LE d0 d1 hwm hs1 C2 BM
    go_wp2_with fail
    rw [← HWM.out]
    refine (PT.out wm).mono ?_
    rintro e w2 ⟨co, cc, rfl, o2, b2⟩
    have K2 := Lib.hid (blk_below b2 HC2.out)
    have B2 := Lib.hid (bt HBM.out b2)
    have k2 := cell_of_row _ _ 0 _ _ _ K2.out
    have f2 : w2.frozen? ⟨w1.heap.size + 1, 0, none⟩ = false := by simp [World.frozen?, K2.out]
    clear o2 b2 PT HWM HC2 HBM
    obtain ⟨W3, hW3⟩ : ∃ y, y = w2.setCell ⟨w1.heap.size + 1, 0, none⟩ (.int .i64 ie) := ⟨_, rfl⟩
    have M3 := heap_setCell_same w2 (w1.heap.size + 1) 0 _ _ (.int .i64 ie) K2.out
    rw [← hW3] at M3
    have B3 : Hid (Below w.heap.size w W3) := by rw [hW3]; exact B2.out.setCell (p := ⟨w1.heap.size + 1, 0, none⟩) (Nat.le_trans B1.out.size (Nat.le_succ _)) _
    have HW3 := Lib.hid hW3
    have m3 := cell_of_row _ _ 0 _ _ _ M3
    clear hW3
    go_wp2
    rw [← HW3.out]
    clear k2 f2
    go_wp2
    go_quiet (fail)
    go_wp2
    exact bodyPost_ret (v := .tuple #[.slice none 0 0, .int .i64 ie]) (by simp [results, Tryz.results7, go_sem]) rfl ⟨_, rfl, OwnL.nil _ _, below_draw B3.out _⟩
  subst hf
  rw [if_pos rfl] at HE
  by_cases hc0 : nc = 0
  · subst hc0
    obtain rfl : ie = 2 := by rw [HE.out, if_pos rfl]
    obtain rfl : il = [] := by rw [HL.out, if_neg (by decide)]
    clear HE HL HR DN PB
    go_enter Tryz.func7, Tryz.ntmps7
    go_wp2_with fail
    rw [← HW.out]
    refine LE.out.mono ?_
    rintro e w1 ⟨v1, rfl, o1, b1⟩
    obtain ⟨po, pc, rfl⟩ : ∃ ao cap, v1 = .slice ao P.length cap := Sees.shape (Sees.own o1)
    have B1 := Lib.hid (bt B0.out b1)
    generalize P.length = np at *
    obtain ⟨wm, hwm⟩ : ∃ y, y = (w1.alloc (.cells #[.slice po np pc] 33)).alloc (.cells #[.int .i64 0] 23) := ⟨_, rfl⟩
    have hs1 : (w1.alloc (.cells #[.slice po np pc] 33)).heap.size = w1.heap.size + 1 := Array.size_push _
    have C2 : wm.heap[w1.heap.size + 1]? = some (.cells #[.int .i64 0] 23) := by rw [hwm, ← hs1]; exact blk_new rfl
    have BM : Below w1.heap.size w1 wm := by rw [hwm]; exact ((Below.refl _ _).alloc (Nat.le_refl _) _).alloc (by omega) _
    have HWM := Lib.hid hwm
    have HC2 := Lib.hid C2
    have HBM := Lib.hid (bt B1.out BM)
    clear b1 o1 Y0 B0 HW LE d0 d1 hwm hs1 C2 BM
    go_wp2_with fail
    rw [← HWM.out]
    refine (PT.out wm).mono ?_
    rintro e w2 ⟨co, cc, rfl, o2, b2⟩
    have K2 := Lib.hid (blk_below b2 HC2.out)
    have B2 := Lib.hid (bt HBM.out b2)
    have k2 := cell_of_row _ _ 0 _ _ _ K2.out
    have f2 : w2.frozen? ⟨w1.heap.size + 1, 0, none⟩ = false := by simp [World.frozen?, K2.out]
    clear o2 b2 PT HWM HC2 HBM
    obtain ⟨W3, hW3⟩ : ∃ y, y = w2.setCell ⟨w1.heap.size + 1, 0, none⟩ (.int .i64 0) := ⟨_, rfl⟩
    have M3 := heap_setCell_same w2 (w1.heap.size + 1) 0 _ _ (.int .i64 0) K2.out
    rw [← hW3] at M3
    have B3 : Hid (Below w.heap.size w W3) := by rw [hW3]; exact B2.out.setCell (p := ⟨w1.heap.size + 1, 0, none⟩) (Nat.le_trans B1.out.size (Nat.le_succ _)) _
    have HW3 := Lib.hid hW3
    have m3 := cell_of_row _ _ 0 _ _ _ M3
    clear hW3
    go_wp2
    rw [← HW3.out]
    clear k2 f2
    go_wp2
    exact bodyPost_ret (v := .tuple #[.slice none 0 0, .int .i64 2]) (by simp [results, Tryz.results7, go_sem]) rfl ⟨_, rfl, OwnL.nil _ _, B3.out⟩
  have q1 : decide (nc = 0) = false := decide_eq_false hc0
  have q2 : decide ((nc : Int) = 0) = false := decide_eq_false (by omega)
  by_cases hc1 : 64 < nc
  · have q3 : decide (64 < nc) = true := decide_eq_true hc1
    have q4 : decide ((64 : Int) < (nc : Int)) = true := decide_eq_true (by omega)
    obtain rfl : ie = 4 := by rw [HE.out, if_neg hc0, if_pos hc1]
    obtain rfl : il = [] := by rw [HL.out, if_neg (by decide)]
    clear HE HL HR DN PB
    go_enter Tryz.func7, Tryz.ntmps7
    go_wp2_with fail
    rw [← HW.out]
    refine LE.out.mono ?_
    rintro e w1 ⟨v1, rfl, o1, b1⟩
    obtain ⟨po, pc, rfl⟩ : ∃ ao cap, v1 = .slice ao P.length cap := Sees.shape (Sees.own o1)
    have B1 := Lib.hid (bt B0.out b1)
    generalize P.length = np at *
    obtain ⟨wm, hwm⟩ : ∃ y, y = (w1.alloc (.cells #[.slice po np pc] 33)).alloc (.cells #[.int .i64 0] 23) := ⟨_, rfl⟩
    have hs1 : (w1.alloc (.cells #[.slice po np pc] 33)).heap.size = w1.heap.size + 1 := Array.size_push _
    have C2 : wm.heap[w1.heap.size + 1]? = some (.cells #[.int .i64 0] 23) := by rw [hwm, ← hs1]; exact blk_new rfl
    have BM : Below w1.heap.size w1 wm := by rw [hwm]; exact ((Below.refl _ _).alloc (Nat.le_refl _) _).alloc (by omega) _
    have HWM := Lib.hid hwm
    have HC2 := Lib.hid C2
    have HBM := Lib.hid (bt B1.out BM)
    clear b1 o1 Y0 B0 HW LE d0 d1 hwm hs1 C2 BM
    go_wp2_with fail
    rw [← HWM.out]
    refine (PT.out wm).mono ?_
    rintro e w2 ⟨co, cc, rfl, o2, b2⟩
    have K2 := Lib.hid (blk_below b2 HC2.out)
    have B2 := Lib.hid (bt HBM.out b2)
    have k2 := cell_of_row _ _ 0 _ _ _ K2.out
    have f2 : w2.frozen? ⟨w1.heap.size + 1, 0, none⟩ = false := by simp [World.frozen?, K2.out]
    clear o2 b2 PT HWM HC2 HBM
    obtain ⟨W3, hW3⟩ : ∃ y, y = w2.setCell ⟨w1.heap.size + 1, 0, none⟩ (.int .i64 0) := ⟨_, rfl⟩
    have M3 := heap_setCell_same w2 (w1.heap.size + 1) 0 _ _ (.int .i64 0) K2.out
    rw [← hW3] at M3
    have B3 : Hid (Below w.heap.size w W3) := by rw [hW3]; exact B2.out.setCell (p := ⟨w1.heap.size + 1, 0, none⟩) (Nat.le_trans B1.out.size (Nat.le_succ _)) _
    have HW3 := Lib.hid hW3
    have m3 := cell_of_row _ _ 0 _ _ _ M3
    clear hW3
    go_wp2
    rw [← HW3.out]
    clear k2 f2
    go_wp2
    exact bodyPost_ret (v := .tuple #[.slice none 0 0, .int .i64 4]) (by simp [results, Tryz.results7, go_sem]) rfl ⟨_, rfl, OwnL.nil _ _, B3.out⟩
  have q3 : decide (64 < nc) = false := decide_eq_false hc1
  have q4 : decide ((64 : Int) < (nc : Int)) = false := decide_eq_false (by omega)
  have DN2 := Lib.hid (DN.out rfl)
  have HR2 := Lib.hid (HR.out rfl (by omega) (by omega))
  clear HE HL HR DN PB
  go_enter Tryz.func7, Tryz.ntmps7
  go_wp2_with fail
  rw [← HW.out]
  refine LE.out.mono ?_
  rintro e w1 ⟨v1, rfl, o1, b1⟩
  obtain ⟨po, pc, rfl⟩ : ∃ ao cap, v1 = .slice ao P.length cap := Sees.shape (Sees.own o1)
  have B1 := Lib.hid (bt B0.out b1)
  obtain ⟨np, hnp⟩ : ∃ n, P.length = n := ⟨_, rfl⟩
  have HNP := Lib.hid hnp
  rw [hnp] at o1 ⊢
  obtain ⟨wm, hwm⟩ : ∃ y, y = (w1.alloc (.cells #[.slice po np pc] 33)).alloc (.cells #[.int .i64 0] 23) := ⟨_, rfl⟩
  have hs1 : (w1.alloc (.cells #[.slice po np pc] 33)).heap.size = w1.heap.size + 1 := Array.size_push _
  have hs2 : wm.heap.size = w1.heap.size + 2 := by rw [hwm]; exact (Array.size_push _).trans (by rw [hs1])
  have C1 : wm.heap[w1.heap.size]? = some (.cells #[.slice po np pc] 33) := by
    rw [hwm]
    exact blk_below ((Below.refl _ _).alloc (Nat.le_refl _) _) (blk_new rfl)
  have C2 : wm.heap[w1.heap.size + 1]? = some (.cells #[.int .i64 0] 23) := by rw [hwm, ← hs1]; exact blk_new rfl
  have BM : Below w1.heap.size w1 wm := by rw [hwm]; exact ((Below.refl _ _).alloc (Nat.le_refl _) _).alloc (by omega) _
  have HWM := Lib.hid hwm
  have HS2 := Lib.hid hs2
  have HC1 := Lib.hid C1
  have HC2 := Lib.hid C2
  have HOP := Lib.hid (own_stays o1 BM)
  have HBM := Lib.hid (bt B1.out BM)
  clear b1 o1 Y0 B0 HW LE d0 d1 hwm hs1 hs2 C1 C2 BM hnp
  go_wp2_with fail
  rw [← HWM.out]
  refine (PT.out wm).mono ?_
  rintro e w2 ⟨co, cc, rfl, o2, b2⟩
  have K1 := Lib.hid (blk_below b2 HC1.out)
  have K2 := Lib.hid (blk_below b2 HC2.out)
  have B2 := Lib.hid (bt HBM.out b2)
  have hsz2 : w1.heap.size + 2 ≤ w2.heap.size := by rw [← HS2.out]; exact b2.size
  have k2 := cell_of_row _ _ 0 _ _ _ K2.out
  have f2 : w2.frozen? ⟨w1.heap.size + 1, 0, none⟩ = false := by simp [World.frozen?, K2.out]
  obtain ⟨W3, hW3⟩ : ∃ y, y = w2.setCell ⟨w1.heap.size + 1, 0, none⟩ (.int .i64 0) := ⟨_, rfl⟩
  have M3 := heap_setCell_same w2 (w1.heap.size + 1) 0 _ _ (.int .i64 0) K2.out
  have M1 : (w2.setCell ⟨w1.heap.size + 1, 0, none⟩ (.int .i64 0)).heap[w1.heap.size]? = some (.cells #[.slice po np pc] 33) := by
    rw [heap_setCell_other _ ⟨w1.heap.size + 1, 0, none⟩ _ _ (Nat.ne_of_lt (Nat.lt_succ_self _))]
    exact K1.out
  have OX := own_stays HOP.out b2
  have O2 := op_set (H := w1.heap.size + 1) (o := 0) (d := .int .i64 0) (op_base o2 (show w1.heap.size + 2 ≤ wm.heap.size by rw [HS2.out]; exact Nat.le_refl _)) (Nat.lt_succ_self _)
  have OY : (w2.setCell ⟨w1.heap.size + 1, 0, none⟩ (.int .i64 0)).ownsRow wl.heap.size 32 3 (.slice po np pc) np (runs P) := by
    refine ⟨OX.1, OX.2.imp id ?_⟩
    rintro ⟨g, c, cur, e1, e2, e3, e4⟩
    refine ⟨g, c, cur, e1, e2, ?_, e4⟩
    rw [heap_setCell_other _ ⟨w1.heap.size + 1, 0, none⟩ _ _ (fun h => by
      have h : g = w1.heap.size + 1 := h
      rw [h, K2.out] at e3
      injection e3 with e3
      injection e3 with e5 e6
      exact absurd e6 (by decide))]
    exact e3
  rw [← hW3] at M3 M1 O2 OY
  have B3 : Hid (Below w.heap.size w W3) := by rw [hW3]; exact B2.out.setCell (p := ⟨w1.heap.size + 1, 0, none⟩) (Nat.le_trans B1.out.size (Nat.le_succ _)) _
  have hsz3 : w1.heap.size + 2 ≤ W3.heap.size := by rw [hW3]; simpa using hsz2
  have BX : Hid (BoxI w1.heap.size P W3) := ⟨_, _, M1, M3, wl.heap.size, by rw [HNP.out]; exact OY⟩
  have CD := Lib.hid (DN2.out w1.heap.size W3 co cc (by omega) (by omega) BX.out hsz3 O2)
  have HW3 := Lib.hid hW3
  have m3 := cell_of_row _ _ 0 _ _ _ M3
  clear hW3 o2 b2 PT HWM HC1 HC2 HBM K1 K2 OX O2 OY M1 M3 HOP DN2 BX
  go_wp2_with fail
  rw [← HW3.out]
  refine CD.out.mono ?_
  rintro e w4 ⟨v4, x4, L4, rfl, o4, a4, h4⟩
  obtain ⟨rfl, rfl⟩ := HR2.out x4 L4 h4
  have O4 := Lib.hid (o4.base (b' := w.heap.size) (by have := B1.out.size; omega))
  have B4 : Hid (Below w.heap.size w w4) := B3.out.trans (a4.1.mono B1.out.size)
  clear o4 a4 h4 CD HR2 m3 k2 f2
  go_wp2
  exact bodyPost_ret (v := .tuple #[v4, .int .i64 x4]) (by simp [results, Tryz.results7, go_sem]) rfl ⟨_, rfl, O4.out, B4.out⟩
end Go.Proofs.YtgjbnbojjgbmcaaGreat.Edits

namespace Go.Proofs.YtgjbnbojjgbmcaaGreat.Edits
open Go.RowKit Go.WideShapes Stamp Go.Proofs.YtgjbnbojjgbmcaaGreat.Place Ops Codes Bags Marks Homes Covers Views
attribute [local go_sem ↓] Go.wp_at_zero Go.wp_at_succ
attribute [local go_sem] yielded_undef
set_option maxRecDepth 100000 in
set_option maxHeartbeats 8000000 in
theorem eDoneE_any {gb go nn cc : Nat} {Y : Nat → Opn} {r t B H : Nat} {w : World} (O : Nat → Opn) (E : Nat → Int) (hn0 : 0 < nn) (hn1 : nn ≤ 64) (ht : t < 4294967296) (hB : B ≤ H) (hH : H ≤ w.heap.size)
    (hc : ∀ W : World, Clocks.Apart B H w W → ∀ j, j < nn → gb < W.heap.size ∧ ∃ u, W.cell? ⟨gb, go + j * 4, none⟩ = some (.int .u32 ((Y j).t : Int)) ∧ W.cell? ⟨gb, go + j * 4 + 1, none⟩ = some (.int .u8 ((Y j).r : Int)) ∧ W.cell? ⟨gb, go + j * 4 + 2, none⟩ = some u ∧ W.cell? ⟨gb, go + j * 4 + 3, none⟩ = some (.int .i64 (Y j).p) ∧ W.ownsRow H 32 3 u (Y j).pl.length (runs (Y j).pl))
    (hf : ∀ (j : Nat) (W : World) (u : Value) (_ : W.ownsRow H 32 3 u (Y j).pl.length (runs (Y j).pl)), j < nn → t + nn ≤ 1073741824 → Clocks.Apart B H w W → Calls Tryz.prog 50 #[elv (Y j) u, .agg #[.int .u32 ((t : Int) + 1 + (j : Int)), .int .u8 (r : Int)]] W fun e w' => ∃ u, e = .returned (.tuple #[opv (O j) u, .int .i64 (E j)]) ∧ w'.ownsRow H 32 3 u (O j).pl.length (runs (O j).pl) ∧ Clocks.Apart B H W w') :
    Calls Tryz.prog 49 #[(.slice (some ⟨gb, go, none⟩) nn cc), .int .u8 (r : Int), .int .u32 (t : Int), .func (.func 50) #[] #[]] w (DoneX t nn O E B H w) := by
  have eg := enters_of Tryz.func50 (by kernel_rfl) rfl
  obtain ⟨N0, hN0⟩ : ∃ x, w.heap.size = x := ⟨_, rfl⟩
  unfold DoneX
  have HC := Lib.hid hc
  have HF := Lib.hid hf
  obtain ⟨n, hn⟩ : ∃ n, nn = n := ⟨_, rfl⟩
  subst hn
  obtain ⟨n, hn⟩ : ∃ n, nn = n := ⟨_, rfl⟩
  subst hn
  have w5 : IntKind.u32.wrap ((nn : Nat) : Int) = ((nn : Nat) : Int) := IntWalk.u32_in _ (by omega)
  have w6 : IntKind.u32.wrap ((1073741824 : Int) - ((nn : Nat) : Int)) = (1073741824 : Int) - ((nn : Nat) : Int) := IntWalk.u32_in _ (by omega)
  clear hc hf
  by_cases hl : 1073741824 < t + nn
  · have q1 : decide ((1073741824 : Int) - ((nn : Nat) : Int) < (t : Int)) = true := decide_eq_true (by omega)
    have R1 : Hid (Clocks.Apart B H w w) := ⟨Below.refl _ _, fun _ _ _ => rfl⟩
    clear HC HF
    go_enter Tryz.func49, Tryz.ntmps49
    go_wp2
    exact bodyPost_ret (v := .tuple #[.slice none 0 0, .int .i64 50]) (by simp [results, Tryz.results49, go_sem]) rfl ⟨_, _, _, rfl, OwnL.nil _ _, R1.out, .inl ⟨hl, rfl, rfl⟩⟩
  have q1 : decide ((1073741824 : Int) - ((nn : Nat) : Int) < (t : Int)) = false := decide_eq_false (by omega)
  have hl2 : t + nn ≤ 1073741824 := by omega
  obtain ⟨Z, hZ, MK⟩ := made_opsN nn (by omega)
  have HZ := Lib.hid hZ
  have mk1 := MK w
  rw [hN0] at mk1
  obtain ⟨wm, hwm⟩ : ∃ x, w.alloc (.cells Z.toArray 38) = x := ⟨_, rfl⟩
  have HWM := Lib.hid hwm
  have BM : Below w.heap.size w wm := by rw [← hwm]; exact (Below.refl _ _).alloc (Nat.le_refl _) _
  have L0 : Hid (Laid H N0 Z O 0 wm) := ⟨[], rfl, by rw [← hwm, ← hN0]; exact blk_new rfl⟩
  have A0 : Hid (Clocks.Apart B H w wm) := Clocks.Apart.of BM (Nat.le_trans hB hH)
  rw [hN0] at hH
  have HN0 := Lib.hid hN0
  have E0 : Hid (∀ i, i < 0 → E i = 0) := fun i h => absurd h (Nat.not_lt_zero i)
  clear hZ MK BM hwm
  go_enter Tryz.func49, Tryz.ntmps49
  go_wp2
  rw [HWM.out]
  go_loopw [8, 23] (fun v8 i wr => ∃ j : Nat, j ≤ nn ∧ v8 = .slice (some ⟨N0, 0, none⟩) nn nn ∧ i = .int .i64 (j : Int) ∧ Hid (Laid H N0 Z O j wr) ∧ Hid (Clocks.Apart B H w wr) ∧ Hid (∀ i, i < j → E i = 0)) (fun _ i _ => nn - (intOf i).toNat)
  case atStart => exact ⟨0, by omega, rfl, rfl, L0, A0, E0⟩
  case round =>
    clear L0 A0 E0
    obtain ⟨j, hj, rfl, rfl, hlaid, hap, hez⟩ := hrel
    by_cases hjn : j < nn
    rotate_left
    · have q3 : decide (j < nn) = false := by simpa using hjn
      obtain rfl : j = nn := by omega
      have R1 : Hid (OwnL wr H (.slice (some ⟨N0, 0, none⟩) j j) ((List.range j).map O)) := by
        obtain ⟨A, h1, h2⟩ := hlaid.out
        exact ownl_row h2 hH h1 (by simp) (by rw [List.length_append, List.length_drop, HZ.out, laid_len h1]; omega) (by unfold maxLen; omega)
      clear hlaid
      go_wp2
      exact bodyPost_ret (v := .tuple #[.slice (some ⟨N0, 0, none⟩) j j, .int .i64 0]) (by simp [results, Tryz.results49, go_sem]) rfl ⟨_, _, _, rfl, R1.out, hap.out, .inr (.inr ⟨hl2, hez.out, rfl, rfl⟩)⟩
    have q3 : decide (j < nn) = true := by simpa using hjn
    have q4 : (0 : Int) ≤ (j : Int) := by omega
    have q5 : (j : Int) < (nn : Int) := by omega
    have w1 : IntKind.u32.wrap (j : Int) = (j : Int) := IntWalk.u32_in _ (by omega)
    have w2 : IntKind.u32.wrap ((t : Int) + 1) = (t : Int) + 1 := IntWalk.u32_in _ (by omega)
    have w3 : IntKind.u32.wrap ((t : Int) + 1 + (j : Int)) = (t : Int) + 1 + (j : Int) := IntWalk.u32_in _ (by omega)
    obtain ⟨hbb, u, h0, h1, h2, h3, hu⟩ := HC.out wr hap.out j hjn
    obtain ⟨uo, uc, rfl⟩ : ∃ ao cap, u = .slice ao (Y j).pl.length cap := Sees.shape (Sees.own hu)
    obtain ⟨y, hy⟩ : ∃ y, Y j = y := ⟨_, rfl⟩
    have CH0 := fun (W : World) (h : Clocks.Apart B H w W) (hW : W.ownsRow H 32 3 (.slice uo (Y j).pl.length uc) (Y j).pl.length (runs (Y j).pl)) => HF.out j W _ hW hjn hl2 h
    rw [hy] at h0 h1 h2 h3 hu
    simp only [hy, elv] at CH0
    obtain ⟨yt, hyt⟩ : ∃ z, y.t = z := ⟨_, rfl⟩
    obtain ⟨yr, hyr⟩ : ∃ z, y.r = z := ⟨_, rfl⟩
    obtain ⟨yp, hyp⟩ : ∃ z, y.p = z := ⟨_, rfl⟩
    simp only [hyt, hyr, hyp] at CH0
    rw [hyt] at h0
    rw [hyr] at h1
    rw [hyp] at h3
    obtain ⟨ny, hny⟩ : ∃ z, y.pl.length = z := ⟨_, rfl⟩
    rw [hny] at hu h2
    simp only [hny] at CH0
    have BL : Below wr.heap.size wr (wr.alloc (.cells #[.int .u32 (yt : Int), .int .u8 (yr : Int), .slice uo ny uc, .int .i64 yp] 91)) := (Below.refl _ _).alloc (Nat.le_refl _) _
    have AL : Hid (Clocks.Apart B H w (wr.alloc (.cells #[.int .u32 (yt : Int), .int .u8 (yr : Int), .slice uo ny uc, .int .i64 yp] 91))) := apart_below hap.out BL (by rw [HN0.out]; omega)
    have LL : Hid (Laid H N0 Z O j (wr.alloc (.cells #[.int .u32 (yt : Int), .int .u8 (yr : Int), .slice uo ny uc, .int .i64 yp] 91))) := laid_apart hlaid.out hH (Clocks.Apart.of (B := 0) BL (Nat.zero_le _))
    have CH := Lib.hid (CH0 _ AL.out (own_stays hu BL))
    clear CH0 hny hyt hyr hyp hy BL hu hap hlaid
    obtain ⟨o, ho⟩ : ∃ o, O j = o := ⟨_, rfl⟩
    obtain ⟨x, hx5⟩ : ∃ x, E j = x := ⟨_, rfl⟩
    rw [ho, hx5] at CH
    have HO : Hid (∀ v : Value, opv o v = .agg #[.int .u8 (o.k : Int), .int .u32 (o.t : Int), .int .u8 (o.r : Int), v, .int .i64 o.p]) := fun v => rfl
    have ST : Hid (∀ (W X : World) (u : Value), Clocks.Apart B H (wr.alloc (.cells #[.int .u32 (yt : Int), .int .u8 (yr : Int), .slice uo ny uc, .int .i64 yp] 91)) W → W.ownsRow H 32 3 u o.pl.length (runs o.pl) → X = (((((W.setCell ⟨N0, j * 5, none⟩ (.int .u8 (o.k : Int))).setCell ⟨N0, j * 5 + 1, none⟩ (.int .u32 (o.t : Int))).setCell ⟨N0, j * 5 + 2, none⟩ (.int .u8 (o.r : Int))).setCell ⟨N0, j * 5 + 3, none⟩ u).setCell ⟨N0, j * 5 + 4, none⟩ (.int .i64 o.p)) →
        Laid H N0 Z O (j + 1) X ∧ Clocks.Apart B H w X) := fun W X u ha hu hX => by
      have hl9 := laid_apart LL.out hH ha
      obtain ⟨h1, cur, cs9, h2, h3⟩ := laid_step (B := B) HZ.out hjn ho hl9 (by omega) hu hX
      exact ⟨h1, apart_copied (apart_trans AL.out ha) (by rw [HN0.out]; omega) (by omega) h3⟩
    have FV : Hid (∀ W : World, Clocks.Apart B H (wr.alloc (.cells #[.int .u32 (yt : Int), .int .u8 (yr : Int), .slice uo ny uc, .int .i64 yp] 91)) W → (∃ c0 c1 c2 c3 c4, FiveAt W N0 (j * 5) c0 c1 c2 c3 c4) ∧ ∀ q, W.frozen? ⟨N0, q, none⟩ = false) := fun W ha => by
      have hl9 := laid_apart LL.out hH ha
      exact ⟨laid_five HZ.out hjn hl9, fun q => laid_free hl9 q⟩
    have EZ := Lib.hid hx5
    obtain ⟨ok, hk⟩ : ∃ z, o.k = z := ⟨_, rfl⟩
    obtain ⟨ot, hot⟩ : ∃ z, o.t = z := ⟨_, rfl⟩
    obtain ⟨or, hor⟩ : ∃ z, o.r = z := ⟨_, rfl⟩
    obtain ⟨op, hop⟩ : ∃ z, o.p = z := ⟨_, rfl⟩
    rw [hk, hot, hor, hop] at HO ST
    simp only [HO.out] at CH
    clear HO hk hot hor hop hx5 ho
    by_cases hx0 : x = 0
    · subst hx0
      go_wp2_with fail
      refine CH.out.mono ?_
      rintro e w5 ⟨u5, rfl, o5, a5⟩
      obtain ⟨vo, vc5, rfl⟩ : ∃ ao cap, u5 = .slice ao o.pl.length cap := Sees.shape (Sees.own o5)
      have O5 := Lib.hid o5
      have A5 := Lib.hid a5
      obtain ⟨⟨c0, c1, c2, c3, c4, hsz, g0, g1, g2, g3, g4⟩, hfr⟩ := FV.out w5 a5
      obtain ⟨no, hno⟩ : ∃ z, o.pl.length = z := ⟨_, rfl⟩
      rw [hno] at O5 ⊢
      have SX := Lib.hid (fun X h => ST.out w5 X _ A5.out (by rw [hno]; exact O5.out) h)
      clear o5 a5 CH hno h0 h1 h2 h3
      go_wp2
      obtain ⟨X, hX⟩ : ∃ X, X = (((((w5.setCell ⟨N0, j * 5, none⟩ (.int .u8 (ok : Int))).setCell ⟨N0, j * 5 + 1, none⟩ (.int .u32 (ot : Int))).setCell ⟨N0, j * 5 + 2, none⟩ (.int .u8 (or : Int))).setCell ⟨N0, j * 5 + 3, none⟩ (.slice vo no vc5)).setCell ⟨N0, j * 5 + 4, none⟩ (.int .i64 op)) := ⟨_, rfl⟩
      have SY := SX.out X hX
      try rw [← hX]
      clear hX SX
      have TX := Lib.hid SY.1
      have AX := Lib.hid SY.2
      have EX : Hid (∀ i, i < j + 1 → E i = 0) := fun i hi => by
        by_cases h : i < j
        · exact hez.out i h
        · obtain rfl : i = j := by omega
          exact EZ.out
      clear SY
      go_roundw
      case rel => exact ⟨j + 1, by omega, rfl, by go_num, TX, AX, EX⟩
      case measure => simp [intOf]; omega
    · have q6 : (x != 0) = true := by simpa using hx0
      have q7 : decide (x = 0) = false := decide_eq_false hx0
      go_wp2_with fail
      refine CH.out.mono ?_
      rintro e w5 ⟨u5, rfl, o5, a5⟩
      obtain ⟨vo, vc5, rfl⟩ : ∃ ao cap, u5 = .slice ao o.pl.length cap := Sees.shape (Sees.own o5)
      have O5 := Lib.hid o5
      have A5 := Lib.hid a5
      obtain ⟨⟨c0, c1, c2, c3, c4, hsz, g0, g1, g2, g3, g4⟩, hfr⟩ := FV.out w5 a5
      obtain ⟨no, hno⟩ : ∃ z, o.pl.length = z := ⟨_, rfl⟩
      rw [hno] at O5 ⊢
      have SX := Lib.hid (fun X h => ST.out w5 X _ A5.out (by rw [hno]; exact O5.out) h)
      clear o5 a5 CH hno h0 h1 h2 h3
      go_wp2
      obtain ⟨X, hX⟩ : ∃ X, X = (((((w5.setCell ⟨N0, j * 5, none⟩ (.int .u8 (ok : Int))).setCell ⟨N0, j * 5 + 1, none⟩ (.int .u32 (ot : Int))).setCell ⟨N0, j * 5 + 2, none⟩ (.int .u8 (or : Int))).setCell ⟨N0, j * 5 + 3, none⟩ (.slice vo no vc5)).setCell ⟨N0, j * 5 + 4, none⟩ (.int .i64 op)) := ⟨_, rfl⟩
      have SY := SX.out X hX
      try rw [← hX]
      clear hX SX
      have AX := Lib.hid SY.2
      clear SY
      exact bodyPost_ret (v := .tuple #[.slice none 0 0, .int .i64 x]) (by simp [results, Tryz.results49, go_sem]) rfl ⟨_, _, _, rfl, OwnL.nil _ _, AX.out, .inr (.inl ⟨hl2, j, hjn, hez.out, by rw [EZ.out]; exact hx0, EZ.out.symm, rfl⟩)⟩
end Go.Proofs.YtgjbnbojjgbmcaaGreat.Edits
