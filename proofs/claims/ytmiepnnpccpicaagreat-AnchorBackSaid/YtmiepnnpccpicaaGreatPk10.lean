/- octavo/view.Elements: what it answers. Conditions: the slice's cells are operations. octavo/view.Offset: its closure, and the search. Conditions: elements in order, a place that may be, or the beginning. octavoref15.At: what it answers. Conditions: the slice's cells are operations; the number is one. octavo/view.Text, Offset, At: what each answers. Conditions: the slice's cells are operations. -/
import Derived.Test.YtmiepnnpccpicaaGreatChecked
import Derived.WalkKit
import Derived.WalkSpells
import Derived.WalkLawsBesides
import Derived.Laws.BytesArg
import Derived.Lib.Hide
import Derived.Deep.LoopGhost
import Derived.Laws.AppendOwnNone
import Derived.Laws.OwnMore
import Derived.WideShapes
import Derived.Maps.AppendAt
import Derived.RegionTactic
import Derived.Deep.RegionHeld3
import Derived.Deep.DrawnRows
import Derived.Deep.QuietTactic
import Derived.BigQuiet
import Derived.IntWalk
import Derived.Deep.DeepCutAuto
import Derived.ScopeJumps
import Derived.Test.YtmiepnnpccpicaaGreatProg
import Derived.LoopTactic
import Derived.Laws.EntriesVeiled
import Derived.RowKit
import Derived.Lib.DecodeN
import Derived.Lib.RuneBytes
import Derived.Maps.Own
import Derived.Maps.OwnOps
import Derived.Maps.OwnSet
import Derived.Maps.Views
import Derived.DeepKeys4
import Derived.Shelf.SlSortCmp.InsertionK
import Derived.Calls
import Derived.StepT
import Derived.Below
import Derived.Sort.Grow
import Derived.Deep.Draws
import Derived.Shelf.SlLaysF0
import Derived.Shelf.SlSortCmp.NoneTotal
import Derived.Scope
import Derived.Shelf.Abstract
import Derived.RangeFuncBox
import Derived.RangeFuncLeaves
import Derived.RangeFuncNested
import Derived.RangeFuncBound
import Derived.RangeFuncCalls
import Derived.OwnWalkIn
import Derived.TacticsInMore
import Derived.LoopNIn
import Derived.LoopIn
import Derived.Lib.Tables
import Derived.Laws.Bits64
import Derived.Test.YtmiepnnpccpicaaGreatShelf
import Derived.Lib.OthersKept
import Derived.BigCall
import Derived.Test.YtmiepnnpccpicaaGreatPk08
import Derived.Test.YtmiepnnpccpicaaGreatPk05
import Derived.Test.YtmiepnnpccpicaaGreatPk04
import Derived.Test.YtmiepnnpccpicaaGreatPk03
import Derived.Test.YtmiepnnpccpicaaGreatPk02
import Derived.Test.YtmiepnnpccpicaaGreatPk01
import Derived.Test.YtmiepnnpccpicaaGreatPk07
import Derived.Test.YtmiepnnpccpicaaGreatPk06
import Derived.Test.YtmiepnnpccpicaaGreatPk09

namespace Go.Proofs.YtmiepnnpccpicaaGreat.Views
open Go.RowKit Go.WideShapes Stamp Go.Proofs.YtmiepnnpccpicaaGreat.Place Ops Codes Bags Marks Homes Covers
attribute [local go_sem ↓] Go.wp_at_zero Go.wp_at_succ
attribute [local go_sem] yielded_undef
theorem ownL_place {w : World} {base n cap bb oo : Nat} {v u : Value} {l : List Opn} (hv : OwnL w base v l) (k : Nat) (h : k < l.length) (e : v = .slice (some ⟨bb, oo, none⟩) n cap) (hc : w.cell? ⟨bb, oo + k * 5 + 3, none⟩ = some u) : w.ownsRow base 40 3 u (l[k]'h).pl.length (runs (l[k]'h).pl) := by
  obtain ⟨g, c2, y, e2, h3, ho⟩ := ownL_at hv k h
  rw [e] at e2
  injection e2 with e2 _ _
  injection e2 with e2
  injection e2 with e3 e4 _
  subst e3 e4
  rw [Nat.zero_add] at hc
  rw [hc] at h3
  injection h3 with h3
  subst h3
  exact ho
set_option maxRecDepth 100000 in
set_option maxHeartbeats 16000000 in
theorem vElements_any {v : Value} {l : List Opn} (s : Id) {w : World} (hv : OpL w v l) : Calls Tryz.prog 15 #[v, .agg #[.int .u32 (s.t : Int), .int .u8 (s.r : Int)]] w (DoneOE (elmL l s) (spanE l s) w) := by
  have B0 : Hid (Below w.heap.size w (w.alloc (.cells #[.int .u32 (s.t : Int), .int .u8 (s.r : Int)] 25))) := (Below.refl _ _).alloc (Nat.le_refl _) _
  have CC : Hid (Calls Tryz.prog 43 #[v, .agg #[.int .u32 (s.t : Int), .int .u8 (s.r : Int)]] (w.alloc (.cells #[.int .u32 (s.t : Int), .int .u8 (s.r : Int)] 25)) (DoneN (countsL l s) (spanE l s) (w.alloc (.cells #[.int .u32 (s.t : Int), .int .u8 (s.r : Int)] 25)))) := cCounts_any s (hv.keeps B0.out)
  obtain ⟨ao, cap, rfl⟩ := hv.shape
  obtain ⟨n0, hn0⟩ : ∃ n, n = l.length := ⟨_, rfl⟩
  rw [← hn0] at CC ⊢
  by_cases hE : spanE l s = 0
  rotate_left
  · have e1 : elmL l s = [] := elm_no hE
    rw [e1]
    obtain ⟨c, hc⟩ : ∃ c, spanE l s = c := ⟨_, rfl⟩
    obtain ⟨R, hR⟩ : ∃ R, countsL l s = R := ⟨_, rfl⟩
    rw [hc] at hE CC ⊢
    rw [hR] at CC
    have q1 : (c != 0) = true := by simpa using hE
    have q2 : decide (c = 0) = false := decide_eq_false hE
    obtain ⟨st, sr, hst, hsr⟩ := s
    simp only at CC B0 ⊢
    clear hv hn0 hc hR e1
    go_enter Tryz.func15, Tryz.ntmps15
    go_wp2_with fail
    refine CC.out.mono ?_
    rintro e w1 ⟨va, rfl, o1, b1⟩
    have B1 := Lib.hid (bt B0.out b1)
    clear o1 b1 CC B0
    go_wp2
    go_ret2
    exact ⟨_, rfl, OwnE.nil _ _, B1.out⟩
  have hbag : Bag (countsL l s) := by
    unfold countsL
    rw [if_pos hE]
    exact bag_count (spanE_zero.1 hE).1 _ _
  rw [hE] at CC ⊢
  unfold elmL
  obtain ⟨C, hC⟩ : ∃ C, countsL l s = C := ⟨_, rfl⟩
  rw [hC] at CC hbag ⊢
  have TA : Hid (∀ (W : World) (y : Value), OpL W y C → Calls Tryz.prog 44 #[y] W fun e w' => e = .returned (.map (some W.heap.size)) ∧ SetI w' W.heap.size C.length (goneM C) ∧ Below W.heap.size W w') := fun W y h => takenAway_any h hbag.2.1 hbag.1
  have SO : Hid (∀ (W : World) (v : Value) (base : Nat), OwnE W base v (pickE C C) → Calls Tryz.prog 45 #[v, .func (.func 46) #[] #[]] W fun e w' => e = .returned (.tuple #[]) ∧ OwnE w' base v (seenM C) ∧ Below base W w') := fun W v base h => by
    refine (sortE_any h (fun o ho => anyB_may (mayO_parts (hbag.2.1 o (mem_pickE.1 ho).1)).2.1) (by have h1 := hbag.1; have h2 : (pickE C C).length ≤ C.length := List.length_filter_le _ _; omega)).mono ?_
    rintro e w' ⟨rfl, l', h1, h2, h3, h4⟩
    rw [pickE_is hbag.2.1 hbag.2.2 h1 h2]
    exact ⟨rfl, h3, h4⟩
  obtain ⟨R, hR⟩ : ∃ z, seenM C = z := ⟨_, rfl⟩
  rw [hR] at SO ⊢
  have hnm : C.length ≤ 1024 := hbag.1
  obtain ⟨n, hn⟩ : ∃ n, n = C.length := ⟨_, rfl⟩
  have HN := Lib.hid hn
  rw [← hn] at hnm TA
  obtain ⟨st, sr, hst, hsr⟩ := s
  simp only at CC B0 ⊢
  clear hv hn0 hbag hE hC hR hn
  go_enter Tryz.func15, Tryz.ntmps15
  go_wp2_with fail
  refine CC.out.mono ?_
  rintro e w1 ⟨va, rfl, o1, b1⟩
  have B1 := Lib.hid (bt B0.out b1)
  have O1 : Hid (OwnL w1 w.heap.size va C) := o1.base B0.out.size
  obtain ⟨va0, vc0, rfl⟩ := O1.out.opl.shape
  rw [← HN.out] at O1 ⊢
  clear o1 b1 CC B0
  go_wp2_with fail
  refine (TA.out _ _ O1.out.opl).mono ?_
  rintro e w2 ⟨rfl, s2, b2⟩
  obtain ⟨N, hN⟩ : ∃ N, w1.heap.size = N := ⟨_, rfl⟩
  have hNw : w.heap.size ≤ N := by rw [← hN]; exact B1.out.size
  rw [hN] at s2
  have SM : Hid (∀ W : World, Below w2.heap.size w2 W → SetI W N n (goneM C)) := fun W h => s2.keeps h
  have HV : Hid (∀ W : World, Below w2.heap.size w2 W → OwnL W w.heap.size (.slice va0 n vc0) C) := fun W h => (O1.out.keeps b2).keeps h
  have B2 := Lib.hid (bt B1.out b2)
  have HNW : Hid (w.heap.size ≤ w2.heap.size) := B2.out.size
  have L2 : Hid (TwE w2 w2.heap.size w.heap.size (.slice none 0 0) (pickE C (C.take 0))) := TwE.nil _ _ _
  have M2 : Hid (0 = (pickE C (C.take 0)).length) := rfl
  have Z2 : Hid (Below w2.heap.size w2 w2) := Below.refl _ _
  rw [hN]
  clear s2 b2 hN O1 B1 TA hNw
  go_wp2
  go_loopw [9, 27] (fun v i wr => ∃ j m : Nat, j ≤ n ∧ i = .int .i64 (j : Int) ∧ m ≤ j ∧ (∃ ao cap, v = .slice ao m cap) ∧ Hid (m = (pickE C (C.take j)).length) ∧ Hid (TwE wr w2.heap.size w.heap.size v (pickE C (C.take j))) ∧ Hid (Below w2.heap.size w2 wr)) (fun _ i _ => n - (intOf i).toNat)
  case atStart => exact ⟨0, 0, by omega, rfl, by omega, ⟨none, 0, rfl⟩, M2, L2, Z2⟩
  case round =>
    clear M2 L2 Z2
    obtain ⟨j, m, hj, rfl, hmj, ⟨aoL, capL, rfl⟩, HM, hown, hbm⟩ := hrel
    have hbel : Hid (Below w.heap.size w wr) := bt B2.out hbm.out
    by_cases hjn : j < n
    rotate_left
    · have q3 : decide (j < n) = false := by simpa using hjn
      have hkk : C.take j = C := List.take_of_length_le (by have := HN.out; omega)
      rw [hkk] at hown
      have SX := Lib.hid (SO.out _ _ _ (hown.out.own HNW.out))
      clear hkk SO HV SM hown HM
      go_wp2_with fail
      refine SX.out.mono ?_
      rintro e w3 ⟨rfl, o3, b3⟩
      have O3 := Lib.hid o3
      have B3 : Hid (Below w.heap.size w w3) := hbel.out.trans b3
      clear o3 b3 SX
      go_wp2
      go_ret2
      exact ⟨_, rfl, O3.out, B3.out⟩
    have q3 : decide (j < n) = true := by simpa using hjn
    have q4 : (0 : Int) ≤ (j : Int) := by omega
    have q5 : (j : Int) < (n : Int) := by omega
    have hjl : j < C.length := by rw [← HN.out]; exact hjn
    have OV := HV.out wr hbm.out
    obtain ⟨bb, oo, u, e, hbb, hru, h0, h1, h2, h3, h4⟩ := opl_at (ao := va0) (m := n) (cap := vc0) OV.opl j hjl
    have hrow := ownL_place OV j hjl (by rw [e]) h3
    subst e
    obtain ⟨x, hx⟩ : ∃ x, x = C[j]'hjl := ⟨_, rfl⟩
    rw [← hx] at hru h0 h1 h2 h4 hrow
    obtain ⟨uo, uc, rfl⟩ := hru.shape
    obtain ⟨nu, hnu⟩ : ∃ n, n = x.pl.length := ⟨_, rfl⟩
    have HNU := Lib.hid hnu
    rw [← hnu] at h3 hrow
    clear hnu
    have hst2 : C.take (j + 1) = C.take j ++ [x] := by rw [List.take_succ_eq_append_getElem hjl, hx]
    have FY : Hid (x.k = 1 → goneM C (idO x) = false → pickE C (C.take (j + 1)) = pickE C (C.take j) ++ [x]) := fun h h2 => by rw [hst2]; exact pickE_yes h h2
    have FN : Hid (¬ (x.k = 1 ∧ goneM C (idO x) = false) → pickE C (C.take (j + 1)) = pickE C (C.take j)) := fun h => by rw [hst2]; exact pickE_no h
    have BL : Hid (Below wr.heap.size wr (wr.alloc (.cells #[.int .u8 (x.k : Int), .int .u32 (x.t : Int), .int .u8 (x.r : Int), .slice uo nu uc, .int .i64 x.p] 47))) := (Below.refl _ _).alloc (Nat.le_refl _) _
    obtain ⟨D, d1, d2⟩ := SM.out _ (bt hbm.out BL.out)
    obtain ⟨vv, ps, hrun, hvv⟩ := d1.look_ok idLaw Tryz.underlying79 (Covers.ZU _) unitElem_mk (key_of (idO x))
    obtain ⟨rfl, _⟩ := unitElem_inv hvv
    rw [d2 (idO x)] at hrun
    unfold idv at hrun
    obtain ⟨q, hq⟩ : ∃ q, goneM C (idO x) = q := ⟨_, rfl⟩
    rw [hq] at hrun FY FN
    rw [show (idO x).t = x.t from rfl, show (idO x).r = x.r from rfl] at hrun
    have HRW := Lib.hid hrow
    clear hru hx hrow d1 d2 hvv hst2 hq
    obtain ⟨k, hk⟩ : ∃ z, x.k = z := ⟨_, rfl⟩
    obtain ⟨t, ht⟩ : ∃ z, x.t = z := ⟨_, rfl⟩
    obtain ⟨r, hr⟩ : ∃ z, x.r = z := ⟨_, rfl⟩
    obtain ⟨p, hp⟩ : ∃ z, x.p = z := ⟨_, rfl⟩
    have HFV : Hid (∀ v : Value, [.int .u32 (t : Int), .int .u8 (r : Int), v, .int .i64 p] = [Value.int .u32 (x.t : Int), .int .u8 (x.r : Int), v, .int .i64 x.p]) := fun v => by rw [ht, hr, hp]
    rw [hk, ht, hr, hp] at hrun BL
    rw [hk] at h0 FY FN
    rw [ht] at h1
    rw [hr] at h2
    rw [hp] at h4
    have BM : Hid (Below wr.heap.size wr ((wr.alloc (.cells #[.int .u8 (k : Int), .int .u32 (t : Int), .int .u8 (r : Int), .slice uo nu uc, .int .i64 p] 47)).alloc (.cells #[] 81))) := BL.out.alloc (by simp) _
    have L5 := Lib.hid (hown.out.keeps BM.out)
    have B5 := Lib.hid (bt hbm.out BM.out)
    clear hk ht hr hp BL
    by_cases hk1 : k = 1
    rotate_left
    · have qk : ((k : Int) == 1) = false := by simp; omega
      have qk2 : decide ((k : Int) = 1) = false := decide_eq_false (by omega)
      have FT := Lib.hid (FN.out (fun h => hk1 h.1))
      rw [← FT.out] at L5 HM
      clear FY FN FT hk1 SO HV SM HRW HFV hown hbel hbb
      go_wp2
      go_roundw
      case rel => exact ⟨j + 1, m, by omega, by go_num, by omega, ⟨aoL, capL, rfl⟩, HM, L5, B5⟩
      case measure => simp [intOf]; omega
    subst hk1
    have e1 : ((1 : Nat) : Int) = 1 := rfl
    rw [e1] at h0 hrun BM L5 B5
    clear e1
    cases q
    rotate_left
    · have FT := Lib.hid (FN.out (by simp))
      rw [← FT.out] at L5 HM
      clear FY FN FT SO HV SM HRW HFV hown hbel hbb
      go_wp2
      go_roundw
      case rel => exact ⟨j + 1, m, by omega, by go_num, by omega, ⟨aoL, capL, rfl⟩, HM, L5, B5⟩
      case measure => simp [intOf]; omega
    have FT := Lib.hid (FY.out (by first | trivial | rfl) (by first | trivial | rfl))
    clear FY FN L5 B5 SO HV SM hbel
    obtain ⟨WM, hWM⟩ : ∃ z, (wr.alloc (.cells #[.int .u8 1, .int .u32 (t : Int), .int .u8 (r : Int), .slice uo nu uc, .int .i64 p] 47)).alloc (.cells #[] 81) = z := ⟨_, rfl⟩
    have hsz : WM.heap.size = wr.heap.size + 1 + 1 := by rw [← hWM]; simp
    rw [hWM] at BM
    have BE : Hid (Below wr.heap.size wr (WM.alloc (.cells #[.int .u32 (t : Int), .int .u8 (r : Int), .slice uo nu uc, .int .i64 p] 53))) := BM.out.alloc (by omega) _
    have SE : Hid (Sees (WM.alloc (.cells #[.int .u32 (t : Int), .int .u8 (r : Int), .slice uo nu uc, .int .i64 p] 53)) (.slice (some ⟨wr.heap.size + 1 + 1, 0, none⟩) 1 1) 4 1 [.int .u32 (t : Int), .int .u8 (r : Int), .slice uo nu uc, .int .i64 p]) := by
      have := sees_new WM [.int .u32 (t : Int), .int .u8 (r : Int), .slice uo nu uc, .int .i64 p] 4 1 rfl (by omega) 53 (0, 0)
      rwa [hsz] at this
    have HW3 : Hid (∃ z, WM.alloc (.cells #[.int .u32 (t : Int), .int .u8 (r : Int), .slice uo nu uc, .int .i64 p] 53) = z) := ⟨_, rfl⟩
    obtain ⟨cs, lo, lh⟩ := hown.out
    rw [← HM.out] at lo
    have LO := Lib.hid lo
    have LH := Lib.hid lh
    have OA : Hid ((WM.alloc (.cells #[.int .u32 (t : Int), .int .u8 (r : Int), .slice uo nu uc, .int .i64 p] 53)).ownsRow w2.heap.size 53 4 (.slice aoL m capL) m cs) := own_stays LO.out BE.out
    have PO : Hid ((WM.alloc (.cells #[.int .u32 (t : Int), .int .u8 (r : Int), .slice uo nu uc, .int .i64 p] 53)).ownsRow w.heap.size 40 3 (.slice uo nu uc) x.pl.length (runs x.pl)) := by unfold Hid; rw [← HNU.out]; exact own_stays HRW.out BE.out
    have FO2 : Hid (∀ z ∈ ([.int .u32 (t : Int), .int .u8 (r : Int), .slice uo nu uc, .int .i64 p] : List Value), z.oneCell' = true) := by unfold Hid; rw [HFV.out]; exact four_one x _ ⟨_, _, _, rfl⟩
    have bz : Hid (w2.heap.size ≤ (WM.alloc (.cells #[.int .u32 (t : Int), .int .u8 (r : Int), .slice uo nu uc, .int .i64 p] 53)).heap.size) := Nat.le_trans hbm.out.size BE.out.size
    subst hWM
    clear lo lh hown HW3 HRW hsz hbb BM
    go_wp2_with (at_builtin; refine wpList_append_sees rfl (.tmp 45) (.tmp 53) 48 53 rfl Tryz.underlying48 elm_info rfl (by decide) w2.heap.size _ m cs rfl OA.out _ 1 [.int .u32 (t : Int), .int .u8 (r : Int), .slice uo nu uc, .int .i64 p] rfl SE.out FO2.out ?k1 ?k2 ?k3 ?_)
    case k1 => omega
    case k2 => omega
    case k3 => exact bz.out
    rintro v6 w6 o6 g6 b6
    have L6 : Hid (TwE w6 w2.heap.size w.heap.size v6 (pickE C (C.take (j + 1)))) := by
      have lo2 := LO.out
      have o7 := o6
      rw [HFV.out] at o7
      have gx := g6
      unfold Hid
      rw [FT.out]
      rw [HM.out] at lo2 gx
      exact TwE.snoc (m := m + 1) lo2 LH.out BE.out PO.out gx o7 (by rw [HM.out])
    have M6 : Hid (m + 1 = (pickE C (C.take (j + 1))).length) := by unfold Hid; rw [FT.out, List.length_append, ← HM.out]; rfl
    have B6 : Hid (Below w2.heap.size w2 w6) := (bt hbm.out BE.out).trans b6
    obtain ⟨va, vc, rfl⟩ : ∃ ao cap, v6 = .slice ao (m + 1) cap := Sees.shape (Sees.own o6)
    clear o6 g6 b6 OA SE LO LH PO bz
    go_wp2
    go_roundw
    case rel => exact ⟨j + 1, m + 1, by omega, by go_num, by omega, ⟨va, vc, rfl⟩, M6, L6, B6⟩
    case measure => simp [intOf]; omega
end Go.Proofs.YtmiepnnpccpicaaGreat.Views

namespace Go.Proofs.YtmiepnnpccpicaaGreat.Views
open Go.RowKit Go.WideShapes Stamp Go.Proofs.YtmiepnnpccpicaaGreat.Place Ops Codes Bags Marks Homes Covers
attribute [local go_sem ↓] Go.wp_at_zero Go.wp_at_succ
attribute [local go_sem] yielded_undef
theorem befM_cons (x : Opn) (c : List Opn) (p : List Run) : befM (x :: c) p = (if Go.Proofs.YtmiepnnpccpicaaGreat.Place.hold (all x.pl) (all p) < 0 then 1 else 0) + befM c p := by
  unfold befM
  rw [List.filter_cons]
  by_cases h : Go.Proofs.YtmiepnnpccpicaaGreat.Place.hold (all x.pl) (all p) < 0
  · rw [if_pos (by simpa using h), if_pos h, List.length_cons]; omega
  · rw [if_neg (by simpa using h), if_neg h]; omega
theorem befM_le (c : List Opn) (p : List Run) : befM c p ≤ c.length := List.length_filter_le _ _
theorem bef_iff {p : List Run} : ∀ {c : List Opn}, (∀ o ∈ c, mayO o = true) → c.Pairwise pre → ∀ (i : Nat) (hi : i < c.length), Go.Proofs.YtmiepnnpccpicaaGreat.Place.hold (all (c[i]'hi).pl) (all p) < 0 ↔ i < befM c p
  | [], _, _, i, hi => by simp at hi
  | a :: c, hm, hs, i, hi => by
    have hs' := List.pairwise_cons.1 hs
    have ih := bef_iff (p := p) (c := c) (fun o ho => hm o (by simp [ho])) hs'.2
    rw [befM_cons]
    by_cases ha : Go.Proofs.YtmiepnnpccpicaaGreat.Place.hold (all a.pl) (all p) < 0
    · rw [if_pos ha]
      cases i with
      | zero => rw [List.getElem_cons_zero]; exact ⟨fun _ => by omega, fun _ => ha⟩
      | succ i =>
        rw [List.getElem_cons_succ, ih i (by simpa using hi)]
        omega
    · rw [if_neg ha]
      have hn : ∀ y ∈ c, ¬ Go.Proofs.YtmiepnnpccpicaaGreat.Place.hold (all y.pl) (all p) < 0 := fun y hy h => by
        apply ha
        have h1 := (pre_iff (hm a (by simp)) (hm y (by simp [hy]))).1 (hs'.1 y hy)
        have r1 := hold_range (all a.pl) (all y.pl)
        have r2 := hold_range (all y.pl) (all p)
        have := hold_trans (all a.pl) (all y.pl) (all p) (by omega) (by omega)
        omega
      have h0 : befM c p = 0 := by
        unfold befM
        rw [List.length_eq_zero_iff, List.filter_eq_nil_iff]
        intro y hy
        simpa using hn y hy
      rw [h0]
      cases i with
      | zero => rw [List.getElem_cons_zero]; exact ⟨fun h => absurd h ha, fun h => by omega⟩
      | succ i =>
        rw [List.getElem_cons_succ]
        exact ⟨fun h => absurd h (hn _ (List.getElem_mem _)), fun h => by omega⟩
theorem cmp_hold {x : Opn} {p : List Run} (hx : mayO x = true) (hp : anyB p = true) : cmp x.pl p = Go.Proofs.YtmiepnnpccpicaaGreat.Place.hold (all x.pl) (all p) := by
  unfold cmp
  exact if_pos ⟨anyB_may (mayO_parts hx).2.1, hp⟩
set_option maxRecDepth 100000 in
set_option maxHeartbeats 4000000 in
theorem vOff1_any {u v : Value} {x : Opn} {p : List Run} {w : World} (hu : Runs w u x.pl) (hv : Runs w v p) :
    Calls Tryz.prog 60 #[elv x u, v] w fun e w' => e = .returned (.int .i64 (cmp x.pl p)) ∧ Below w.heap.size w w' := by
  have PC : Hid (∀ W : World, Below w.heap.size w W → Calls Tryz.prog 16 #[u, v] W fun e w' => e = .returned (.int .i64 (cmp x.pl p)) ∧ Below W.heap.size W w') := fun W h => pCompare_any (hu.keeps h) (hv.keeps h)
  have B0 : Hid (Below w.heap.size w (w.alloc (.cells #[.int .u32 (x.t : Int), .int .u8 (x.r : Int), u, .int .i64 x.p] 53))) := (Below.refl _ _).alloc (Nat.le_refl _) _
  obtain ⟨q, hq⟩ : ∃ q, cmp x.pl p = q := ⟨_, rfl⟩
  rw [hq] at PC ⊢
  obtain ⟨uo, uc, rfl⟩ := hu.shape
  obtain ⟨vo, vc, rfl⟩ := hv.shape
  obtain ⟨nu, hnu⟩ : ∃ n, x.pl.length = n := ⟨_, rfl⟩
  obtain ⟨nv, hnv⟩ : ∃ n, p.length = n := ⟨_, rfl⟩
  rw [hnu] at PC B0 ⊢
  rw [hnv] at PC ⊢
  clear hq hu hv hnu hnv
  obtain ⟨k1, t1, r1, l1, p1, hk1, ht1, hr1, hp1⟩ := x
  unfold elv
  simp only at B0 ⊢
  clear hk1 ht1 hr1 hp1
  go_enter Tryz.func60, Tryz.ntmps60
  go_wp2_with fail
  refine (PC.out _ B0.out).mono ?_
  rintro e w1 ⟨rfl, b1⟩
  have B1 := Lib.hid (bt B0.out b1)
  clear b1 PC B0
  go_wp2
  go_ret
  exact ⟨rfl, B1.out⟩
set_option maxRecDepth 100000 in
set_option maxHeartbeats 16000000 in
theorem vBin_any {v u : Value} {live : List Opn} {p : List Run} {w : World} (hv : ElL w v live) (hu : Runs w u p) (hl : live.length ≤ 1000000) (hM : ∀ o ∈ live, mayO o = true) (hL : live.Pairwise pre) (hp : anyB p = true) :
    Calls Tryz.prog 59 #[v, u, .func (.func 60) #[] #[]] w fun e w' => (∃ q : Bool, e = .returned (.tuple #[.int .i64 (befM live p : Int), .bool q])) ∧ Below w.heap.size w w' := by
  obtain ⟨ao, cap, rfl⟩ := hv.shape
  obtain ⟨uo, uc, rfl⟩ := hu.shape
  obtain ⟨n, hn⟩ : ∃ n, n = live.length := ⟨_, rfl⟩
  have HV : Hid (∀ W : World, Below w.heap.size w W → ElL W (.slice ao live.length cap) live) := fun W h => hv.keeps h
  have HN := Lib.hid hn
  have S1 : Hid (∀ (x : Opn) (y : Value) (W : World), x ∈ live → Runs W y x.pl → Below w.heap.size w W → Calls Tryz.prog 60 #[elv x y, .slice uo p.length uc] W fun e w' => e = .returned (.int .i64 (cmp x.pl p)) ∧ Below W.heap.size W w') := fun x y W hm hy h => vOff1_any hy (hu.keeps h)
  have HLT : Hid (∀ (j : Nat) (h : j < live.length), cmp (live[j]'h).pl p < 0 → j < befM live p) := fun j h hc => by
    rw [cmp_hold (hM _ (List.getElem_mem h)) hp] at hc
    exact (bef_iff hM hL j h).1 hc
  have HGE : Hid (∀ (j : Nat) (h : j < live.length), ¬ cmp (live[j]'h).pl p < 0 → befM live p ≤ j) := fun j h hc => by
    rw [cmp_hold (hM _ (List.getElem_mem h)) hp] at hc
    exact Nat.le_of_not_lt fun h2 => hc ((bef_iff hM hL j h).2 h2)
  have HK := befM_le live p
  obtain ⟨K, hK⟩ : ∃ K, befM live p = K := ⟨_, rfl⟩
  rw [hK] at HLT HGE HK ⊢
  obtain ⟨np, hnp⟩ : ∃ n, p.length = n := ⟨_, rfl⟩
  rw [hnp] at S1 ⊢
  rw [← hn] at hl HK ⊢
  clear hv hn hu hL hM hp hK hnp
  have eg := enters_of Tryz.func60 (by kernel_rfl) rfl
  have B0 : Hid (Below w.heap.size w w) := Below.refl _ _
  go_enter Tryz.func59, Tryz.ntmps59
  go_wp2
  go_loopw [9, 10] (fun x y wr => ∃ lo hi : Nat, x = .int .i64 (lo : Int) ∧ y = .int .i64 (hi : Int) ∧ lo ≤ hi ∧ hi ≤ n ∧ lo ≤ K ∧ K ≤ hi ∧ Hid (Below w.heap.size w wr)) (fun x y _ => (intOf y - intOf x).toNat)
  case atStart => exact ⟨0, n, rfl, rfl, by omega, by omega, by omega, HK, B0⟩
  case round =>
    clear B0
    obtain ⟨lo, hi, rfl, rfl, hlh, hhn, hlow, hhigh, hbel⟩ := hrel
    by_cases hlt : lo < hi
    · obtain ⟨m, hm⟩ : ∃ m, m = (lo + hi) / 2 := ⟨_, rfl⟩
      have em : ((lo : Int) + (hi : Int)) / 2 = (m : Int) := by omega
      have m1 : lo ≤ m := by omega
      have m2 : m < hi := by omega
      have q4 : (0 : Int) ≤ (m : Int) := by omega
      have q5 : (m : Int) < (n : Int) := by omega
      have hml : m < live.length := by rw [← HN.out]; omega
      clear hm
      obtain ⟨bb, oo, u, e, hbb, hru, h0, h1, h2, h3⟩ := el_at (HV.out wr hbel.out) m hml
      cases e
      obtain ⟨x, hx⟩ : ∃ x, x = live[m]'hml := ⟨_, rfl⟩
      rw [← hx] at hru h0 h1 h3
      have HO : Hid (∀ v : Value, elv x v = .agg #[.int .u32 (x.t : Int), .int .u8 (x.r : Int), v, .int .i64 x.p]) := fun v => rfl
      obtain ⟨uo, uc, rfl⟩ := hru.shape
      obtain ⟨nu, hnu⟩ : ∃ n, n = x.pl.length := ⟨_, rfl⟩
      have HNU := Lib.hid hnu
      rw [← hnu] at hru h2
      clear hnu
      have hxm : x ∈ live := by rw [hx]; exact List.getElem_mem _
      have SX := Lib.hid (S1.out x _ wr hxm hru hbel.out)
      obtain ⟨c, hc⟩ : ∃ c, cmp x.pl p = c := ⟨_, rfl⟩
      rw [hc] at SX
      have HLO : Hid (c < 0 → m + 1 ≤ K) := fun h => HLT.out m hml (by rw [← hx, hc]; exact h)
      have HHI : Hid (¬ c < 0 → K ≤ m) := fun h => HGE.out m hml (by rw [← hx, hc]; omega)
      clear hru hx hc hxm
      obtain ⟨t, ht⟩ : ∃ z, x.t = z := ⟨_, rfl⟩
      obtain ⟨r, hr⟩ : ∃ z, x.r = z := ⟨_, rfl⟩
      obtain ⟨p, hp⟩ : ∃ z, x.p = z := ⟨_, rfl⟩
      rw [ht, hr, hp] at HO
      rw [ht] at h0
      rw [hr] at h1
      rw [hp] at h3
      simp only [HO.out] at SX
      clear ht hr hp HO S1 HLT HGE HV hbb
      by_cases hc0 : c < 0
      · have d1 : decide (c < 0) = true := decide_eq_true hc0
        have HN2 := HLO.out hc0
        clear HLO HHI
        go_wp2_with fail
        refine SX.out.mono ?_
        rintro e w1 ⟨rfl, b1⟩
        have BW := Lib.hid (bt hbel.out b1)
        clear b1 SX h0 h1 h2 h3
        go_wp2
        go_roundw
        case rel => exact ⟨m + 1, hi, by go_num, rfl, by omega, hhn, HN2, hhigh, BW⟩
        case measure => simp [intOf]; omega
      · have d1 : decide (c < 0) = false := decide_eq_false hc0
        have HN2 := HHI.out hc0
        clear HLO HHI
        go_wp2_with fail
        refine SX.out.mono ?_
        rintro e w1 ⟨rfl, b1⟩
        have BW := Lib.hid (bt hbel.out b1)
        clear b1 SX h0 h1 h2 h3
        go_wp2
        go_roundw
        case rel => exact ⟨lo, m, rfl, rfl, by omega, by omega, hlow, HN2, BW⟩
        case measure => simp [intOf]; omega
    · obtain rfl : hi = lo := by omega
      obtain rfl : K = hi := by omega
      by_cases hkn : K < n
      rotate_left
      · have q8 : decide (K < n) = false := by simpa using hkn
        clear S1 HLT HGE HV
        go_wp2
        go_ret2
        exact ⟨⟨_, rfl⟩, hbel.out⟩
      have q8 : decide (K < n) = true := by simpa using hkn
      have q4 : (0 : Int) ≤ (K : Int) := by omega
      have q5 : (K : Int) < (n : Int) := by omega
      have hml : K < live.length := by rw [← HN.out]; exact hkn
      obtain ⟨bb, oo, u, e, hbb, hru, h0, h1, h2, h3⟩ := el_at (HV.out wr hbel.out) K hml
      cases e
      obtain ⟨x, hx⟩ : ∃ x, x = live[K]'hml := ⟨_, rfl⟩
      rw [← hx] at hru h0 h1 h3
      have HO : Hid (∀ v : Value, elv x v = .agg #[.int .u32 (x.t : Int), .int .u8 (x.r : Int), v, .int .i64 x.p]) := fun v => rfl
      obtain ⟨uo, uc, rfl⟩ := hru.shape
      obtain ⟨nu, hnu⟩ : ∃ n, n = x.pl.length := ⟨_, rfl⟩
      have HNU := Lib.hid hnu
      rw [← hnu] at hru h2
      clear hnu
      have hxm : x ∈ live := by rw [hx]; exact List.getElem_mem _
      have SX := Lib.hid (S1.out x _ wr hxm hru hbel.out)
      obtain ⟨c, hc⟩ : ∃ c, cmp x.pl p = c := ⟨_, rfl⟩
      rw [hc] at SX
      clear hru hx hc hxm
      obtain ⟨t, ht⟩ : ∃ z, x.t = z := ⟨_, rfl⟩
      obtain ⟨r, hr⟩ : ∃ z, x.r = z := ⟨_, rfl⟩
      obtain ⟨p, hp⟩ : ∃ z, x.p = z := ⟨_, rfl⟩
      rw [ht, hr, hp] at HO
      rw [ht] at h0
      rw [hr] at h1
      rw [hp] at h3
      simp only [HO.out] at SX
      clear ht hr hp HO S1 HLT HGE HV hbb
      by_cases hc0 : c = 0
      · subst hc0
        go_wp2_with fail
        refine SX.out.mono ?_
        rintro e w1 ⟨rfl, b1⟩
        have BW := Lib.hid (bt hbel.out b1)
        clear b1 SX h0 h1 h2 h3
        go_wp2
        go_ret2
        exact ⟨⟨_, rfl⟩, BW.out⟩
      · have d1 : (c == 0) = false := by simpa using hc0
        have d2 : ¬ c = 0 := hc0
        have d3 : decide (c = 0) = false := decide_eq_false hc0
        go_wp2_with fail
        refine SX.out.mono ?_
        rintro e w1 ⟨rfl, b1⟩
        have BW := Lib.hid (bt hbel.out b1)
        clear b1 SX h0 h1 h2 h3
        go_wp2
        go_ret2
        exact ⟨⟨_, rfl⟩, BW.out⟩
end Go.Proofs.YtmiepnnpccpicaaGreat.Views

namespace Go.Proofs.YtmiepnnpccpicaaGreat.Views
open Go.RowKit Go.WideShapes Stamp Go.Proofs.YtmiepnnpccpicaaGreat.Place Ops Codes Bags Marks Homes Covers
attribute [local go_sem ↓] Go.wp_at_zero Go.wp_at_succ
attribute [local go_sem] yielded_undef
def put4 (X : World) (g : Nat) (d0 d1 d2 d3 : Value) : World := (((X.setCell ⟨g, 0, none⟩ d0).setCell ⟨g, 1, none⟩ d1).setCell ⟨g, 2, none⟩ d2).setCell ⟨g, 3, none⟩ d3
theorem put4_same {X : World} {g : Nat} {c0 c1 c2 c3 : Value} (d0 d1 d2 d3 : Value) {e : TypeId} (h : X.heap[g]? = some (.cells #[c0, c1, c2, c3] e)) : (put4 X g d0 d1 d2 d3).heap[g]? = some (.cells #[d0, d1, d2, d3] e) := by
  have h0 := heap_setCell_same X g 0 _ _ d0 h
  have h1 := heap_setCell_same _ g 1 _ _ d1 h0
  have h2 := heap_setCell_same _ g 2 _ _ d2 h1
  have h3 := heap_setCell_same _ g 3 _ _ d3 h2
  exact h3
theorem put4_other {X : World} {g k : Nat} (d0 d1 d2 d3 : Value) {o : Obj} (hk : k ≠ g) (h : X.heap[k]? = some o) : (put4 X g d0 d1 d2 d3).heap[k]? = some o := by
  unfold put4
  rw [heap_setCell_other _ _ _ _ hk, heap_setCell_other _ _ _ _ hk, heap_setCell_other _ _ _ _ hk, heap_setCell_other _ _ _ _ hk]
  exact h
theorem put4_below {B g : Nat} {W X : World} (d0 d1 d2 d3 : Value) (hg : B ≤ g) (h : Below B W X) : Below B W (put4 X g d0 d1 d2 d3) :=
  (((h.setCell (p := ⟨g, 0, none⟩) hg _).setCell (p := ⟨g, 1, none⟩) hg _).setCell (p := ⟨g, 2, none⟩) hg _).setCell (p := ⟨g, 3, none⟩) hg _
theorem free4 {X : World} {g : Nat} {cs : Array Value} {e : TypeId} (h : X.heap[g]? = some (.cells cs e)) (o : Nat) : X.frozen? ⟨g, o, none⟩ = false := by simp [World.frozen?, h]
end Go.Proofs.YtmiepnnpccpicaaGreat.Views

namespace Go.Proofs.YtmiepnnpccpicaaGreat.Views
open Go.RowKit Go.WideShapes Stamp Go.Proofs.YtmiepnnpccpicaaGreat.Place Ops Codes Bags Marks Homes Covers
attribute [local go_sem ↓] Go.wp_at_zero Go.wp_at_succ
attribute [local go_sem] yielded_undef
set_option maxRecDepth 100000 in
set_option maxHeartbeats 8000000 in
theorem vOffset_any {v u : Value} {l : List Opn} {p : List Run} (s : Id) {w : World} (hv : OpL w v l) (hu : Runs w u p) : Calls Tryz.prog 25 #[v, .agg #[.int .u32 (s.t : Int), .int .u8 (s.r : Int)], u] w fun e w' => e = .returned (.tuple #[.int .i64 ((offN l s p : Nat) : Int), .int .i64 (offE l s p)]) ∧ Below w.heap.size w w' := by
  obtain ⟨wl, hwl⟩ : ∃ x, x = w.alloc (.cells #[.int .u32 (s.t : Int), .int .u8 (s.r : Int)] 25) := ⟨_, rfl⟩
  have B0 : Hid (Below w.heap.size w wl) := by rw [hwl]; exact (Below.refl _ _).alloc (Nat.le_refl _) _
  have Y0 : Hid (wl.heap[w.heap.size]? = some (.cells #[.int .u32 (s.t : Int), .int .u8 (s.r : Int)] 25)) := by rw [hwl]; exact blk_new rfl
  have HW := Lib.hid hwl
  have EL : Hid (Calls Tryz.prog 15 #[v, .agg #[.int .u32 (s.t : Int), .int .u8 (s.r : Int)]] wl (DoneOE (elmL l s) (spanE l s) wl)) := vElements_any s (hv.keeps B0.out)
  have CK : Hid (∀ W : World, Below w.heap.size w W → Calls Tryz.prog 24 #[u] W fun e w' => e = .returned (.int .i64 (Go.Proofs.YtmiepnnpccpicaaGreat.Place.chk p)) ∧ Below W.heap.size W w') := fun W h => Go.Proofs.YtmiepnnpccpicaaGreat.Place.check_any (hu.keeps h)
  have BN : Hid (anyB p = true → ∀ (W : World) (y : Value), OwnE W w.heap.size y (elmL l s) → Below w.heap.size w W → Calls Tryz.prog 59 #[y, u, .func (.func 60) #[] #[]] W fun e w' => (∃ q : Bool, e = .returned (.tuple #[.int .i64 (befM (elmL l s) p : Int), .bool q])) ∧ Below W.heap.size W w') := fun hp W y h h2 => vBin_any h.el (hu.keeps h2) (by have := (elm_fits l s).1; omega) (elm_fits l s).2 (elm_sorted l s) hp
  unfold DoneOE at EL
  obtain ⟨L, hL⟩ : ∃ L, elmL l s = L := ⟨_, rfl⟩
  have eN : offN l s p = if spanE l s = 0 ∧ anyB p = true then befM L p else 0 := by unfold offN; rw [hL]
  have eE : offE l s p = if spanE l s = 0 then (if anyB p = true then 0 else 8) else spanE l s := rfl
  rw [hL] at EL BN
  rw [eN, eE]
  obtain ⟨x, hx⟩ : ∃ x, spanE l s = x := ⟨_, rfl⟩
  rw [hx] at EL ⊢
  obtain ⟨uo, uc, rfl⟩ := hu.shape
  have hum := hu.max
  clear hv hu hwl hL eN eE hx
  obtain ⟨ts, rs, hts, hrs⟩ := s
  simp only at Y0 HW EL ⊢
  by_cases h0 : x = 0
  rotate_left
  · rw [if_neg (fun h => h0 h.1), if_neg h0]
    have q0 : (x != 0) = true := by simpa using h0
    have q1 : decide (x = 0) = false := decide_eq_false h0
    generalize p.length = np at *
    have d0 := cell_of_row _ _ 0 _ _ _ Y0.out
    have d1 := cell_of_row _ _ 1 _ _ _ Y0.out
    clear CK BN
    go_enter Tryz.func25, Tryz.ntmps25
    go_wp2_with fail
    rw [← HW.out]
    refine EL.out.mono ?_
    rintro e w1 ⟨v1, rfl, o1, b1⟩
    have B1 := Lib.hid (bt B0.out b1)
    clear b1 o1 Y0 B0 HW EL d0 d1
    go_wp2
    exact bodyPost_ret (v := .tuple #[.int .i64 0, .int .i64 x]) (by simp [results, Tryz.results25, go_sem]) rfl ⟨rfl, B1.out⟩
  subst h0
  have HPA : Hid (anyB p = (decide (p.length = 0) || mayB p)) := rfl
  by_cases hp : anyB p = true
  rotate_left
  · have hp' : anyB p = false := by simpa using hp
    rw [if_neg (fun h => hp h.2), if_pos rfl, if_neg hp]
    have hA := HPA.out
    rw [hp'] at hA
    have hn0 : ¬ p.length = 0 := by
      intro h
      rw [h] at hA
      simp at hA
    have hmb : mayB p = false := by
      rw [decide_eq_false hn0, Bool.false_or] at hA
      exact hA.symm
    have hck : Go.Proofs.YtmiepnnpccpicaaGreat.Place.chk p = 8 := by unfold Go.Proofs.YtmiepnnpccpicaaGreat.Place.chk; rw [hmb]; rfl
    rw [hck] at CK
    obtain ⟨np, hnp⟩ : ∃ np, p.length = np := ⟨_, rfl⟩
    rw [hnp] at hn0 hum CK ⊢
    have t1 : decide ((0 : Int) < (np : Int)) = true := decide_eq_true (by omega)
    have t2 : decide (0 < np) = true := decide_eq_true (by omega)
    have d0 := cell_of_row _ _ 0 _ _ _ Y0.out
    have d1 := cell_of_row _ _ 1 _ _ _ Y0.out
    clear BN HPA hp hp' hA hmb hck hnp
    go_enter Tryz.func25, Tryz.ntmps25
    go_wp2_with fail
    rw [← HW.out]
    refine EL.out.mono ?_
    rintro e w1 ⟨v1, rfl, o1, b1⟩
    have B1 := Lib.hid (bt B0.out b1)
    clear b1 o1 Y0 B0 HW EL d0 d1
    go_wp2_with fail
    refine (CK.out _ B1.out).mono ?_
    rintro e w2 ⟨rfl, b2⟩
    have B2 := Lib.hid (bt B1.out b2)
    clear b2 CK B1 t1 t2
    go_wp2
    exact bodyPost_ret (v := .tuple #[.int .i64 0, .int .i64 8]) (by simp [results, Tryz.results25, go_sem]) rfl ⟨rfl, B2.out⟩
  rw [if_pos ⟨rfl, hp⟩, if_pos rfl, if_pos hp]
  have BN2 := Lib.hid (BN.out hp)
  have hk0 : ¬ p.length = 0 → Go.Proofs.YtmiepnnpccpicaaGreat.Place.chk p = 0 := fun h => by
    have hA := HPA.out
    rw [hp, decide_eq_false h, Bool.false_or] at hA
    unfold Go.Proofs.YtmiepnnpccpicaaGreat.Place.chk
    rw [← hA]
    rfl
  obtain ⟨c, hc⟩ : ∃ c, Go.Proofs.YtmiepnnpccpicaaGreat.Place.chk p = c := ⟨_, rfl⟩
  rw [hc] at CK hk0
  obtain ⟨K, hK⟩ : ∃ K, befM L p = K := ⟨_, rfl⟩
  rw [hK] at BN2 ⊢
  obtain ⟨np, hnp⟩ : ∃ np, p.length = np := ⟨_, rfl⟩
  rw [hnp] at hum CK BN2 hk0 ⊢
  clear BN HPA hp hc hK hnp
  have d0 := cell_of_row _ _ 0 _ _ _ Y0.out
  have d1 := cell_of_row _ _ 1 _ _ _ Y0.out
  by_cases hz : np = 0
  · subst hz
    clear CK hk0
    go_enter Tryz.func25, Tryz.ntmps25
    go_wp2_with fail
    rw [← HW.out]
    refine EL.out.mono ?_
    rintro e w1 ⟨v1, rfl, o1, b1⟩
    have B1 := Lib.hid (bt B0.out b1)
    have O1 := Lib.hid (o1.base (b' := w.heap.size) B0.out.size)
    clear b1 o1 Y0 B0 HW EL d0 d1
    go_wp2_with fail
    refine (BN2.out _ _ O1.out B1.out).mono ?_
    rintro e w2 ⟨⟨q, rfl⟩, b2⟩
    have B2 := Lib.hid (bt B1.out b2)
    clear b2 B1 O1 BN2
    go_wp2
    exact bodyPost_ret (v := .tuple #[.int .i64 (K : Int), .int .i64 0]) (by simp [results, Tryz.results25, go_sem]) rfl ⟨rfl, B2.out⟩
  · obtain rfl := hk0 hz
    have t1 : decide ((0 : Int) < (np : Int)) = true := decide_eq_true (by omega)
    have t2 : decide (0 < np) = true := decide_eq_true (by omega)
    clear hk0
    go_enter Tryz.func25, Tryz.ntmps25
    go_wp2_with fail
    rw [← HW.out]
    refine EL.out.mono ?_
    rintro e w1 ⟨v1, rfl, o1, b1⟩
    have B1 := Lib.hid (bt B0.out b1)
    have O1 := Lib.hid (o1.base (b' := w.heap.size) B0.out.size)
    clear b1 o1 Y0 B0 HW EL d0 d1
    go_wp2_with fail
    refine (CK.out _ B1.out).mono ?_
    rintro e w2 ⟨rfl, b2⟩
    have B2 := Lib.hid (bt B1.out b2)
    have O2 := Lib.hid (O1.out.keeps b2)
    clear b2 B1 O1 CK t1 t2
    go_wp2_with fail
    refine (BN2.out _ _ O2.out B2.out).mono ?_
    rintro e w3 ⟨⟨q, rfl⟩, b3⟩
    have B3 := Lib.hid (bt B2.out b3)
    clear b3 B2 O2 BN2
    go_wp2
    exact bodyPost_ret (v := .tuple #[.int .i64 (K : Int), .int .i64 0]) (by simp [results, Tryz.results25, go_sem]) rfl ⟨rfl, B3.out⟩
theorem holdE_at {w : World} {base : Nat} : ∀ {cs : List Value} {l : List Opn}, HoldE w base cs l → ∀ (k : Nat) (h : k < l.length), ∃ y, cs[k * 4 + 2]? = some y ∧ w.ownsRow base 40 3 y (l[k]'h).pl.length (runs (l[k]'h).pl)
  | _, [], _, k, h => by simp at h
  | _, x :: l, ⟨v, d, h1, h2, h3⟩, 0, _ => ⟨v, by rw [h1]; rfl, h2⟩
  | _, x :: l, ⟨v, d, h1, h2, h3⟩, k + 1, h => by
    obtain ⟨y, e1, e2⟩ := holdE_at h3 k (by simpa using h)
    refine ⟨y, ?_, e2⟩
    rw [h1, show (k + 1) * 4 + 2 = k * 4 + 2 + 4 by omega]
    simpa using e1
theorem ownE_place {w : World} {base n cap bb oo : Nat} {v u : Value} {l : List Opn} (hv : OwnE w base v l) (k : Nat) (h : k < l.length) (e : v = .slice (some ⟨bb, oo, none⟩) n cap) (hc : w.cell? ⟨bb, oo + k * 4 + 2, none⟩ = some u) : w.ownsRow base 40 3 u (l[k]'h).pl.length (runs (l[k]'h).pl) := by
  obtain ⟨cs, h1, h2⟩ := hv
  obtain ⟨y, e1, e2⟩ := holdE_at h2 k h
  rcases h1.2 with ⟨_, h0⟩ | ⟨g, c2, cur, rfl, _⟩
  · omega
  · injection e with e _ _
    injection e with e
    injection e with e3 e4 _
    subst e3 e4
    rw [Nat.zero_add, h1.cellAt (k * 4 + 2) (by omega), e1] at hc
    injection hc with hc
    subst hc
    exact e2
theorem own_put4 {X : World} {g base n : Nat} {u : Value} {rs : List Value} {cs : Array Value} (d0 d1 d2 d3 : Value) (h : X.ownsRow base 40 3 u n rs) (hg : X.heap[g]? = some (.cells cs 53)) : (put4 X g d0 d1 d2 d3).ownsRow base 40 3 u n rs := by
  refine ⟨h.1, ?_⟩
  rcases h.2 with h | ⟨b, cap, c, e1, e2, e3, e4⟩
  · exact .inl h
  · refine .inr ⟨b, cap, c, e1, e2, put4_other d0 d1 d2 d3 ?_ e3, e4⟩
    rintro rfl
    rw [hg] at e3
    injection e3 with e3
    injection e3 with _ e3 _
    exact absurd e3 (by decide)
set_option maxRecDepth 100000 in
set_option maxHeartbeats 8000000 in
theorem vAt_any {v : Value} {l : List Opn} (s : Id) (k : Int) {w : World} (hv : OpL w v l) : Calls Tryz.prog 19 #[v, .agg #[.int .u32 (s.t : Int), .int .u8 (s.r : Int)], .int .i64 k] w (OneE (atL l s k) (atE l s k) w) := by
  obtain ⟨wb, hwb⟩ : ∃ x, x = w.alloc (.cells #[.int .u32 (s.t : Int), .int .u8 (s.r : Int)] 25) := ⟨_, rfl⟩
  obtain ⟨wl, hwl⟩ : ∃ x, x = wb.alloc (.cells #[.int .u32 0, .int .u8 0, .slice none 0 0, .int .i64 0] 53) := ⟨_, rfl⟩
  have hsz : wb.heap.size = w.heap.size + 1 := by rw [hwb]; exact Array.size_push _
  have X0 : Hid (wl.heap[w.heap.size + 1]? = some (.cells #[.int .u32 0, .int .u8 0, .slice none 0 0, .int .i64 0] 53)) := by rw [hwl, ← hsz]; exact blk_new rfl
  have Bb : Below w.heap.size w wb := by rw [hwb]; exact (Below.refl _ _).alloc (Nat.le_refl _) _
  have Y0 : Hid (wl.heap[w.heap.size]? = some (.cells #[.int .u32 (s.t : Int), .int .u8 (s.r : Int)] 25)) := by
    have h1 : wb.heap[w.heap.size]? = some (.cells #[.int .u32 (s.t : Int), .int .u8 (s.r : Int)] 25) := by rw [hwb]; exact blk_new rfl
    rw [hwl]
    exact blk_below ((Below.refl _ _).alloc (Nat.le_refl _) _) h1
  have B0 : Hid (Below w.heap.size w wl) := by rw [hwl]; exact Bb.alloc (by omega) _
  have HW : Hid (wl = (w.alloc (.cells #[.int .u32 (s.t : Int), .int .u8 (s.r : Int)] 25)).alloc (.cells #[.int .u32 0, .int .u8 0, .slice none 0 0, .int .i64 0] 53)) := by rw [hwl, hwb]; rfl
  have EL : Hid (Calls Tryz.prog 15 #[v, .agg #[.int .u32 (s.t : Int), .int .u8 (s.r : Int)]] wl (DoneOE (elmL l s) (spanE l s) wl)) := vElements_any s (hv.keeps B0.out)
  have hlen := (elm_fits l s).1
  unfold DoneOE at EL
  have eE : atE l s k = if spanE l s = 0 then (if 0 ≤ k ∧ k < ((elmL l s).length : Int) then 0 else 2) else spanE l s := rfl
  have eL : atL l s k = if spanE l s = 0 ∧ 0 ≤ k ∧ k < ((elmL l s).length : Int) then (elmL l s).getD k.toNat Codes.zop else Codes.zop := rfl
  rw [eE, eL]
  obtain ⟨L, hL⟩ : ∃ L, elmL l s = L := ⟨_, rfl⟩
  rw [hL] at EL hlen ⊢
  obtain ⟨x, hx⟩ : ∃ x, spanE l s = x := ⟨_, rfl⟩
  rw [hx] at EL ⊢
  clear hv hwl hwb hsz Bb hL hx eE eL
  obtain ⟨ts, rs, hts, hrs⟩ := s
  simp only at Y0 HW EL ⊢
  by_cases h0 : x = 0
  rotate_left
  · rw [if_neg (fun h => h0 h.1), if_neg h0]
    have q0 : (x != 0) = true := by simpa using h0
    have q1 : decide (x = 0) = false := decide_eq_false h0
    have d0 := cell_of_row _ _ 0 _ _ _ Y0.out
    have d1 := cell_of_row _ _ 1 _ _ _ Y0.out
    go_enter Tryz.func19, Tryz.ntmps19
    go_wp2_with fail
    rw [← HW.out]
    refine EL.out.mono ?_
    rintro e w1 ⟨v1, rfl, o1, b1⟩
    obtain ⟨ea, ec, rfl⟩ := o1.el.shape
    have O1 : Hid (OwnE w1 w.heap.size (.slice ea _ ec) L) := o1.base B0.out.size
    have B1 := Lib.hid (bt B0.out b1)
    have X1 := Lib.hid (blk_below b1 X0.out)
    clear b1 o1 Y0 X0 B0 HW EL d0 d1
    obtain ⟨c0, c1, c2, c3⟩ := cells4 X1.out
    have f0 : ∀ o, w1.frozen? ⟨w.heap.size + 1, o, none⟩ = false := fun o => free4 X1.out o
    have HF := Lib.hid (put4_same (.int .u32 0) (.int .u8 0) (.slice none 0 0) (.int .i64 0) X1.out)
    have BF := Lib.hid (put4_below (.int .u32 0) (.int .u8 0) (.slice none 0 0) (.int .i64 0) (Nat.le_add_right w.heap.size 1) B1.out)
    obtain ⟨WF, hWF⟩ : ∃ WF, put4 w1 (w.heap.size + 1) (.int .u32 0) (.int .u8 0) (.slice none 0 0) (.int .i64 0) = WF := ⟨_, rfl⟩
    rw [hWF] at HF BF
    unfold put4 at hWF
    have HX := Lib.hid hWF
    clear hWF X1 B1 O1
    go_wp2
    rw [HX.out]
    obtain ⟨e0, e1, e2, e3⟩ := cells4 HF.out
    exact bodyPost_ret (v := .tuple #[.agg #[.int .u32 0, .int .u8 0, .slice none 0 0, .int .i64 0], .int .i64 x]) (by simp [results, Tryz.results19, go_sem, e0, e1, e2, e3]) rfl ⟨_, rfl, World.ownsRow_nil _ _ _ _, BF.out⟩
  subst h0
  obtain ⟨n, hn⟩ : ∃ n, L.length = n := ⟨_, rfl⟩
  have HN := Lib.hid hn
  by_cases hk : 0 ≤ k ∧ k < (L.length : Int)
  rotate_left
  · rw [if_neg (fun h => hk h.2), if_pos rfl, if_neg hk]
    rw [hn] at hk hlen
    by_cases hneg : k < 0
    · have q2 : decide (k < 0) = true := decide_eq_true hneg
      have d0 := cell_of_row _ _ 0 _ _ _ Y0.out
      have d1 := cell_of_row _ _ 1 _ _ _ Y0.out
      go_enter Tryz.func19, Tryz.ntmps19
      go_wp2_with fail
      rw [← HW.out]
      refine EL.out.mono ?_
      rintro e w1 ⟨v1, rfl, o1, b1⟩
      obtain ⟨ea, ec, rfl⟩ := o1.el.shape
      have O1 : Hid (OwnE w1 w.heap.size (.slice ea _ ec) L) := o1.base B0.out.size
      have B1 := Lib.hid (bt B0.out b1)
      have X1 := Lib.hid (blk_below b1 X0.out)
      clear b1 o1 Y0 X0 B0 HW EL d0 d1
      rw [HN.out]
      obtain ⟨c0, c1, c2, c3⟩ := cells4 X1.out
      have f0 : ∀ o, w1.frozen? ⟨w.heap.size + 1, o, none⟩ = false := fun o => free4 X1.out o
      have HF := Lib.hid (put4_same (.int .u32 0) (.int .u8 0) (.slice none 0 0) (.int .i64 0) X1.out)
      have BF := Lib.hid (put4_below (.int .u32 0) (.int .u8 0) (.slice none 0 0) (.int .i64 0) (Nat.le_add_right w.heap.size 1) B1.out)
      obtain ⟨WF, hWF⟩ : ∃ WF, put4 w1 (w.heap.size + 1) (.int .u32 0) (.int .u8 0) (.slice none 0 0) (.int .i64 0) = WF := ⟨_, rfl⟩
      rw [hWF] at HF BF
      unfold put4 at hWF
      have HX := Lib.hid hWF
      clear hWF X1 B1 O1
      go_wp2
      rw [HX.out]
      obtain ⟨e0, e1, e2, e3⟩ := cells4 HF.out
      exact bodyPost_ret (v := .tuple #[.agg #[.int .u32 0, .int .u8 0, .slice none 0 0, .int .i64 0], .int .i64 2]) (by simp [results, Tryz.results19, go_sem, e0, e1, e2, e3]) rfl ⟨_, rfl, World.ownsRow_nil _ _ _ _, BF.out⟩
    · have q2 : decide (k < 0) = false := decide_eq_false hneg
      have q3 : decide ((n : Int) ≤ k) = true := decide_eq_true (by omega)
      have d0 := cell_of_row _ _ 0 _ _ _ Y0.out
      have d1 := cell_of_row _ _ 1 _ _ _ Y0.out
      go_enter Tryz.func19, Tryz.ntmps19
      go_wp2_with fail
      rw [← HW.out]
      refine EL.out.mono ?_
      rintro e w1 ⟨v1, rfl, o1, b1⟩
      obtain ⟨ea, ec, rfl⟩ := o1.el.shape
      have O1 : Hid (OwnE w1 w.heap.size (.slice ea _ ec) L) := o1.base B0.out.size
      have B1 := Lib.hid (bt B0.out b1)
      have X1 := Lib.hid (blk_below b1 X0.out)
      clear b1 o1 Y0 X0 B0 HW EL d0 d1
      rw [HN.out]
      obtain ⟨c0, c1, c2, c3⟩ := cells4 X1.out
      have f0 : ∀ o, w1.frozen? ⟨w.heap.size + 1, o, none⟩ = false := fun o => free4 X1.out o
      have HF := Lib.hid (put4_same (.int .u32 0) (.int .u8 0) (.slice none 0 0) (.int .i64 0) X1.out)
      have BF := Lib.hid (put4_below (.int .u32 0) (.int .u8 0) (.slice none 0 0) (.int .i64 0) (Nat.le_add_right w.heap.size 1) B1.out)
      obtain ⟨WF, hWF⟩ : ∃ WF, put4 w1 (w.heap.size + 1) (.int .u32 0) (.int .u8 0) (.slice none 0 0) (.int .i64 0) = WF := ⟨_, rfl⟩
      rw [hWF] at HF BF
      unfold put4 at hWF
      have HX := Lib.hid hWF
      clear hWF X1 B1 O1
      go_wp2
      rw [HX.out]
      obtain ⟨e0, e1, e2, e3⟩ := cells4 HF.out
      exact bodyPost_ret (v := .tuple #[.agg #[.int .u32 0, .int .u8 0, .slice none 0 0, .int .i64 0], .int .i64 2]) (by simp [results, Tryz.results19, go_sem, e0, e1, e2, e3]) rfl ⟨_, rfl, World.ownsRow_nil _ _ _ _, BF.out⟩
  rw [if_pos ⟨rfl, hk⟩, if_pos rfl, if_pos hk]
  obtain ⟨j, rfl⟩ : ∃ j : Nat, k = (j : Int) := ⟨k.toNat, by omega⟩
  rw [Int.toNat_natCast]
  have hjl : j < L.length := by omega
  have hg : L.getD j Codes.zop = L[j]'hjl := by rw [List.getD_eq_getElem?_getD, List.getElem?_eq_getElem hjl]; rfl
  rw [hg]
  obtain ⟨y, hy⟩ : ∃ y, L[j]'hjl = y := ⟨_, rfl⟩
  rw [hn] at hk hlen
  rw [hy]
  have HY := Lib.hid hy
  clear hy
  obtain ⟨yk, t, r, yl, p, hyk, ht, hr, hp⟩ := y
  unfold OneE elv
  simp only
  have q2 : decide ((j : Int) < 0) = false := decide_eq_false (by omega)
  have q3 : decide ((n : Int) ≤ (j : Int)) = false := decide_eq_false (by omega)
  have q3' : decide (n ≤ j) = false := decide_eq_false (by omega)
  have q4 : (0 : Int) ≤ (j : Int) := by omega
  have q5 : (j : Int) < (n : Int) := by omega
  clear hg hn
  have d0 := cell_of_row _ _ 0 _ _ _ Y0.out
  have d1 := cell_of_row _ _ 1 _ _ _ Y0.out
  go_enter Tryz.func19, Tryz.ntmps19
  go_wp2_with fail
  rw [← HW.out]
  refine EL.out.mono ?_
  rintro e w1 ⟨v1, rfl, o1, b1⟩
  obtain ⟨ea, ec, rfl⟩ := o1.el.shape
  have O1 : Hid (OwnE w1 w.heap.size (.slice ea _ ec) L) := o1.base B0.out.size
  have B1 := Lib.hid (bt B0.out b1)
  have X1 := Lib.hid (blk_below b1 X0.out)
  clear b1 o1 Y0 X0 B0 HW EL d0 d1
  obtain ⟨bb, oo, u, e, hbb, hru, h0, h1, h2, h3⟩ := el_at O1.out.el j hjl
  have hrow := ownE_place O1.out j hjl (by rw [e]) h2
  cases e
  rw [HY.out] at hru h0 h1 h3 hrow
  simp only at hru h0 h1 h3 hrow
  obtain ⟨uo, uc, rfl⟩ := hru.shape
  have RU := Lib.hid hrow
  rw [HN.out]
  obtain ⟨ny, hny⟩ : ∃ z, yl.length = z := ⟨_, rfl⟩
  have HNY := Lib.hid hny
  rw [hny] at RU h2
  clear hru hrow hny HY hbb
  obtain ⟨c0, c1, c2, c3⟩ := cells4 X1.out
  have f0 : ∀ o, w1.frozen? ⟨w.heap.size + 1, o, none⟩ = false := fun o => free4 X1.out o
  have HF := Lib.hid (put4_same (.int .u32 (t : Int)) (.int .u8 (r : Int)) (.slice uo ny uc) (.int .i64 p) X1.out)
  have BF := Lib.hid (put4_below (.int .u32 (t : Int)) (.int .u8 (r : Int)) (.slice uo ny uc) (.int .i64 p) (Nat.le_add_right w.heap.size 1) B1.out)
  have RF := Lib.hid (own_put4 (.int .u32 (t : Int)) (.int .u8 (r : Int)) (.slice uo ny uc) (.int .i64 p) RU.out X1.out)
  obtain ⟨WF, hWF⟩ : ∃ WF, put4 w1 (w.heap.size + 1) (.int .u32 (t : Int)) (.int .u8 (r : Int)) (.slice uo ny uc) (.int .i64 p) = WF := ⟨_, rfl⟩
  rw [hWF] at HF BF RF
  unfold put4 at hWF
  have HX := Lib.hid hWF
  clear hWF X1 B1 O1
  go_wp2
  rw [HX.out]
  obtain ⟨e0, e1, e2, e3⟩ := cells4 HF.out
  exact bodyPost_ret (v := .tuple #[.agg #[.int .u32 (t : Int), .int .u8 (r : Int), .slice uo ny uc, .int .i64 p], .int .i64 0]) (by simp [results, Tryz.results19, go_sem, e0, e1, e2, e3]) rfl ⟨_, rfl, by rw [HNY.out]; exact RF.out, BF.out⟩
end Go.Proofs.YtmiepnnpccpicaaGreat.Views
