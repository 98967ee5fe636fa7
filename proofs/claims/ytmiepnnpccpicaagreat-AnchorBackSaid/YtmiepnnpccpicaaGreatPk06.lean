/- octavo/home.name, begin, number: what each answers. Conditions: the slice's cells are operations, not more than a million. octavo/home.Of: its closure, and the search. Conditions: live marks, a place that may be, or the beginning. Lists of operations as the row that a sort passes through. Conditions: places that may be, or the beginning. The draws of a run: no step takes any back. Conditions: none. octavo/marks.Live's closure: how two operations are held against each other. Conditions: the places read as such. slices.SortFunc at operations: the library's contract laid at this program. Conditions: as it says. -/
import Derived.Test.YtmiepnnpccpicaaGreatChecked
import Derived.WalkKit
import Derived.WalkSpells
import Derived.WalkLawsBesides
import Derived.Laws.BytesArg
import Derived.Lib.Hide
import Derived.Deep.LoopGhost
import Derived.Laws.AppendOwnNone
import Derived.Laws.OwnMore
import Derived.WideShapes
import Derived.Maps.AppendAt
import Derived.RegionTactic
import Derived.Deep.RegionHeld3
import Derived.Deep.DrawnRows
import Derived.Deep.QuietTactic
import Derived.BigQuiet
import Derived.IntWalk
import Derived.Deep.DeepCutAuto
import Derived.ScopeJumps
import Derived.Test.YtmiepnnpccpicaaGreatProg
import Derived.LoopTactic
import Derived.Laws.EntriesVeiled
import Derived.RowKit
import Derived.Shelf.Abstract
import Derived.Shelf.SlSortCmp.InsertionK
import Derived.Calls
import Derived.StepT
import Derived.Below
import Derived.Sort.Grow
import Derived.Deep.Draws
import Derived.Shelf.SlLaysF0
import Derived.Test.YtmiepnnpccpicaaGreatRw
import Derived.Test.YtmiepnnpccpicaaGreatPk05
import Derived.Test.YtmiepnnpccpicaaGreatPk04
import Derived.Test.YtmiepnnpccpicaaGreatPk03
import Derived.Test.YtmiepnnpccpicaaGreatPk02
import Derived.Test.YtmiepnnpccpicaaGreatPk01

namespace Go.Proofs.YtmiepnnpccpicaaGreat.Homes
open Go.RowKit Go.WideShapes Stamp Go.Proofs.YtmiepnnpccpicaaGreat.Place Ops Codes Bags Marks
attribute [local go_sem ↓] Go.wp_at_zero Go.wp_at_succ
attribute [local go_sem] yielded_undef
theorem sects_succ {live : List Opn} {j : Nat} (h : j < live.length) : (sectsM live).getD (j + 1) zid = idO (live[j]'h) := by
  unfold sectsM
  rw [List.getD_cons_succ, List.getD_eq_getElem?_getD, List.getElem?_map, List.getElem?_eq_getElem h]
  rfl
set_option maxRecDepth 100000 in
set_option maxHeartbeats 4000000 in
theorem hName_any {v : Value} {live : List Opn} {w : World} (hv : OpL w v live) (hl : live.length ≤ 1000000) (i : Nat) (hi : i ≤ live.length) :
    Calls Tryz.prog 56 #[v, .int .i64 (i : Int)] w fun e w' => e = .returned (.agg #[.int .u32 (((sectsM live).getD i zid).t : Int), .int .u8 (((sectsM live).getD i zid).r : Int)]) ∧ Below w.heap.size w w' := by
  obtain ⟨ao, cap, rfl⟩ := hv.shape
  by_cases h0 : i = 0
  · subst h0
    have e1 : (sectsM live).getD 0 zid = zid := rfl
    rw [e1]
    generalize live.length = n
    clear e1 hv hl hi
    go_enter Tryz.func56, Tryz.ntmps56
    go_wp2
    refine bodyPost_ret (v := .agg #[.int .u32 0, .int .u8 0]) (by simp [results, Tryz.results56, go_sem]) rfl ⟨rfl, ?_⟩
    exact (Below.refl _ _).alloc (Nat.le_refl _) _
  obtain ⟨j, rfl⟩ : ∃ j, i = j + 1 := ⟨i - 1, by omega⟩
  have hjl : j < live.length := by omega
  rw [sects_succ hjl]
  have B0 : Below w.heap.size w (w.alloc (.cells #[.int .u32 0, .int .u8 0] 25)) := (Below.refl _ _).alloc (Nat.le_refl _) _
  obtain ⟨bb, oo, y, e, hbb, hru, h0, h1, h2, h3, h4⟩ := opl_at (hv.keeps B0) j hjl
  subst e
  obtain ⟨x, hx⟩ : ∃ x, live[j]'hjl = x := ⟨_, rfl⟩
  rw [hx] at h1 h2 ⊢
  obtain ⟨k, t, r, l, p, hk, ht, hr, hp⟩ := x
  simp only [idO] at h1 h2 ⊢
  obtain ⟨bb', oo', y', e', hbb', _⟩ := opl_at hv j hjl
  cases e'
  obtain ⟨n, hn⟩ : ∃ n, live.length = n := ⟨_, rfl⟩
  rw [hn] at hl hjl hi ⊢
  have e1 : ((j + 1 : Nat) : Int) = (j : Int) + 1 := by omega
  have q0 : ¬ ((j : Int) + 1 = 0) := by omega
  have q1 : decide ((j : Int) + 1 = 0) = false := decide_eq_false q0
  have q2 : (j : Int) + 1 - 1 = (j : Int) := by omega
  have q3 : IntKind.i64.wrap (j : Int) = (j : Int) := IntWalk.i64_in _ (by omega)
  have q4 : (0 : Int) ≤ (j : Int) := by omega
  have q5 : (j : Int) < (n : Int) := by omega
  have hne : ¬ bb = w.heap.size := by omega
  rw [e1]
  clear hv h3 h4 hru hx hn B0 e1 hbb
  go_enter Tryz.func56, Tryz.ntmps56
  go_wp2
  refine bodyPost_ret (v := .agg #[.int .u32 (t : Int), .int .u8 (r : Int)]) (by simp [results, Tryz.results56, go_sem]) rfl ⟨rfl, ?_⟩
  exact (Below.refl _ _).alloc (Nat.le_refl _) _
theorem holdP_at {w : World} {base : Nat} : ∀ {cs : List Value} {l : List Opn}, HoldP w base cs l → ∀ k (h : k < l.length), ∃ y, cs[k * 5 + 3]? = some y ∧ w.ownsRow base 40 3 y (l[k]'h).pl.length (runs (l[k]'h).pl)
  | _, [], _, k, h => by simp at h
  | _, o :: l, ⟨v, d, h1, h2, h3⟩, 0, h => ⟨v, by rw [h1]; rfl, h2⟩
  | _, o :: l, ⟨v, d, h1, h2, h3⟩, k + 1, h => by
    obtain ⟨y, e1, e2⟩ := holdP_at h3 k (by simpa using h)
    refine ⟨y, ?_, by simpa using e2⟩
    rw [h1, List.getElem?_append_right (by simp only [List.length_cons, List.length_nil]; omega)]
    rw [show (k + 1) * 5 + 3 - [Value.int .u8 (o.k : Int), .int .u32 (o.t : Int), .int .u8 (o.r : Int), v, .int .i64 o.p].length = k * 5 + 3 by simp only [List.length_cons, List.length_nil]; omega]
    exact e1
theorem ownL_at {w : World} {base : Nat} {v : Value} {l : List Opn} (hv : OwnL w base v l) (k : Nat) (h : k < l.length) :
    ∃ g cap y, v = .slice (some ⟨g, 0, none⟩) l.length cap ∧ w.cell? ⟨g, k * 5 + 3, none⟩ = some y ∧ w.ownsRow base 40 3 y (l[k]'h).pl.length (runs (l[k]'h).pl) := by
  obtain ⟨cs, h1, h2⟩ := hv
  obtain ⟨y, e1, e2⟩ := holdP_at h2 k h
  rcases h1.2 with ⟨_, h0⟩ | ⟨g, cap, cur, rfl, _⟩
  · omega
  · exact ⟨g, cap, y, rfl, by rw [h1.cellAt (k * 5 + 3) (by omega), e1], e2⟩
theorem own_slice {w : World} {base n : Nat} {e : TypeId} {v : Value} {cs : List Value} (h : w.ownsRow base e 3 v n cs) : ∃ ao cap, v = .slice ao n cap := by
  rcases h.2 with ⟨hv, h0⟩ | ⟨g, c2, cur, hv, hb, _⟩
  · rw [h0]; exact ⟨_, _, hv⟩
  · exact ⟨_, _, hv⟩
set_option maxRecDepth 100000 in
set_option maxHeartbeats 4000000 in
theorem hBegin_any {v : Value} {live : List Opn} {base : Nat} {w : World} (hv : OwnL w base v live) (i : Nat) (hi2 : i ≤ 1000001) :
    Calls Tryz.prog 132 #[v, .int .i64 (i : Int)] w fun e w' => (∃ ao cap, e = .returned (.slice ao (beginM live i).length cap) ∧ w.ownsRow base 40 3 (.slice ao (beginM live i).length cap) (beginM live i).length (runs (beginM live i))) ∧ w' = w := by
  obtain ⟨ao, cap, rfl⟩ := hv.opl.shape
  by_cases h0 : i = 0
  · subst h0
    rw [begin_low (by omega)]
    obtain ⟨n, hn⟩ : ∃ n, live.length = n := ⟨_, rfl⟩
    rw [hn]
    clear hv hn hi2
    go_enter Tryz.func132, Tryz.ntmps132
    go_wp2
    go_ret
    exact ⟨⟨_, _, rfl, World.ownsRow_nil _ _ _ _⟩, rfl⟩
  have q1 : decide ((i : Int) = 0) = false := decide_eq_false (by omega)
  have q0 : ¬ ((i : Int) = 0) := by omega
  by_cases hi : live.length < i
  · rw [begin_high (by omega)]
    obtain ⟨n, hn⟩ : ∃ n, live.length = n := ⟨_, rfl⟩
    rw [hn] at hi ⊢
    have q2 : decide (n < i) = true := decide_eq_true hi
    have q3 : decide ((n : Int) < (i : Int)) = true := decide_eq_true (by omega)
    clear hv hn
    go_enter Tryz.func132, Tryz.ntmps132
    go_wp2
    go_ret
    exact ⟨⟨_, _, rfl, World.ownsRow_nil _ _ _ _⟩, rfl⟩
  obtain ⟨j, hj⟩ : ∃ j, j = i - 1 := ⟨_, rfl⟩
  have hjl : j < live.length := by omega
  have hbg := begin_succ hjl
  have q4 : (i : Int) - 1 = (j : Int) := by omega
  rw [show (j : Int) + 1 = (i : Int) by omega] at hbg
  obtain ⟨g, cap', y, e, h3, ho⟩ := ownL_at hv j hjl
  cases e
  rw [hbg]
  obtain ⟨R, hR⟩ : ∃ z, (live[j]'hjl).pl = z := ⟨_, rfl⟩
  rw [hR] at ho ⊢
  obtain ⟨n, hn⟩ : ∃ n, live.length = n := ⟨_, rfl⟩
  rw [hn] at hjl hi ⊢
  obtain ⟨yo, yc, rfl⟩ := own_slice ho
  have HO := Lib.hid ho
  have q2 : decide (n < i) = false := decide_eq_false hi
  have q3 : decide ((n : Int) < (i : Int)) = false := decide_eq_false (by omega)
  have q5 : IntKind.i64.wrap (j : Int) = (j : Int) := IntWalk.i64_in _ (by omega)
  have q6 : (0 : Int) ≤ (j : Int) := by omega
  have q7 : (j : Int) < (n : Int) := by omega
  obtain ⟨m, hm⟩ : ∃ m, R.length = m := ⟨_, rfl⟩
  rw [hm] at HO h3 ⊢
  clear hv hn ho hj hbg hR hm
  go_enter Tryz.func132, Tryz.ntmps132
  go_wp2
  go_ret
  exact ⟨⟨_, _, rfl, HO.out⟩, rfl⟩
/-- The number of a section, and whether it is one. -/
def NumI (x : Int) (e : Ending) : Prop := e = .returned (.tuple #[.int .i64 (if 0 ≤ x then x else 0), .bool (decide (0 ≤ x))])
set_option maxRecDepth 100000 in
set_option maxHeartbeats 8000000 in
theorem hNumber_any {v : Value} {live : List Opn} (s : Id) {w : World} (hv : OpL w v live) (hl : live.length ≤ 1000000) :
    Calls Tryz.prog 131 #[v, .agg #[.int .u32 (s.t : Int), .int .u8 (s.r : Int)]] w fun e w' => NumI (whereM live s) e ∧ Below w.heap.size w w' := by
  obtain ⟨ao, cap, rfl⟩ := hv.shape
  obtain ⟨wl, hwl⟩ : ∃ x, x = w.alloc (.cells #[.int .u32 (s.t : Int), .int .u8 (s.r : Int)] 25) := ⟨_, rfl⟩
  have B0 : Hid (Below w.heap.size w wl) := by rw [hwl]; exact (Below.refl _ _).alloc (Nat.le_refl _) _
  have P0 : Hid (Pair wl w.heap.size (.int .u32 (s.t : Int)) (.int .u8 (s.r : Int))) := by rw [hwl]; exact pair_new _ _ _ _
  have HW := Lib.hid hwl
  have NA : Hid (∀ (W : World) (i : Nat), Below w.heap.size w W → i ≤ live.length → Calls Tryz.prog 56 #[.slice ao live.length cap, .int .i64 (i : Int)] W fun e w' => e = .returned (.agg #[.int .u32 (((sectsM live).getD i zid).t : Int), .int .u8 (((sectsM live).getD i zid).r : Int)]) ∧ Below W.heap.size W w') := fun W i h hi => hName_any (hv.keeps h) hl i hi
  have HN : Hid (live.length + 1 = (sectsM live).length) := (sectsM_len live).symm
  have HY : Hid (∀ j (hj : j < (sectsM live).length), (∀ i (h : i < (sectsM live).length), i < j → (sectsM live)[i]'h ≠ s) → (sectsM live)[j]'hj = s → whereM live s = j) := fun j hj h1 h2 => where_is hj h1 h2
  have HZ : Hid ((∀ i (h : i < (sectsM live).length), (sectsM live)[i]'h ≠ s) → whereM live s = -1) := fun h => where_no h
  obtain ⟨q, hq⟩ : ∃ q, whereM live s = q := ⟨_, rfl⟩
  rw [hq] at HY HZ ⊢
  obtain ⟨L, hL⟩ : ∃ z, sectsM live = z := ⟨_, rfl⟩
  rw [hL] at NA HN HY HZ
  obtain ⟨n, hn⟩ : ∃ n, live.length = n := ⟨_, rfl⟩
  rw [hn] at NA HN hl ⊢
  obtain ⟨N, hNN⟩ : ∃ N, n + 1 = N := ⟨_, rfl⟩
  have hNm : N ≤ 1000001 := by omega
  have e0 : (n : Int) + 1 = (N : Int) := by omega
  have e1 : IntKind.i64.wrap (N : Int) = (N : Int) := IntWalk.i64_in _ (by omega)
  rw [hNN] at HN
  have NB : Hid (∀ (W : World) (i : Nat), Below w.heap.size w W → i < N → Calls Tryz.prog 56 #[.slice ao n cap, .int .i64 (i : Int)] W fun e w' => e = .returned (.agg #[.int .u32 ((L.getD i zid).t : Int), .int .u8 ((L.getD i zid).r : Int)]) ∧ Below W.heap.size W w') := fun W i h hi => NA.out W i h (by omega)
  obtain ⟨S, hS⟩ : ∃ z, s = z := ⟨_, rfl⟩
  have HSI : Hid (∀ x : Id, x = s ↔ x.t = s.t ∧ x.r = s.r) := fun x => Id.eq_iff
  rw [hS] at HY HZ
  have HSE : Hid (∀ x : Id, x = S ↔ x.t = s.t ∧ x.r = s.r) := by rw [← hS]; exact HSI.out
  obtain ⟨ts, rs, hts, hrs⟩ := s
  simp only at P0 HSE HW ⊢
  have HGO : Hid (∀ e (W : World), NumI q e → Below w.heap.size w W → NumI q e ∧ Below w.heap.size w W) := fun e W h1 h2 => ⟨h1, h2⟩
  have HQ1 : Hid (∀ j : Nat, q = (j : Int) → NumI q (.returned (.tuple #[.int .i64 (j : Int), .bool true]))) := fun j h => by
    unfold NumI
    rw [h, if_pos (by omega), decide_eq_true (by omega)]
  have HQ0 : Hid (q = -1 → NumI q (.returned (.tuple #[.int .i64 0, .bool false]))) := fun h => by
    unfold NumI
    rw [h, if_neg (by omega), decide_eq_false (by omega)]
  clear hv hq hL hn hl hS HSI hwl NA hNN
  go_enter Tryz.func131, Tryz.ntmps131
  go_wp2
  rw [← HW.out]
  go_loopw [10] (fun i wr => ∃ j : Nat, j ≤ N ∧ i = .int .i64 (j : Int) ∧ Hid (∀ k (h : k < L.length), k < j → L[k]'h ≠ S) ∧ Hid (Below wl.heap.size wl wr)) (fun i _ => N - (intOf i).toNat)
  case atStart => exact ⟨0, by omega, rfl, fun k h hk => by omega, Below.refl _ _⟩
  case round =>
    obtain ⟨j, hj, rfl, hno, hbel⟩ := hrel
    have BW := Lib.hid (bt B0.out hbel.out)
    by_cases hjn : j < N
    rotate_left
    · have q3 : decide (j < N) = false := by simpa using hjn
      have HR := Lib.hid (HQ0.out (HZ.out (fun i h => hno.out i h (by have := HN.out; omega))))
      go_wp2
      go_ret2
      exact HGO.out _ _ HR.out BW.out
    have q3 : decide (j < N) = true := by simpa using hjn
    have hjl : j < L.length := by rw [← HN.out]; exact hjn
    have NX := Lib.hid (fun W (h : Below wr.heap.size wr W) => NB.out W j (bt BW.out h) hjn)
    rw [getD_get hjl] at NX
    obtain ⟨x, hx⟩ : ∃ x, L[j]'hjl = x := ⟨_, rfl⟩
    rw [hx] at NX
    have HX : Hid (L[j]'hjl = x) := hx
    have HXS := Lib.hid (HSE.out x)
    obtain ⟨t, r, ht, hr⟩ := x
    simp only at NX HXS
    have SK : Hid (∀ w' : World, Below wr.heap.size wr w' → Below wr.heap.size wr w' ∧ w'.cell? ⟨w.heap.size, 0, none⟩ = some (.int .u32 (ts : Int)) ∧ w'.cell? ⟨w.heap.size, 1, none⟩ = some (.int .u8 (rs : Int))) := fun W h => by
      have p := P0.out.keeps (bt hbel.out h)
      exact ⟨h, p.2.1, p.2.2⟩
    clear hx
    by_cases he : t = ts ∧ r = rs
    · obtain ⟨rfl, rfl⟩ := he
      have HR := Lib.hid (HQ1.out j (HY.out j hjl hno.out (by rw [HX.out]; exact HXS.out.2 ⟨rfl, rfl⟩)))
      clear HXS HX HY HZ HQ0 HQ1 hno NB
      go_wp2
      refine wp_region_held_drew (S := fun w' => Below wr.heap.size wr w' ∧ w'.cell? ⟨w.heap.size, 0, none⟩ = some (.int .u32 (t : Int)) ∧ w'.cell? ⟨w.heap.size, 1, none⟩ = some (.int .u8 (r : Int))) (by kernel_rfl) (SK.out _ (drew1 _)) (fun hHeld => ?_)
      refine rN 0 ?_
      refine rN 1 ?_
      refine rN 3 ?_
      refine wpAnyH_ready (rs := [2]) (by kernel_rfl) (by simp) ?_
      refine AllReadyH.cons rfl (fun K hK => ?_) ?za2
      case za2 => exact AllReadyH.nil
      go_simp
      refine (NX.out _ hHeld.1).mono ?_
      rintro e w9a2 ⟨rfl, b9⟩
      refine hK.out _ _ (SK.out _ (bt hHeld.1 b9)) (fun hNew => ?_)
      clear hHeld
      have hHeld := hNew
      clear hNew hK K
      refine rX ?_
      refine rN 4 ?_
      refine wpAnyH_done (by kernel_rfl) ?_ _
      go_wp2
      go_ret2
      exact HGO.out _ _ HR.out (bt BW.out hHeld.1)
    have NO : Hid (∀ k (h : k < L.length), k < j + 1 → L[k]'h ≠ S) := fun k h hk => by
      by_cases e : k = j
      · subst e
        rw [HX.out]
        intro e2
        exact he (HXS.out.1 e2)
      · exact hno.out k h (by omega)
    have hne : ¬ t = ts ∨ (t = ts ∧ ¬ r = rs) := by
      by_cases h : t = ts
      · exact .inr ⟨h, fun h2 => he ⟨h, h2⟩⟩
      · exact .inl h
    clear HXS HX HY HZ HQ0 HQ1 hno NB he
    rcases hne with hne | ⟨rfl, hne⟩
    · have hi : ¬ ((t : Int) = (ts : Int)) := by omega
      go_wp2
      refine wp_region_held_drew (S := fun w' => Below wr.heap.size wr w' ∧ w'.cell? ⟨w.heap.size, 0, none⟩ = some (.int .u32 (ts : Int)) ∧ w'.cell? ⟨w.heap.size, 1, none⟩ = some (.int .u8 (rs : Int))) (by kernel_rfl) (SK.out _ (drew1 _)) (fun hHeld => ?_)
      refine rN 0 ?_
      refine rN 1 ?_
      refine rN 3 ?_
      refine wpAnyH_ready (rs := [2]) (by kernel_rfl) (by simp) ?_
      refine AllReadyH.cons rfl (fun K hK => ?_) ?zb2
      case zb2 => exact AllReadyH.nil
      go_simp
      refine (NX.out _ hHeld.1).mono ?_
      rintro e w9b2 ⟨rfl, b9⟩
      refine hK.out _ _ (SK.out _ (bt hHeld.1 b9)) (fun hNew => ?_)
      clear hHeld
      have hHeld := hNew
      clear hNew hK K
      refine rX ?_
      refine rN 4 ?_
      refine wpAnyH_done (by kernel_rfl) ?_ _
      go_wp2
      go_roundw
      case rel => exact ⟨j + 1, by omega, by go_num, NO, Lib.hid (bt hbel.out hHeld.1)⟩
      case measure => simp [intOf]; omega
    · have hi : ¬ ((r : Int) = (rs : Int)) := by omega
      go_wp2
      refine wp_region_held_drew (S := fun w' => Below wr.heap.size wr w' ∧ w'.cell? ⟨w.heap.size, 0, none⟩ = some (.int .u32 (t : Int)) ∧ w'.cell? ⟨w.heap.size, 1, none⟩ = some (.int .u8 (rs : Int))) (by kernel_rfl) (SK.out _ (drew1 _)) (fun hHeld => ?_)
      refine rN 0 ?_
      refine rN 1 ?_
      refine rN 3 ?_
      refine wpAnyH_ready (rs := [2]) (by kernel_rfl) (by simp) ?_
      refine AllReadyH.cons rfl (fun K hK => ?_) ?zc2
      case zc2 => exact AllReadyH.nil
      go_simp
      refine (NX.out _ hHeld.1).mono ?_
      rintro e w9c2 ⟨rfl, b9⟩
      refine hK.out _ _ (SK.out _ (bt hHeld.1 b9)) (fun hNew => ?_)
      clear hHeld
      have hHeld := hNew
      clear hNew hK K
      refine rX ?_
      refine rN 4 ?_
      refine wpAnyH_done (by kernel_rfl) ?_ _
      go_wp2
      go_roundw
      case rel => exact ⟨j + 1, by omega, by go_num, NO, Lib.hid (bt hbel.out hHeld.1)⟩
      case measure => simp [intOf]; omega
end Go.Proofs.YtmiepnnpccpicaaGreat.Homes

namespace Go.Proofs.YtmiepnnpccpicaaGreat.Homes
open Go.RowKit Go.WideShapes Stamp Go.Proofs.YtmiepnnpccpicaaGreat.Place Ops Codes Bags Marks
attribute [local go_sem ↓] Go.wp_at_zero Go.wp_at_succ
attribute [local go_sem] yielded_undef
def cmpH (x : Opn) (p : List Run) : Int := if notBehind x p = true then -1 else 1
theorem cmpH_is {x : Opn} {p : List Run} (hx : mayO x = true) (hp : anyB p = true) : cmpH x p = if 0 < cmp x.pl p then 1 else -1 := by
  have hc : cmp x.pl p = Go.Proofs.YtmiepnnpccpicaaGreat.Place.hold (all x.pl) (all p) := by
    unfold cmp
    exact if_pos ⟨anyB_may (mayO_parts hx).2.1, hp⟩
  rw [hc]
  unfold cmpH notBehind
  by_cases h : Go.Proofs.YtmiepnnpccpicaaGreat.Place.hold (all x.pl) (all p) ≤ 0
  · rw [if_pos (decide_eq_true h), if_neg (by omega)]
  · rw [if_neg (by simpa using h), if_pos (by omega)]
set_option maxRecDepth 100000 in
set_option maxHeartbeats 4000000 in
theorem hOf1_any {u v : Value} {x : Opn} {p : List Run} {w : World} (hu : Runs w u x.pl) (hv : Runs w v p) (hx : mayO x = true) (hp : anyB p = true) :
    Calls Tryz.prog 55 #[opv x u, v] w fun e w' => e = .returned (.int .i64 (cmpH x p)) ∧ Below w.heap.size w w' := by
  have PC : Hid (∀ W : World, Below w.heap.size w W → Calls Tryz.prog 16 #[u, v] W fun e w' => e = .returned (.int .i64 (cmp x.pl p)) ∧ Below W.heap.size W w') := fun W h => pCompare_any (hu.keeps h) (hv.keeps h)
  have B0 : Hid (Below w.heap.size w (w.alloc (.cells #[.int .u8 (x.k : Int), .int .u32 (x.t : Int), .int .u8 (x.r : Int), u, .int .i64 x.p] 47))) := (Below.refl _ _).alloc (Nat.le_refl _) _
  rw [cmpH_is hx hp]
  obtain ⟨q, hq⟩ : ∃ q, cmp x.pl p = q := ⟨_, rfl⟩
  rw [hq] at PC ⊢
  obtain ⟨uo, uc, rfl⟩ := hu.shape
  obtain ⟨vo, vc, rfl⟩ := hv.shape
  obtain ⟨nu, hnu⟩ : ∃ n, x.pl.length = n := ⟨_, rfl⟩
  obtain ⟨nv, hnv⟩ : ∃ n, p.length = n := ⟨_, rfl⟩
  rw [hnu] at PC B0 ⊢
  rw [hnv] at PC ⊢
  clear hq hu hv hnu hnv hx hp
  obtain ⟨k1, t1, r1, l1, p1, hk1, ht1, hr1, hp1⟩ := x
  unfold opv
  simp only at B0 ⊢
  clear hk1 ht1 hr1 hp1
  by_cases h : 0 < q
  · rw [if_pos h]
    have d1 : decide (0 < q) = true := decide_eq_true h
    go_enter Tryz.func55, Tryz.ntmps55
    go_wp2_with fail
    refine (PC.out _ B0.out).mono ?_
    rintro e w1 ⟨rfl, b1⟩
    have B1 := Lib.hid (bt B0.out b1)
    clear b1 PC B0
    go_wp2
    go_ret
    exact ⟨rfl, B1.out⟩
  · rw [if_neg h]
    have d1 : decide (0 < q) = false := decide_eq_false h
    go_enter Tryz.func55, Tryz.ntmps55
    go_wp2_with fail
    refine (PC.out _ B0.out).mono ?_
    rintro e w1 ⟨rfl, b1⟩
    have B1 := Lib.hid (bt B0.out b1)
    clear b1 PC B0
    go_wp2
    go_ret
    exact ⟨rfl, B1.out⟩
set_option maxRecDepth 100000 in
set_option maxHeartbeats 16000000 in
theorem hBin_any {v u : Value} {live : List Opn} {p : List Run} {w : World} (hv : OpL w v live) (hu : Runs w u p) (hl : live.length ≤ 1000000) (hL : Liv live) (hp : anyB p = true) :
    Calls Tryz.prog 54 #[v, u, .func (.func 55) #[] #[]] w fun e w' => (∃ q : Bool, e = .returned (.tuple #[.int .i64 (cntM live p : Int), .bool q])) ∧ Below w.heap.size w w' := by
  obtain ⟨ao, cap, rfl⟩ := hv.shape
  obtain ⟨uo, uc, rfl⟩ := hu.shape
  obtain ⟨n, hn⟩ : ∃ n, n = live.length := ⟨_, rfl⟩
  have HV : Hid (∀ W : World, Below w.heap.size w W → OpL W (.slice ao live.length cap) live) := fun W h => hv.keeps h
  have HN := Lib.hid hn
  have S1 : Hid (∀ (x : Opn) (y : Value) (W : World), x ∈ live → Runs W y x.pl → Below w.heap.size w W → Calls Tryz.prog 55 #[opv x y, .slice uo p.length uc] W fun e w' => e = .returned (.int .i64 (cmpH x p)) ∧ Below W.heap.size W w') := fun x y W hm hy h => hOf1_any hy (hu.keeps h) (hL.may x hm).1 hp
  have HLT : Hid (∀ (j : Nat) (h : j < live.length), cmpH (live[j]'h) p < 0 → j < cntM live p) := fun j h hc => by
    refine (nb_iff hL j h).1 ?_
    unfold cmpH at hc
    split at hc
    · assumption
    · omega
  have HGE : Hid (∀ (j : Nat) (h : j < live.length), ¬ cmpH (live[j]'h) p < 0 → cntM live p ≤ j) := fun j h hc => by
    refine Nat.le_of_not_lt fun h2 => hc ?_
    unfold cmpH
    rw [if_pos ((nb_iff hL j h).2 h2)]
    decide
  have HK := cntM_le live p
  have HC0 : Hid (∀ x : Opn, (cmpH x p == 0) = false) := fun x => by
    unfold cmpH
    split <;> rfl
  obtain ⟨K, hK⟩ : ∃ K, cntM live p = K := ⟨_, rfl⟩
  rw [hK] at HLT HGE HK ⊢
  obtain ⟨np, hnp⟩ : ∃ n, p.length = n := ⟨_, rfl⟩
  rw [hnp] at S1 ⊢
  rw [← hn] at hl HK ⊢
  clear hv hn hu hL hp hK hnp
  have eg := enters_of Tryz.func55 (by kernel_rfl) rfl
  have B0 : Hid (Below w.heap.size w w) := Below.refl _ _
  go_enter Tryz.func54, Tryz.ntmps54
  go_wp2
  go_loopw [9, 10] (fun x y wr => ∃ lo hi : Nat, x = .int .i64 (lo : Int) ∧ y = .int .i64 (hi : Int) ∧ lo ≤ hi ∧ hi ≤ n ∧ lo ≤ K ∧ K ≤ hi ∧ Hid (Below w.heap.size w wr)) (fun x y _ => (intOf y - intOf x).toNat)
  case atStart => exact ⟨0, n, rfl, rfl, by omega, by omega, by omega, HK, B0⟩
  case round =>
    clear B0
    obtain ⟨lo, hi, rfl, rfl, hlh, hhn, hlow, hhigh, hbel⟩ := hrel
    by_cases hlt : lo < hi
    · obtain ⟨m, hm⟩ : ∃ m, m = (lo + hi) / 2 := ⟨_, rfl⟩
      have em : ((lo : Int) + (hi : Int)) / 2 = (m : Int) := by omega
      have m1 : lo ≤ m := by omega
      have m2 : m < hi := by omega
      have q4 : (0 : Int) ≤ (m : Int) := by omega
      have q5 : (m : Int) < (n : Int) := by omega
      have hml : m < live.length := by rw [← HN.out]; omega
      clear hm
      obtain ⟨bb, oo, u, e, hbb, hru, h0, h1, h2, h3, h4⟩ := opl_at (HV.out wr hbel.out) m hml
      subst e
      obtain ⟨x, hx⟩ : ∃ x, x = live[m]'hml := ⟨_, rfl⟩
      rw [← hx] at hru h0 h1 h2 h4
      have HO : Hid (∀ v : Value, opv x v = .agg #[.int .u8 (x.k : Int), .int .u32 (x.t : Int), .int .u8 (x.r : Int), v, .int .i64 x.p]) := fun v => rfl
      obtain ⟨uo, uc, rfl⟩ := hru.shape
      obtain ⟨nu, hnu⟩ : ∃ n, n = x.pl.length := ⟨_, rfl⟩
      have HNU := Lib.hid hnu
      rw [← hnu] at hru h3
      clear hnu
      have hxm : x ∈ live := by rw [hx]; exact List.getElem_mem _
      have SX := Lib.hid (S1.out x _ wr hxm hru hbel.out)
      obtain ⟨c, hc⟩ : ∃ c, cmpH x p = c := ⟨_, rfl⟩
      rw [hc] at SX
      have HLO : Hid (c < 0 → m + 1 ≤ K) := fun h => HLT.out m hml (by rw [← hx, hc]; exact h)
      have HHI : Hid (¬ c < 0 → K ≤ m) := fun h => HGE.out m hml (by rw [← hx, hc]; omega)
      clear hru hx hc hxm
      obtain ⟨k, hk⟩ : ∃ z, x.k = z := ⟨_, rfl⟩
      obtain ⟨t, ht⟩ : ∃ z, x.t = z := ⟨_, rfl⟩
      obtain ⟨r, hr⟩ : ∃ z, x.r = z := ⟨_, rfl⟩
      obtain ⟨p, hp⟩ : ∃ z, x.p = z := ⟨_, rfl⟩
      rw [hk, ht, hr, hp] at HO
      rw [hk] at h0
      rw [ht] at h1
      rw [hr] at h2
      rw [hp] at h4
      simp only [HO.out] at SX
      clear hk ht hr hp HO S1 HLT HGE HC0 HV hbb
      by_cases hc0 : c < 0
      · have d1 : decide (c < 0) = true := decide_eq_true hc0
        have HN2 := HLO.out hc0
        clear HLO HHI
        go_wp2_with fail
        refine SX.out.mono ?_
        rintro e w1 ⟨rfl, b1⟩
        have BW := Lib.hid (bt hbel.out b1)
        clear b1 SX h0 h1 h2 h3 h4
        go_wp2
        go_roundw
        case rel => exact ⟨m + 1, hi, by go_num, rfl, by omega, hhn, HN2, hhigh, BW⟩
        case measure => simp [intOf]; omega
      · have d1 : decide (c < 0) = false := decide_eq_false hc0
        have HN2 := HHI.out hc0
        clear HLO HHI
        go_wp2_with fail
        refine SX.out.mono ?_
        rintro e w1 ⟨rfl, b1⟩
        have BW := Lib.hid (bt hbel.out b1)
        clear b1 SX h0 h1 h2 h3 h4
        go_wp2
        go_roundw
        case rel => exact ⟨lo, m, rfl, rfl, by omega, by omega, hlow, HN2, BW⟩
        case measure => simp [intOf]; omega
    · obtain rfl : hi = lo := by omega
      obtain rfl : K = hi := by omega
      by_cases hkn : K < n
      rotate_left
      · have q8 : decide (K < n) = false := by simpa using hkn
        clear S1 HLT HGE HC0 HV
        go_wp2
        go_ret2
        exact ⟨⟨_, rfl⟩, hbel.out⟩
      have q8 : decide (K < n) = true := by simpa using hkn
      have q4 : (0 : Int) ≤ (K : Int) := by omega
      have q5 : (K : Int) < (n : Int) := by omega
      have hml : K < live.length := by rw [← HN.out]; exact hkn
      obtain ⟨bb, oo, u, e, hbb, hru, h0, h1, h2, h3, h4⟩ := opl_at (HV.out wr hbel.out) K hml
      subst e
      obtain ⟨x, hx⟩ : ∃ x, x = live[K]'hml := ⟨_, rfl⟩
      rw [← hx] at hru h0 h1 h2 h4
      have HO : Hid (∀ v : Value, opv x v = .agg #[.int .u8 (x.k : Int), .int .u32 (x.t : Int), .int .u8 (x.r : Int), v, .int .i64 x.p]) := fun v => rfl
      obtain ⟨uo, uc, rfl⟩ := hru.shape
      obtain ⟨nu, hnu⟩ : ∃ n, n = x.pl.length := ⟨_, rfl⟩
      have HNU := Lib.hid hnu
      rw [← hnu] at hru h3
      clear hnu
      have hxm : x ∈ live := by rw [hx]; exact List.getElem_mem _
      have SX := Lib.hid (S1.out x _ wr hxm hru hbel.out)
      have d1 := HC0.out x
      obtain ⟨c, hc⟩ : ∃ c, cmpH x p = c := ⟨_, rfl⟩
      rw [hc] at SX d1
      have d2 : ¬ c = 0 := by simpa using d1
      clear hru hx hc hxm
      obtain ⟨k, hk⟩ : ∃ z, x.k = z := ⟨_, rfl⟩
      obtain ⟨t, ht⟩ : ∃ z, x.t = z := ⟨_, rfl⟩
      obtain ⟨r, hr⟩ : ∃ z, x.r = z := ⟨_, rfl⟩
      obtain ⟨p, hp⟩ : ∃ z, x.p = z := ⟨_, rfl⟩
      rw [hk, ht, hr, hp] at HO
      rw [hk] at h0
      rw [ht] at h1
      rw [hr] at h2
      rw [hp] at h4
      simp only [HO.out] at SX
      clear hk ht hr hp HO S1 HLT HGE HC0 HV hbb
      go_wp2_with fail
      refine SX.out.mono ?_
      rintro e w1 ⟨rfl, b1⟩
      have BW := Lib.hid (bt hbel.out b1)
      clear b1 SX h0 h1 h2 h3 h4
      go_wp2
      go_ret2
      exact ⟨⟨_, rfl⟩, BW.out⟩
end Go.Proofs.YtmiepnnpccpicaaGreat.Homes

namespace Go.Proofs.YtmiepnnpccpicaaGreat.Marks
open Go.RowKit Go.WideShapes Go.Sort Stamp Go.Proofs.YtmiepnnpccpicaaGreat.Place Ops Codes
theorem flat_list {α : Type} [Inhabited α] (enc : α → List Value) (k : Nat) (hk0 : 0 < k) (hk : ∀ x, (enc x).length = k) : ∀ ds : List α,
    (List.range (ds.length * k)).map (fun t => (enc (ds[t / k]!))[t % k]!) = ds.flatMap enc
  | [] => by simp
  | x :: ds => by
    rw [List.length_cons, show (ds.length + 1) * k = k + ds.length * k by rw [Nat.succ_mul]; omega, List.range_add, List.map_append, List.flatMap_cons]
    congr 1
    · apply List.ext_getElem
      · simp [hk]
      · intro i h1 h2
        have hi : i < k := by simpa using h1
        rw [List.getElem_map, List.getElem_range, Nat.div_eq_of_lt hi, Nat.mod_eq_of_lt hi]
        show (enc x)[i]! = _
        rw [getElem!_pos (enc x) i h2]
    · rw [List.map_map, ← flat_list enc k hk0 hk ds]
      apply List.map_congr_left
      intro t _
      simp only [Function.comp]
      rw [Nat.add_div_left _ hk0, Nat.add_mod_left]
      rfl
theorem flatK_list {α : Type} [Inhabited α] (enc : α → List Value) (k : Nat) (hk0 : 0 < k) (hk : ∀ x, (enc x).length = k) (d : Array α) : (flatK enc k d).toList = d.toList.flatMap enc := by
  rw [← flat_list enc k hk0 hk d.toList]
  unfold flatK
  rw [Array.toList_map, Array.toList_range]
  apply List.map_congr_left
  intro t _
  simp [Array.getElem!_eq_getD, Array.getD_eq_getD_getElem?]
theorem putCells_take (F c : Array Value) (h : F.size ≤ c.size) : (putCells id 0 F c).toList.take F.size = F.toList := by
  apply List.ext_getElem
  · simp [putCells]; omega
  · intro i h1 h2
    have hi : i < F.size := by simpa using h2
    rw [List.getElem_take]
    simp [putCells, hi]
theorem putCells_size (F c : Array Value) (o : Nat) : (putCells id o F c).size = c.size := by simp [putCells]
theorem srt_other {α : Type} [Inhabited α] (enc : α → List Value) (k : Nat) (w : World) (g o m : Nat) (d : Array α) (os : Array Obj) {j : Nat} (hj : j ≠ g) (hs : j < w.heap.size) : (sortWorldK enc k w g o m d os).heap[j]? = w.heap[j]? := by
  show ((w.heap.modify g _) ++ os)[j]? = _
  rw [Array.getElem?_append_left (by simpa using hs), Array.getElem?_modify, if_neg (Ne.symm hj)]
theorem srt_row {α : Type} [Inhabited α] (enc : α → List Value) (k : Nat) {w : World} {g : Nat} (m : Nat) (d : Array α) (os : Array Obj) {cur : Array Value} {e : TypeId} {fr : Nat × Nat} (h : w.heap[g]? = some (.cells cur e fr)) : (sortWorldK enc k w g 0 m d os).heap[g]? = some (.cells (putCells id 0 (flatK enc k d) cur) e fr) := by
  have hs := (Array.getElem?_eq_some_iff.1 h).1
  show ((w.heap.modify g _) ++ os)[g]? = _
  rw [Array.getElem?_append_left (by simpa using hs), Array.getElem?_modify, if_pos rfl, h]
  rfl
theorem srt_below {α : Type} [Inhabited α] (enc : α → List Value) (k : Nat) (w : World) (g o m B : Nat) (d : Array α) (os : Array Obj) (hB : B ≤ g) (hs : g < w.heap.size) : Below B w (sortWorldK enc k w g o m d os) := by
  refine ⟨rfl, rfl, rfl, ?_, fun j hj => srt_other enc k w g o m d os (by omega) (by omega)⟩
  show w.heap.size ≤ ((w.heap.modify g _) ++ os).size
  simp
/-- An operation whose place is of the call's own. -/
def Elt (w : World) (base : Nat) : Type := {x : Opn × Value // anyB x.1.pl = true ∧ w.ownsRow base 40 3 x.2 x.1.pl.length (runs x.1.pl)}
instance (w : World) (base : Nat) : Inhabited (Elt w base) := ⟨⟨(zop, .slice none 0 0), rfl, World.ownsRow_nil _ _ _ _⟩⟩
def encE {w : World} {base : Nat} (x : Elt w base) : List Value := [.int .u8 (x.1.1.k : Int), .int .u32 (x.1.1.t : Int), .int .u8 (x.1.1.r : Int), x.1.2, .int .i64 x.1.1.p]
def opE' {w : World} {base : Nat} (x : Elt w base) : Opn := x.1.1
theorem encE_len {w : World} {base : Nat} (x : Elt w base) : (encE x).length = 5 := rfl
theorem elts_of {w : World} {base : Nat} : ∀ {cs : List Value} {l : List Opn}, HoldP w base cs l → (∀ o ∈ l, anyB o.pl = true) → ∃ ds : List (Elt w base), cs = ds.flatMap encE ∧ l = ds.map opE'
  | _, [], h, _ => ⟨[], h, rfl⟩
  | _, o :: l, ⟨v, d, h1, h2, h3⟩, hm => by
    obtain ⟨ds, e1, e2⟩ := elts_of h3 (fun o ho => hm o (by simp [ho]))
    have ho := hm o (by simp)
    obtain ⟨z, hz⟩ : ∃ z : Elt w base, z.1 = (o, v) := ⟨⟨(o, v), ho, h2⟩, rfl⟩
    refine ⟨z :: ds, ?_, ?_⟩
    · rw [h1, e1, List.flatMap_cons]; unfold encE; rw [hz]
    · rw [List.map_cons, ← e2]; unfold opE'; rw [hz]
theorem holdP_of {w w' : World} {base : Nat} (hk : ∀ x : Elt w base, w'.ownsRow base 40 3 x.1.2 x.1.1.pl.length (runs x.1.1.pl)) : ∀ ds : List (Elt w base), HoldP w' base (ds.flatMap encE) (ds.map opE')
  | [] => rfl
  | x :: ds => ⟨x.1.2, ds.flatMap encE, by rw [List.flatMap_cons]; rfl, hk x, holdP_of hk ds⟩
/-- Places stay while the operations are moved about. -/
theorem elt_stays {w : World} {base g : Nat} {cur : Array Value} (hg : w.heap[g]? = some (.cells cur 47 (0, 0))) (m : Nat) (d : Array (Elt w base)) (os : Array Obj) (x : Elt w base) :
    (sortWorldK encE 5 w g 0 m d os).ownsRow base 40 3 x.1.2 x.1.1.pl.length (runs x.1.1.pl) := by
  obtain ⟨x, _, h⟩ := x
  refine ⟨h.1, ?_⟩
  rcases h.2 with h | ⟨b, cap, c, e1, e2, e3, e4⟩
  · exact .inl h
  · refine .inr ⟨b, cap, c, e1, e2, ?_, e4⟩
    rw [srt_other encE 5 w g 0 m d os ?_ (Array.getElem?_eq_some_iff.1 e3).1]
    · exact e3
    · rintro rfl
      rw [hg] at e3
      injection e3 with e3
      injection e3 with _ e3 _
      exact absurd e3 (by decide)
theorem elt_holds {w : World} {base g cap n : Nat} {ds : List (Elt w base)} (hg : ∃ cur, w.heap[g]? = some (.cells cur 47 (0, 0)) ∧ cur.size = cap * 5 ∧ cur.toList.take (n * 5) = ds.flatMap encE) (hn : n = ds.length) (hc : n ≤ cap) : HoldsK encE 5 w g 0 ds.toArray := by
  obtain ⟨cur, h1, h2, h3⟩ := hg
  intro j hj
  rw [size_flatK] at hj
  have hj' : j < ds.length * 5 := by simpa using hj
  have hjc : j < cur.size := by rw [h2]; have := Nat.mul_le_mul_right 5 hc; omega
  have e : cur[j]? = (flatK encE 5 ds.toArray)[j]? := by
    rw [← Array.getElem?_toList, ← Array.getElem?_toList, flatK_list encE 5 (by decide) encE_len, ← h3, List.getElem?_take, if_pos (by omega)]
  have hf : j < (flatK encE 5 ds.toArray).size := by rw [size_flatK]; exact hj
  rw [Nat.zero_add]
  constructor
  · have e2 : w.cell? ⟨g, j, none⟩ = cur[j]? := by simp [World.cell?, h1]
    rw [e2, e, Array.getElem?_eq_getElem hf, getElem!_pos _ j hf]
    rfl
  · simp [World.frozen?, h1]
def cfE {w : World} {base : Nat} (x y : Elt w base) : Int := cmp x.1.1.pl y.1.1.pl
theorem cfE_is {w : World} {base : Nat} (x y : Elt w base) : cfE x y = Go.Proofs.YtmiepnnpccpicaaGreat.Place.hold (all x.1.1.pl) (all y.1.1.pl) := by
  unfold cfE cmp
  rw [if_pos ⟨x.2.1, y.2.1⟩]
theorem ltE_is {w : World} {base : Nat} (x y : Elt w base) : ltOf cfE x y = true ↔ Go.Proofs.YtmiepnnpccpicaaGreat.Place.hold (all x.1.1.pl) (all y.1.1.pl) = -1 := by
  unfold ltOf
  rw [cfE_is, decide_eq_true_iff]
  have := hold_range (all x.1.1.pl) (all y.1.1.pl)
  omega
theorem ltE_no {w : World} {base : Nat} (x y : Elt w base) : ltOf cfE x y = false ↔ ¬ Go.Proofs.YtmiepnnpccpicaaGreat.Place.hold (all x.1.1.pl) (all y.1.1.pl) = -1 := by
  rw [← ltE_is, Bool.not_eq_true]
theorem swoE (w : World) (base : Nat) : SWO (ltOf (cfE (w := w) (base := base))) where
  irrefl x := by rw [ltE_no, (hold_eq _ _).2 rfl]; decide
  trans x y z h1 h2 := by rw [ltE_is] at *; exact hold_trans _ _ _ h1 h2
  ntrans x y z h1 h2 := by
    rw [ltE_no] at *
    intro h3
    have n1 := hold_neg (all x.1.1.pl) (all y.1.1.pl)
    rcases hold_range (all x.1.1.pl) (all y.1.1.pl) with h | h | h
    · exact h1 h
    · have := (hold_eq _ _).1 h
      rw [this] at h3
      exact h2 h3
    · exact h2 (hold_trans _ _ _ (by omega) h3)
end Go.Proofs.YtmiepnnpccpicaaGreat.Marks

namespace Go.Proofs.YtmiepnnpccpicaaGreat.Draws
open Go Go.RowKit Go.Sort
theorem ask_drawn {α : Type} (q : Ask α) : ∀ w : World, w.drawn ≤ (w.ask q).2.drawn := by
  induction q with
  | done a => intro w; exact Nat.le_refl _
  | ask what range k ih =>
    intro w
    rw [World.ask]
    split
    · exact ih _ _
    · exact Nat.le_trans (Nat.le_succ _) (ih _ { w with drawn := w.drawn + 1 })
theorem sys_drawn (w : World) (c : Sys) : w.drawn ≤ (w.sys c).2.drawn := by
  have h := ask_drawn (Kernel.perform c w.os) w
  unfold World.sys
  split
  · exact Nat.le_refl _
  · rename_i r os w' _ heq
    rw [heq] at h
    exact h
def rd {α : Type} : Result α → Nat
  | .ok _ w => w.drawn
  | .halt _ w => w.drawn
theorem setCell_drawn (w : World) (a : Addr) (v : Value) : (w.setCell a v).drawn = w.drawn := rfl
theorem freeze_drawn (w : World) (a : Addr) (n : Nat) : (w.freeze a n).drawn = w.drawn := by
  unfold World.freeze
  split <;> rfl
theorem viewStore_drawn {p : Program} {w : World} {at_ : Addr} {u : TypeId} {k : Addr} {v : Value} {am : Bool} {r : World × List Addr} (h : w.viewStore p at_ u k v am = .ok r) : r.1.drawn = w.drawn := by
  unfold World.viewStore at h
  simp only [bind, Except.bind, pure, Except.pure] at h
  repeat' first
    | (simp only [reduceCtorEq] at h; done)
    | (cases h; rfl)
    | split at h
theorem farStore_drawn {p : Program} {w : World} {a : Addr} {v : Value} {am : Bool} {r : World × List Addr} (h : w.farStore p a v am = .ok r) : r.1.drawn = w.drawn := by
  unfold World.farStore at h
  repeat' first
    | (cases h; done)
    | (rename_i hr; cases h; exact viewStore_drawn hr)
    | split at h
theorem run_drawn {α : Type} (p : Program) (s : Sem α) : ∀ w : World, w.drawn ≤ rd (s.run p w) := by
  induction s with
  | pure a => intro w; exact Nat.le_refl _
  | load m a k ih =>
    intro w
    rw [Sem.run]
    split
    · exact ih _ _
    · split
      · exact ih _ _
      · exact Nat.le_refl _
  | store m a v k ih =>
    intro w
    by_cases hc : (∃ c, v = .agg c) ∨ ∃ c, v = .tuple c
    · rcases hc with ⟨c, rfl⟩ | ⟨c, rfl⟩ <;> (rw [Sem.run]; exact Nat.le_refl _)
    · rw [Sem.run]
      · split
        · split
          · exact Nat.le_refl _
          · have := ih (w.setCell a v); rw [setCell_drawn] at this; exact this
        · split
          · rename_i hf
            have := farStore_drawn hf
            rw [← this]
            exact ih _
          · exact Nat.le_refl _
      · exact fun c h => hc (.inl ⟨c, h⟩)
      · exact fun c h => hc (.inr ⟨c, h⟩)
  | new o k ih => intro w; rw [Sem.run]; exact ih _ { w with heap := w.heap.push o }
  | shape r k ih => intro w; rw [Sem.run]; exact ih _ _
  | freeze a n k ih => intro w; rw [Sem.run]; have := ih (w.freeze a n); rw [freeze_drawn] at this; exact this
  | frozen a k ih => intro w; rw [Sem.run]; exact ih _ _
  | getObj r k ih =>
    intro w
    rw [Sem.run]
    split
    · exact Nat.le_refl _
    · exact ih _ _
    · exact Nat.le_refl _
  | setObj r o k ih =>
    intro w
    rw [Sem.run]
    split
    · exact Nat.le_refl _
    · exact ih { w with heap := w.heap.setIfInBounds r o }
    · exact Nat.le_refl _
  | choose q k ih =>
    intro w
    rw [Sem.run]
    split
    · exact ih _ _
    · exact Nat.le_trans (Nat.le_succ _) (ih _ { w with drawn := w.drawn + 1 })
  | sys c k ih => intro w; rw [Sem.run]; exact Nat.le_trans (sys_drawn w c) (ih _ _)
  | program k ih => intro w; rw [Sem.run]; exact ih _ _
  | mark m k ih => intro w; rw [Sem.run]; exact ih _
  | halt h => intro w; exact Nat.le_refl _
def gd : GStep → Nat
  | .go _ w _ => w.drawn
  | .comm _ _ _ _ w _ => w.drawn
  | .spawn _ _ w _ => w.drawn
  | .count _ w _ => w.drawn
  | .timer _ _ w _ => w.drawn
  | .alone _ _ w _ => w.drawn
  | .newcoro _ _ _ w _ => w.drawn
  | .coroswitch _ _ _ w _ => w.drawn
  | .collect _ w _ => w.drawn
  | .watch _ w _ => w.drawn
  | .ended _ w _ => w.drawn
theorem after_drawn (es : Array Event) (s : GStep) : gd (s.after es) = gd s := by cases s <;> rfl
theorem endWith_drawn (w : World) (fd : Nat) (t : ByteArray) (o : Outcome) : w.drawn ≤ gd (endWith w fd t o) := by
  have h := sys_drawn w (.write fd t)
  unfold endWith
  simp only []
  split
  · rename_i heq; rw [heq] at h
    split <;> exact h
  · rename_i heq; rw [heq] at h; exact h
  · rename_i heq; rw [heq] at h; exact h
theorem endThrow_drawn (fr : Frame) (m : String) (w : World) : gd (endThrow fr m w) = w.drawn := rfl
theorem endPrinting_drawn (p : Program) (fr : Frame) (v : Value) (w : World) : gd (endPrinting p fr v w) = w.drawn := by
  unfold endPrinting
  simp only []
  split <;> rfl
theorem run_ok {α : Type} {p : Program} {s : Sem α} {w w' : World} {a : α} (h : s.run p w = .ok a w') : w.drawn ≤ w'.drawn := by
  have := run_drawn p s w
  rw [h] at this
  exact this
theorem run_halt {α : Type} {p : Program} {s : Sem α} {w w' : World} {x : Halt} (h : s.run p w = .halt x w') : w.drawn ≤ w'.drawn := by
  have := run_drawn p s w
  rw [h] at this
  exact this
theorem endFatal_drawn (p : Program) (fr : Frame) (cs : List Frame) (d : Option Dying) (m : String) (w : World) : w.drawn ≤ gd (endFatal p fr cs d m w) := by
  unfold endFatal
  simp only []
  split
  · rename_i h; exact run_ok h
  · rename_i h; exact run_halt h
  · rename_i h; exact run_halt h
theorem writeOn_drawn (p : Program) (fr : Frame) (d : Dying) (f : Fatal) (w : World) : w.drawn ≤ gd (writeOn p fr d f w) := by
  unfold writeOn
  simp only [Sem.runT_eq]
  split
  · exact Nat.le_refl _
  · split <;> rename_i h <;> simp only [Prod.mk.injEq] at h <;> first | exact run_ok h.1 | exact run_halt h.1
theorem die_drawn (p : Program) (fr : Frame) (d : Dying) (w : World) : w.drawn ≤ gd (die p fr d w) := by
  unfold die
  simp only [Sem.runT_eq]
  repeat' first
    | exact Nat.le_refl _
    | exact writeOn_drawn _ _ _ _ _
    | exact endWith_drawn _ _ _ _
    | (rename_i h; exact run_ok h)
    | (rename_i h; exact run_halt h)
    | (rename_i h; rw [after_drawn, endPrinting_drawn]; exact run_halt h)
    | split
theorem doReturn_drawn (p : Program) (main : Bool) (fr : Frame) (cs : List Frame) (d : Option Dying) (v : Value) (w : World) : gd (doReturn p main fr cs d v w) = w.drawn := by
  unfold doReturn
  simp only []
  repeat' first
    | rfl
    | split
theorem run_le {α : Type} {p : Program} {s : Sem α} {w w' : World} {a : α} {n : Nat} (h : s.run p w = .ok a w') (hn : w'.drawn ≤ n) : w.drawn ≤ n := Nat.le_trans (run_ok h) hn
theorem gd_ite {c : Prop} [Decidable c] {a b : GStep} {n : Nat} (ha : n ≤ gd a) (hb : n ≤ gd b) : n ≤ gd (if c then a else b) := by split <;> assumption
theorem gd_elim {α : Type} {o : Option α} {a : GStep} {f : α → GStep} {n : Nat} (ha : n ≤ gd a) (hf : ∀ x, n ≤ gd (f x)) : n ≤ gd (o.elim a f) := by
  cases o
  · exact ha
  · exact hf _
theorem early_drawn (p : Program) (fr : Frame) (cs : List Frame) (d : Option Dying) (g : Nat) (w : World) : w.drawn ≤ gd (early p fr cs d g w) := by
  unfold early
  simp only []
  repeat' first
    | exact Nat.le_refl _
    | exact run_ok (by assumption)
    | exact run_halt (by assumption)
    | (refine run_le (by assumption) ?_; exact Nat.le_refl _)
    | split
theorem callDeferred_drawn (p : Program) (fr : Frame) (cs : List Frame) (d : Option Dying) (x : Deferred) (w : World) : w.drawn ≤ gd (callDeferred p fr cs d x w) := by
  unfold callDeferred
  simp only [Sem.runT_eq]
  refine gd_ite (Nat.le_refl _) ?_
  · rw [after_drawn]
    repeat' first
      | exact run_ok (by assumption)
      | exact run_halt (by assumption)
      | exact Nat.le_trans (run_halt (by assumption)) (endFatal_drawn _ _ _ _ _ _)
      | split
theorem unwind_drawn (p : Program) (main : Bool) (fr : Frame) (cs : List Frame) (d : Option Dying) (w : World) : w.drawn ≤ gd (unwind p main fr cs d w) := by
  unfold unwind
  simp only [Sem.runT_eq]
  repeat' first
    | exact Nat.le_refl _
    | exact callDeferred_drawn _ _ _ _ _ _
    | (rw [doReturn_drawn]; exact Nat.le_refl _)
    | (rw [endPrinting_drawn]; exact Nat.le_refl _)
    | exact run_ok (by assumption)
    | exact run_halt (by assumption)
    | (rw [doReturn_drawn]; exact run_ok (by assumption))
    | (rw [after_drawn])
    | split
theorem apply_drawn (p : Program) (l : Bool) (fr : Frame) (cs : List Frame) (d : Option Dying) (s : Sem Next) (w : World) : w.drawn ≤ gd (stepG.apply p l fr cs d s w) := by
  unfold stepG.apply
  have e : (if l = true then s.runT p w #[] else (s.run p w, #[])).1 = s.run p w := by
    split
    · rw [Sem.runT_eq]
    · rfl
  revert e
  generalize (if l = true then s.runT p w #[] else (s.run p w, #[])) = re
  intro e
  obtain ⟨r, es⟩ := re
  simp only at e
  subst e
  simp only []
  rw [after_drawn]
  split
  all_goals repeat' first
    | exact run_ok (by assumption)
    | exact run_halt (by assumption)
    | exact Nat.le_trans (run_halt (by assumption)) (endFatal_drawn _ _ _ _ _ _)
    | exact Nat.le_trans (run_halt (by assumption)) (early_drawn _ _ _ _ _ _)
    | split
theorem oper_drawn (p : Program) (l : Bool) (fr : Frame) (cs : List Frame) (d : Option Dying) (w : World) : w.drawn ≤ gd (stepG.oper p l fr cs d w) := by
  unfold stepG.oper
  repeat' first
    | exact Nat.le_refl _
    | exact apply_drawn _ _ _ _ _ _ _
    | split
theorem exec_drawn (p : Program) (main : Bool) (l : Bool) (fr : Frame) (cs : List Frame) (d : Option Dying) (w : World) : w.drawn ≤ gd (stepG.exec p main l fr cs d w) := by
  unfold stepG.exec
  simp only [Sem.runT_eq]
  split
  all_goals repeat' first
    | exact Nat.le_refl _
    | exact apply_drawn _ _ _ _ _ _ _
    | exact oper_drawn _ _ _ _ _ _
    | exact run_ok (by assumption)
    | exact run_halt (by assumption)
    | (rw [doReturn_drawn]; exact run_ok (by assumption))
    | exact Nat.le_trans (run_ok (by assumption)) (apply_drawn _ _ _ _ _ _ _)
    | (rw [after_drawn])
    | (refine gd_elim ?_ (fun _ => ?_))
    | split
theorem stepG_drawn (p : Program) (main : Bool) (g : Goroutine) (w : World) (l : Bool) : w.drawn ≤ gd (stepG p main g w l) := by
  unfold stepG
  simp only []
  split
  · exact die_drawn _ _ _ _
  · exact exec_drawn _ _ _ _ _ _ _
  · exact unwind_drawn _ _ _ _ _ _
theorem waitingAt_drawn {r : Rest} {c : Array CommCase} {w w' : World} (h : waitingAt r c w = some w') : w'.drawn = w.drawn := by
  unfold waitingAt at h
  repeat' first
    | (simp at h; done)
    | (cases h; rfl)
    | split at h
theorem communicate_drawn (p : Program) (rest : Rest) (gs : Array Goroutine) (i : Nat) (g : Goroutine) (cases : Array CommCase) (blocking : Bool)
    (shape : CommShape) (w : World) (m' : Machine) (h : (communicate p rest gs i g cases blocking shape w).1 = .next m') : w.drawn ≤ m'.world.drawn := by
  unfold communicate at h
  simp only [] at h
  repeat' first
    | (simp at h; done)
    | (simp only [Stepped.next.injEq] at h; subst h; exact Nat.le_refl _)
    | (simp only [Stepped.next.injEq] at h; subst h; exact run_ok (by assumption))
    | (simp only [Stepped.next.injEq] at h; subst h; refine run_le (by assumption) ?_; exact Nat.le_refl _)
    | (simp only [Stepped.next.injEq] at h; subst h; refine run_le (by assumption) ?_; refine run_le (by assumption) ?_; exact Nat.le_refl _)
    | (simp only [Stepped.next.injEq] at h; subst h; refine run_le (by assumption) ?_; exact run_halt (by assumption))
    | (simp only [Stepped.next.injEq] at h; subst h; rename_i hw; exact Nat.le_of_eq (waitingAt_drawn hw).symm)
    | split at h
theorem look_drawn (p : Program) (gs : Array Goroutine) (rest : Rest) (w : World) (m' : Machine)
    (h : look p gs rest w = .next m') : w.drawn ≤ m'.world.drawn := by
  unfold look at h
  simp only [] at h
  repeat' first
    | (simp at h; done)
    | (simp only [Stepped.next.injEq] at h; subst h; refine run_le (by assumption) ?_; exact Nat.le_refl _)
    | split at h
theorem retime_drawn (m : Machine) (k : Nat) (t : Timer) (a b : Nat) : (retime m k t a b).2.world.drawn = m.world.drawn := by
  unfold retime
  simp only []
  split
  · unfold drain; split <;> rfl
  · rfl
theorem opened_drawn {m m' : Machine} {var : Addr} (h : timerOp.opened m var = some m') : m'.world.drawn = m.world.drawn := by
  unfold timerOp.opened at h
  repeat' first
    | (simp at h; done)
    | (cases h; rfl)
    | split at h
theorem named_drawn {m m' : Machine} {var : Addr} {f : Nat → Timer → Value × Machine} {v : Value} {n : Nat} (hf : ∀ k t, (f k t).2.world.drawn = n) (h : timerOp.named m var f = .ok (v, m')) : m'.world.drawn = n := by
  unfold timerOp.named at h
  split at h
  · simp only [Except.ok.injEq] at h
    rename_i c _
    have := hf c (m.rest.timers.getD c default)
    rw [h] at this
    exact this
  · cases h
theorem timerOp_drawn {m m' : Machine} {op : TimerOp} {v : Value} (h : timerOp m op = .ok (v, m')) : m'.world.drawn = m.world.drawn := by
  unfold timerOp at h
  repeat' first
    | (simp at h; done)
    | (cases h; rfl)
    | exact named_drawn (fun k t => retime_drawn _ _ _ _ _) h
    | (rename_i ho; exact named_drawn (fun k t => (retime_drawn _ _ _ _ _).trans (opened_drawn ho)) h)
    | split at h
theorem runT_drawn (p : Program) (m m' : Machine) (i : Nat) (b : Bool) (h : (runT p m i b).1 = .next m') : m.world.drawn ≤ m'.world.drawn := by
  simp only [runT] at h
  revert h
  generalize m.gs.swapAt! _ _ = gg
  have hs := stepG_drawn p (i == 0) gg.1 m.world b
  revert hs
  generalize stepG p _ gg.1 m.world b = s
  intro hs h
  cases s <;> simp only [] at h <;> simp only [gd] at hs
  all_goals first
    | (simp at h; done)
    | (exact Nat.le_trans hs (communicate_drawn _ _ _ _ _ _ _ _ _ _ h))
    | (exact Nat.le_trans hs (look_drawn _ _ _ _ _ h))
    | (simp only [Stepped.next.injEq] at h; subst h; exact hs)
    | (repeat' first
        | (simp at h; done)
        | (simp only [Stepped.next.injEq] at h; subst h; exact hs)
        | (simp only [Stepped.next.injEq] at h; subst h; rename_i hq; have := timerOp_drawn hq; simp only at this; exact Nat.le_trans hs (Nat.le_of_eq this.symm))
        | (simp only [Stepped.next.injEq] at h; subst h; rename_i hq; have := congrArg gd hq; rw [endThrow_drawn] at this; exact Nat.le_trans hs (Nat.le_of_eq this))
        | split at h)
theorem serve_drawn (p : Program) (m m' : Machine) (k : Nat) (h : serve p m k = .next m') : m.world.drawn ≤ m'.world.drawn := by
  unfold serve at h
  simp only [] at h
  repeat' first
    | (simp at h; done)
    | (simp only [Stepped.next.injEq] at h; subst h; exact Nat.le_refl _)
    | split at h
def moved : Move → Nat → Prop
  | .goroutine m _, n => n ≤ m.world.drawn
  | .machine (.next m) _, n => n ≤ m.world.drawn
  | .machine (.ended _ _) _, _ => True
theorem moved_machine {s : Stepped} {ops : Array MemOp} {n : Nat} (h : ∀ m', s = .next m' → n ≤ m'.world.drawn) : moved (.machine s ops) n := by
  cases s
  · exact h _ rfl
  · exact trivial
theorem run_moved {α : Type} {p : Program} {s : Sem α} {w w' : World} {a : α} {x : Move} (h : s.run p w = .ok a w') (hn : moved x w'.drawn) : moved x w.drawn := by
  have := run_ok h
  cases x with
  | goroutine m i => exact Nat.le_trans this hn
  | machine s ops =>
    cases s
    · exact Nat.le_trans this hn
    · exact trivial
theorem askOn_drawn (p : Program) (m : Machine) : moved (askOn p m) m.world.drawn := by
  unfold askOn
  simp only []
  repeat' first
    | exact trivial
    | (refine run_moved (by assumption) ?_; exact moved_machine (fun m' h => serve_drawn _ _ _ _ h))
    | (refine run_moved (by assumption) ?_; exact Nat.le_refl _)
    | (refine run_moved (by assumption) ?_; refine run_moved (by assumption) ?_; exact Nat.le_refl _)
    | (refine run_moved (by assumption) ?_; refine run_moved (by assumption) ?_; refine run_moved (by assumption) ?_; exact Nat.le_refl _)
    | (refine run_moved (by assumption) ?_; refine run_moved (by assumption) ?_; refine run_moved (by assumption) ?_; refine run_moved (by assumption) ?_; exact Nat.le_refl _)
    | (rename_i hs _ _ _ _ _ _ _ _ _ hc _ _ _ hq _; have h1 := Nat.le_trans (run_ok hs) (run_ok hc); have h2 := run_ok hq; exact Nat.le_trans h1 h2)
    | (rename_i hs _ _ _ _ _ _ _ _ _ hc _ _ _ hq _ _ _ _ hz _; have h1 := Nat.le_trans (run_ok hs) (run_ok hc); have h2 := Nat.le_trans (run_ok hq) (run_ok hz); exact Nat.le_trans h1 h2)
    | split
theorem moved_le {x : Move} {n k : Nat} (h : moved x k) (hn : n ≤ k) : moved x n := by
  cases x with
  | goroutine m i => exact Nat.le_trans hn h
  | machine s ops =>
    cases s
    · exact Nat.le_trans hn h
    · exact trivial
theorem ask_drawn' (p : Program) (m : Machine) : moved (ask p m) m.world.drawn := by
  unfold ask
  split
  · split
    · exact trivial
    · split
      · rename_i hr _ _ hl
        exact moved_le (askOn_drawn _ _) (Nat.le_trans (run_ok hr) (look_drawn _ _ _ _ _ hl))
      · rename_i hr _ hl
        exact moved_machine (fun m' h => (hl m' h).elim)
    · rename_i hr
      exact moved_le (askOn_drawn _ _) (run_ok hr)
  · exact askOn_drawn _ _
theorem move_drawn (p : Program) (m : Machine) : moved (move p m) m.world.drawn := by
  unfold move
  repeat' first
    | exact trivial
    | exact Nat.le_refl _
    | exact ask_drawn' _ _
    | split
theorem stepT_drawn (p : Program) (m m' : Machine) (b : Bool) (h : (stepT p m b).1 = .next m') : m.world.drawn ≤ m'.world.drawn := by
  have hm := move_drawn p m
  unfold stepT at h
  split at h
  · rename_i m1 i he
    rw [he] at hm
    exact Nat.le_trans hm (runT_drawn _ _ _ _ _ h)
  · rename_i s ops he
    rw [he] at hm
    simp only at h
    subst h
    exact hm
theorem runN_drawn (p : Program) : ∀ (n : Nat) (m m' : Machine), runN p n m = .next m' → m.world.drawn ≤ m'.world.drawn
  | 0, m, m', h => by
    rw [runN] at h
    cases h
    exact Nat.le_refl _
  | n + 1, m, m', h => by
    rw [runN] at h
    split at h
    · rename_i m1 h1
      exact Nat.le_trans (stepT_drawn p m m1 true h1) (runN_drawn p n m1 m' h)
    · rename_i hl; exact (hl m' h).elim
theorem steps_drawn {p : Program} {m m' : Machine} (h : Steps p m m') : m.world.drawn ≤ m'.world.drawn := by
  obtain ⟨n, hn⟩ := h
  exact runN_drawn p n m m' hn
/-- Of what a call answers: its draws are no fewer than those ahead of it. -/
theorem calls_drawn {P : Program} {f : FuncId} {args : Array Value} {w : World} {R : Ending → World → Prop} (h : Calls P f args w fun e w' => (∃ v, e = .returned v) ∧ R e w') :
    Calls P f args w fun e w' => R e w' ∧ w.drawn ≤ w'.drawn := by
  intro cs
  obtain ⟨e, w', fr, ⟨⟨v, rfl⟩, hr⟩, hc, hf, hl⟩ := h cs
  exact ⟨_, w', fr, ⟨hr, steps_drawn hc⟩, hc, hf, hl⟩
theorem below_grow {w w' : World} (h : Below w.heap.size w w') (hd : w.drawn ≤ w'.drawn) : ∃ q os, w' = grow (w.drewN q) os := by
  refine ⟨w'.drawn - w.drawn, w'.heap.extract w.heap.size w'.heap.size, ?_⟩
  have e1 : w'.heap = w.heap ++ w'.heap.extract w.heap.size w'.heap.size := by
    apply Array.ext_getElem?
    intro i
    by_cases hi : i < w.heap.size
    · rw [Array.getElem?_append_left hi]; exact h.block i hi
    · rw [Array.getElem?_append_right (by omega), Array.getElem?_extract]
      by_cases h2 : i < w'.heap.size
      · rw [if_pos (by omega)]; congr 1; omega
      · rw [if_neg (by omega)]; exact Array.getElem?_eq_none (by omega)
  have e2 : w'.drawn = w.drawn + (w'.drawn - w.drawn) := by omega
  obtain ⟨h1, h2, h3, h4, h5⟩ := h
  obtain ⟨heap, tape, drawn, os, output⟩ := w
  obtain ⟨heap', tape', drawn', os', output'⟩ := w'
  simp only at h1 h2 h3 e1 e2
  subst h1 h2 h3
  unfold grow World.drewN
  simp only [World.mk.injEq]
  exact ⟨e1, trivial, e2, trivial, trivial⟩
/-- A call that leaves all that was there: behind it the world has grown, and has drawn, and nothing else. -/
theorem calls_grow {P : Program} {f : FuncId} {args : Array Value} {w : World} {v : Value} (h : Calls P f args w fun e w' => e = .returned v ∧ Below w.heap.size w w') :
    Calls P f args w fun e w' => e = .returned v ∧ ∃ q os, w' = grow (w.drewN q) os :=
  (calls_drawn (R := fun e w' => e = .returned v ∧ Below w.heap.size w w') (h.mono fun _ _ k => ⟨⟨v, k.1⟩, k⟩)).mono fun _ _ k => ⟨k.1.1, below_grow k.1.2 k.2⟩
end Go.Proofs.YtmiepnnpccpicaaGreat.Draws

namespace Go.Proofs.YtmiepnnpccpicaaGreat.Marks
open Go.RowKit Go.WideShapes Stamp Go.Proofs.YtmiepnnpccpicaaGreat.Place Ops Codes
attribute [local go_sem ↓] Go.wp_at_zero Go.wp_at_succ
set_option maxRecDepth 100000 in
set_option maxHeartbeats 4000000 in
theorem cls_any {u v : Value} {x y : Opn} {w : World} (hu : Runs w u x.pl) (hv : Runs w v y.pl) :
    Calls Tryz.prog 95 #[opv x u, opv y v] w fun e w' => e = .returned (.int .i64 (cmp x.pl y.pl)) ∧ Below w.heap.size w w' := by
  have PC : Hid (∀ W : World, Below w.heap.size w W → Calls Tryz.prog 16 #[u, v] W fun e w' => e = .returned (.int .i64 (cmp x.pl y.pl)) ∧ Below W.heap.size W w') := fun W h => pCompare_any (hu.keeps h) (hv.keeps h)
  have B0 : Hid (Below w.heap.size w ((w.alloc (.cells #[.int .u8 (x.k : Int), .int .u32 (x.t : Int), .int .u8 (x.r : Int), u, .int .i64 x.p] 47)).alloc (.cells #[.int .u8 (y.k : Int), .int .u32 (y.t : Int), .int .u8 (y.r : Int), v, .int .i64 y.p] 47))) := ((Below.refl _ _).alloc (Nat.le_refl _) _).alloc (by simp) _
  obtain ⟨q, hq⟩ : ∃ q, cmp x.pl y.pl = q := ⟨_, rfl⟩
  rw [hq] at PC ⊢
  obtain ⟨uo, uc, rfl⟩ := hu.shape
  obtain ⟨vo, vc, rfl⟩ := hv.shape
  obtain ⟨nu, hnu⟩ : ∃ n, x.pl.length = n := ⟨_, rfl⟩
  obtain ⟨nv, hnv⟩ : ∃ n, y.pl.length = n := ⟨_, rfl⟩
  rw [hnu] at PC B0 ⊢
  rw [hnv] at PC B0 ⊢
  clear hq hu hv hnu hnv
  obtain ⟨k1, t1, r1, l1, p1, hk1, ht1, hr1, hp1⟩ := x
  obtain ⟨k2, t2, r2, l2, p2, hk2, ht2, hr2, hp2⟩ := y
  unfold opv
  simp only at B0 ⊢
  clear hk1 ht1 hr1 hp1 hk2 ht2 hr2 hp2
  go_enter Tryz.func95, Tryz.ntmps95
  go_wp2_with fail
  refine (PC.out _ B0.out).mono ?_
  rintro e w1 ⟨rfl, b1⟩
  have B1 := Lib.hid (bt B0.out b1)
  clear b1 PC B0
  go_wp2
  go_ret
  exact ⟨rfl, B1.out⟩
end Go.Proofs.YtmiepnnpccpicaaGreat.Marks

namespace Go.Proofs.YtmiepnnpccpicaaGreat.Marks
open Go.Shelf Go.Proofs
def sortOp_ren : Go.Shelf.Ren := ⟨fun | 6 => 94 | 15 => 87 | 14 => 125 | 28 => 122 | 29 => 123 | 20 => 139 | 21 => 140 | 22 => 141 | 23 => 142 | 24 => 143 | 25 => 144 | 26 => 145 | 27 => 146 | 46 => 149 | 47 => 135 | 48 => 136 | 49 => 150 | 50 => 151 | 57 => 152 | n => n, fun | 22 => 22 | 24 => 47 | 25 => 130 | 3 => 3 | 39 => 120 | 0 => 0 | 53 => 23 | 55 => 149 | 4 => 4 | 46 => 142 | 45 => 141 | 50 => 74 | 5 => 5 | 9 => 9 | 66 => 156 | 70 => 160 | 76 => 169 | 77 => 170 | n => n, fun | n => n⟩
theorem sortOp : Go.Proofs.SlLaysF0.n6 Tryz.prog sortOp_ren where
  mixed := by kernel_rfl
  f6 := ⟨ "slices.SortFunc[[]octavo/api.Op,octavo/api.Op]", by decide, Tryz.func94.trans (congrArg some (by kernel_rfl))⟩
  f14 := ⟨ "slices.pdqsortCmpFunc[octavo/api.Op]", by decide, Tryz.func125.trans (congrArg some (by kernel_rfl))⟩
  f15 := Tryz.func87.trans (congrArg some (by kernel_rfl))
  f20 := ⟨ "slices.insertionSortCmpFunc[octavo/api.Op]", by decide, Tryz.func139.trans (congrArg some (by kernel_rfl))⟩
  f21 := ⟨ "slices.heapSortCmpFunc[octavo/api.Op]", by decide, Tryz.func140.trans (congrArg some (by kernel_rfl))⟩
  f22 := ⟨ "slices.breakPatternsCmpFunc[octavo/api.Op]", by decide, Tryz.func141.trans (congrArg some (by kernel_rfl))⟩
  f23 := ⟨ "slices.choosePivotCmpFunc[octavo/api.Op]", by decide, Tryz.func142.trans (congrArg some (by kernel_rfl))⟩
  f24 := ⟨ "slices.reverseRangeCmpFunc[octavo/api.Op]", by decide, Tryz.func143.trans (congrArg some (by kernel_rfl))⟩
  f25 := ⟨ "slices.partialInsertionSortCmpFunc[octavo/api.Op]", by decide, Tryz.func144.trans (congrArg some (by kernel_rfl))⟩
  f26 := ⟨ "slices.partitionEqualCmpFunc[octavo/api.Op]", by decide, Tryz.func145.trans (congrArg some (by kernel_rfl))⟩
  f27 := ⟨ "slices.partitionCmpFunc[octavo/api.Op]", by decide, Tryz.func146.trans (congrArg some (by kernel_rfl))⟩
  f28 := Tryz.func122.trans (congrArg some (by kernel_rfl))
  f29 := Tryz.func123.trans (congrArg some (by kernel_rfl))
  f46 := ⟨ "slices.siftDownCmpFunc[octavo/api.Op]", by decide, Tryz.func149.trans (congrArg some (by kernel_rfl))⟩
  f47 := Tryz.func135.trans (congrArg some (by kernel_rfl))
  f48 := Tryz.func136.trans (congrArg some (by kernel_rfl))
  f49 := ⟨ "slices.medianAdjacentCmpFunc[octavo/api.Op]", by decide, Tryz.func150.trans (congrArg some (by kernel_rfl))⟩
  f50 := ⟨ "slices.medianCmpFunc[octavo/api.Op]", by decide, Tryz.func151.trans (congrArg some (by kernel_rfl))⟩
  f57 := ⟨ "slices.order2CmpFunc[octavo/api.Op]", by decide, Tryz.func152.trans (congrArg some (by kernel_rfl))⟩
  t0 := Tryz.underlying0
  a0 := Tryz.isAgg0
  z0 := Tryz.sizeOf0
  v0 := Tryz.zeroValue0
  t3 := Tryz.underlying3
  a3 := Tryz.isAgg3
  z3 := Tryz.sizeOf3
  v3 := Tryz.zeroValue3
  t4 := Tryz.underlying4
  a4 := Tryz.isAgg4
  z4 := Tryz.sizeOf4
  v4 := Tryz.zeroValue4
  t5 := Tryz.underlying5
  a5 := Tryz.isAgg5
  z5 := Tryz.sizeOf5
  v5 := Tryz.zeroValue5
  t9 := Tryz.underlying9
  a9 := Tryz.isAgg9
  z9 := Tryz.sizeOf9
  v9 := Tryz.zeroValue9
  t22 := Tryz.underlying22
  a22 := Tryz.isAgg22
  z22 := Tryz.sizeOf22
  v22 := Tryz.zeroValue22
  t25 := Tryz.underlying130
  a25 := Tryz.isAgg130
  z25 := Tryz.sizeOf130
  v25 := Tryz.zeroValue130
  t39 := Tryz.underlying120
  a39 := Tryz.isAgg120
  z39 := Tryz.sizeOf120
  v39 := Tryz.zeroValue120
  t45 := Tryz.underlying141
  a45 := Tryz.isAgg141
  z45 := Tryz.sizeOf141
  v45 := Tryz.zeroValue141
  t46 := Tryz.underlying142
  a46 := Tryz.isAgg142
  z46 := Tryz.sizeOf142
  v46 := Tryz.zeroValue142
  t50 := Tryz.underlying74
  a50 := Tryz.isAgg74
  z50 := Tryz.sizeOf74
  v50 := Tryz.zeroValue74
  t53 := Tryz.underlying23
  a53 := Tryz.isAgg23
  z53 := Tryz.sizeOf23
  v53 := Tryz.zeroValue23
  t55 := Tryz.underlying149
  a55 := Tryz.isAgg149
  z55 := Tryz.sizeOf149
  v55 := Tryz.zeroValue149
  t66 := Tryz.underlying156
  a66 := Tryz.isAgg156
  z66 := Tryz.sizeOf156
  v66 := Tryz.zeroValue156
  t70 := Tryz.underlying160
  a70 := Tryz.isAgg160
  z70 := Tryz.sizeOf160
  v70 := Tryz.zeroValue160
  t76 := Tryz.underlying169
  a76 := Tryz.isAgg169
  z76 := Tryz.sizeOf169
  v76 := Tryz.zeroValue169
  t77 := Tryz.underlying170
  a77 := Tryz.isAgg170
  z77 := Tryz.sizeOf170
  v77 := Tryz.zeroValue170
end Go.Proofs.YtmiepnnpccpicaaGreat.Marks
