/- octavo/home.name, begin, number: what each answers. Conditions: the slice's cells are operations, not more than a million. -/
import Derived.Deep.DrawnRows
import Derived.Shelf.Abstract
import Derived.Test.YtohiidgdpecbdaaProg
import Derived.Shelf.SlLaysF0
import Derived.Shelf.SlSortCmp.NoneTotal
import Derived.Test.YtohiidgdpecbdaaPk07
import Derived.Test.YtohiidgdpecbdaaPk06
import Derived.Test.YtohiidgdpecbdaaPk09
import Derived.Test.YtohiidgdpecbdaaPk05
import Derived.Test.YtohiidgdpecbdaaPk08

namespace Go.Proofs.Ytohiidgdpecbdaa.Homes
open Go.RowKit Go.WideShapes Stamp Go.Proofs.Ytohiidgdpecbdaa.Place Ops Codes Bags Marks
attribute [local go_sem ↓] Go.wp_at_zero Go.wp_at_succ
attribute [local go_sem] yielded_undef

theorem sects_succ {live : List Opn} {j : Nat} (h : j < live.length) : (sectsM live).getD (j + 1) zid = idO (live[j]'h) := by
  unfold sectsM
  rw [List.getD_cons_succ, List.getD_eq_getElem?_getD, List.getElem?_map, List.getElem?_eq_getElem h]
  rfl
set_option maxRecDepth 100000 in
set_option maxHeartbeats 4000000 in
theorem hName_any {v : Value} {live : List Opn} {w : World} (hv : OpL w v live) (hl : live.length ≤ 1000000) (i : Nat) (hi : i ≤ live.length) :
    Calls Try.prog 25 #[v, .int .i64 (i : Int)] w fun e w' => e = .returned (.agg #[.int .u32 (((sectsM live).getD i zid).t : Int), .int .u8 (((sectsM live).getD i zid).r : Int)]) ∧ Below w.heap.size w w' := by
  obtain ⟨ao, cap, rfl⟩ := hv.shape
  by_cases h0 : i = 0
  · subst h0
    have e1 : (sectsM live).getD 0 zid = zid := rfl
    rw [e1]
    generalize live.length = n
    clear e1 hv hl hi
    go_enter Try.func25, Try.ntmps25
    go_wp2
    refine bodyPost_ret (v := .agg #[.int .u32 0, .int .u8 0]) (by simp [results, Try.results25, go_sem]) rfl ⟨rfl, ?_⟩
    exact (Below.refl _ _).alloc (Nat.le_refl _) _
  obtain ⟨j, rfl⟩ : ∃ j, i = j + 1 := ⟨i - 1, by omega⟩
  have hjl : j < live.length := by omega
  rw [sects_succ hjl]
  have B0 : Below w.heap.size w (w.alloc (.cells #[.int .u32 0, .int .u8 0] 29)) := (Below.refl _ _).alloc (Nat.le_refl _) _
  obtain ⟨bb, oo, y, e, hbb, hru, h0, h1, h2, h3, h4⟩ := opl_at (hv.keeps B0) j hjl
  subst e
  obtain ⟨x, hx⟩ : ∃ x, live[j]'hjl = x := ⟨_, rfl⟩
  rw [hx] at h1 h2 ⊢
  obtain ⟨k, t, r, l, p, hk, ht, hr, hp⟩ := x
  simp only [idO] at h1 h2 ⊢
  obtain ⟨bb', oo', y', e', hbb', _⟩ := opl_at hv j hjl
  cases e'
  obtain ⟨n, hn⟩ : ∃ n, live.length = n := ⟨_, rfl⟩
  rw [hn] at hl hjl hi ⊢
  have e1 : ((j + 1 : Nat) : Int) = (j : Int) + 1 := by omega
  have q0 : ¬ ((j : Int) + 1 = 0) := by omega
  have q1 : decide ((j : Int) + 1 = 0) = false := decide_eq_false q0
  have q2 : (j : Int) + 1 - 1 = (j : Int) := by omega
  have q3 : IntKind.i64.wrap (j : Int) = (j : Int) := IntWalk.i64_in _ (by omega)
  have q4 : (0 : Int) ≤ (j : Int) := by omega
  have q5 : (j : Int) < (n : Int) := by omega
  have hne : ¬ bb = w.heap.size := by omega
  rw [e1]
  clear hv h3 h4 hru hx hn B0 e1 hbb
  go_enter Try.func25, Try.ntmps25
  go_wp2
  refine bodyPost_ret (v := .agg #[.int .u32 (t : Int), .int .u8 (r : Int)]) (by simp [results, Try.results25, go_sem]) rfl ⟨rfl, ?_⟩
  exact (Below.refl _ _).alloc (Nat.le_refl _) _

theorem holdP_at {w : World} {base : Nat} : ∀ {cs : List Value} {l : List Opn}, HoldP w base cs l → ∀ k (h : k < l.length), ∃ y, cs[k * 5 + 3]? = some y ∧ w.ownsRow base 31 3 y (l[k]'h).pl.length (runs (l[k]'h).pl)
  | _, [], _, k, h => by simp at h
  | _, o :: l, ⟨v, d, h1, h2, h3⟩, 0, h => ⟨v, by rw [h1]; rfl, h2⟩
  | _, o :: l, ⟨v, d, h1, h2, h3⟩, k + 1, h => by
    obtain ⟨y, e1, e2⟩ := holdP_at h3 k (by simpa using h)
    refine ⟨y, ?_, by simpa using e2⟩
    rw [h1, List.getElem?_append_right (by simp only [List.length_cons, List.length_nil]; omega)]
    rw [show (k + 1) * 5 + 3 - [Value.int .u8 (o.k : Int), .int .u32 (o.t : Int), .int .u8 (o.r : Int), v, .int .i64 o.p].length = k * 5 + 3 by simp only [List.length_cons, List.length_nil]; omega]
    exact e1
theorem ownL_at {w : World} {base : Nat} {v : Value} {l : List Opn} (hv : OwnL w base v l) (k : Nat) (h : k < l.length) :
    ∃ g cap y, v = .slice (some ⟨g, 0, none⟩) l.length cap ∧ w.cell? ⟨g, k * 5 + 3, none⟩ = some y ∧ w.ownsRow base 31 3 y (l[k]'h).pl.length (runs (l[k]'h).pl) := by
  obtain ⟨cs, h1, h2⟩ := hv
  obtain ⟨y, e1, e2⟩ := holdP_at h2 k h
  rcases h1.2 with ⟨_, h0⟩ | ⟨g, cap, cur, rfl, _⟩
  · omega
  · exact ⟨g, cap, y, rfl, by rw [h1.cellAt (k * 5 + 3) (by omega), e1], e2⟩
theorem own_slice {w : World} {base n : Nat} {e : TypeId} {v : Value} {cs : List Value} (h : w.ownsRow base e 3 v n cs) : ∃ ao cap, v = .slice ao n cap := by
  rcases h.2 with ⟨hv, h0⟩ | ⟨g, c2, cur, hv, hb, _⟩
  · rw [h0]; exact ⟨_, _, hv⟩
  · exact ⟨_, _, hv⟩
set_option maxRecDepth 100000 in
set_option maxHeartbeats 4000000 in
theorem hBegin_any {v : Value} {live : List Opn} {base : Nat} {w : World} (hv : OwnL w base v live) (i : Nat) (hi2 : i ≤ 1000001) :
    Calls Try.prog 93 #[v, .int .i64 (i : Int)] w fun e w' => (∃ ao cap, e = .returned (.slice ao (beginM live i).length cap) ∧ w.ownsRow base 31 3 (.slice ao (beginM live i).length cap) (beginM live i).length (runs (beginM live i))) ∧ w' = w := by
  obtain ⟨ao, cap, rfl⟩ := hv.opl.shape
  by_cases h0 : i = 0
  · subst h0
    rw [begin_low (by omega)]
    obtain ⟨n, hn⟩ : ∃ n, live.length = n := ⟨_, rfl⟩
    rw [hn]
    clear hv hn hi2
    go_enter Try.func93, Try.ntmps93
    go_wp2
    go_ret
    exact ⟨⟨_, _, rfl, World.ownsRow_nil _ _ _ _⟩, rfl⟩
  have q1 : decide ((i : Int) = 0) = false := decide_eq_false (by omega)
  have q0 : ¬ ((i : Int) = 0) := by omega
  by_cases hi : live.length < i
  · rw [begin_high (by omega)]
    obtain ⟨n, hn⟩ : ∃ n, live.length = n := ⟨_, rfl⟩
    rw [hn] at hi ⊢
    have q2 : decide (n < i) = true := decide_eq_true hi
    have q3 : decide ((n : Int) < (i : Int)) = true := decide_eq_true (by omega)
    clear hv hn
    go_enter Try.func93, Try.ntmps93
    go_wp2
    go_ret
    exact ⟨⟨_, _, rfl, World.ownsRow_nil _ _ _ _⟩, rfl⟩
  obtain ⟨j, hj⟩ : ∃ j, j = i - 1 := ⟨_, rfl⟩
  have hjl : j < live.length := by omega
  have hbg := begin_succ hjl
  have q4 : (i : Int) - 1 = (j : Int) := by omega
  rw [show (j : Int) + 1 = (i : Int) by omega] at hbg
  obtain ⟨g, cap', y, e, h3, ho⟩ := ownL_at hv j hjl
  cases e
  rw [hbg]
  obtain ⟨R, hR⟩ : ∃ z, (live[j]'hjl).pl = z := ⟨_, rfl⟩
  rw [hR] at ho ⊢
  obtain ⟨n, hn⟩ : ∃ n, live.length = n := ⟨_, rfl⟩
  rw [hn] at hjl hi ⊢
  obtain ⟨yo, yc, rfl⟩ := own_slice ho
  have HO := Lib.hid ho
  have q2 : decide (n < i) = false := decide_eq_false hi
  have q3 : decide ((n : Int) < (i : Int)) = false := decide_eq_false (by omega)
  have q5 : IntKind.i64.wrap (j : Int) = (j : Int) := IntWalk.i64_in _ (by omega)
  have q6 : (0 : Int) ≤ (j : Int) := by omega
  have q7 : (j : Int) < (n : Int) := by omega
  obtain ⟨m, hm⟩ : ∃ m, R.length = m := ⟨_, rfl⟩
  rw [hm] at HO h3 ⊢
  clear hv hn ho hj hbg hR hm
  go_enter Try.func93, Try.ntmps93
  go_wp2
  go_ret
  exact ⟨⟨_, _, rfl, HO.out⟩, rfl⟩

/-- The number of a section, and whether it is one. -/
def NumI (x : Int) (e : Ending) : Prop := e = .returned (.tuple #[.int .i64 (if 0 ≤ x then x else 0), .bool (decide (0 ≤ x))])
set_option maxRecDepth 100000 in
set_option maxHeartbeats 8000000 in
theorem hNumber_any {v : Value} {live : List Opn} (s : Id) {w : World} (hv : OpL w v live) (hl : live.length ≤ 1000000) :
    Calls Try.prog 92 #[v, .agg #[.int .u32 (s.t : Int), .int .u8 (s.r : Int)]] w fun e w' => NumI (whereM live s) e ∧ Below w.heap.size w w' := by
  obtain ⟨ao, cap, rfl⟩ := hv.shape
  obtain ⟨wl, hwl⟩ : ∃ x, x = w.alloc (.cells #[.int .u32 (s.t : Int), .int .u8 (s.r : Int)] 29) := ⟨_, rfl⟩
  have B0 : Hid (Below w.heap.size w wl) := by rw [hwl]; exact (Below.refl _ _).alloc (Nat.le_refl _) _
  have P0 : Hid (Pair wl w.heap.size (.int .u32 (s.t : Int)) (.int .u8 (s.r : Int))) := by rw [hwl]; exact pair_new _ _ _ _
  have HW := Lib.hid hwl
  have NA : Hid (∀ (W : World) (i : Nat), Below w.heap.size w W → i ≤ live.length → Calls Try.prog 25 #[.slice ao live.length cap, .int .i64 (i : Int)] W fun e w' => e = .returned (.agg #[.int .u32 (((sectsM live).getD i zid).t : Int), .int .u8 (((sectsM live).getD i zid).r : Int)]) ∧ Below W.heap.size W w') := fun W i h hi => hName_any (hv.keeps h) hl i hi
  have HN : Hid (live.length + 1 = (sectsM live).length) := (sectsM_len live).symm
  have HY : Hid (∀ j (hj : j < (sectsM live).length), (∀ i (h : i < (sectsM live).length), i < j → (sectsM live)[i]'h ≠ s) → (sectsM live)[j]'hj = s → whereM live s = j) := fun j hj h1 h2 => where_is hj h1 h2
  have HZ : Hid ((∀ i (h : i < (sectsM live).length), (sectsM live)[i]'h ≠ s) → whereM live s = -1) := fun h => where_no h
  obtain ⟨q, hq⟩ : ∃ q, whereM live s = q := ⟨_, rfl⟩
  rw [hq] at HY HZ ⊢
  obtain ⟨L, hL⟩ : ∃ z, sectsM live = z := ⟨_, rfl⟩
  rw [hL] at NA HN HY HZ
  obtain ⟨n, hn⟩ : ∃ n, live.length = n := ⟨_, rfl⟩
  rw [hn] at NA HN hl ⊢
  obtain ⟨N, hNN⟩ : ∃ N, n + 1 = N := ⟨_, rfl⟩
  have hNm : N ≤ 1000001 := by omega
  have e0 : (n : Int) + 1 = (N : Int) := by omega
  have e1 : IntKind.i64.wrap (N : Int) = (N : Int) := IntWalk.i64_in _ (by omega)
  rw [hNN] at HN
  have NB : Hid (∀ (W : World) (i : Nat), Below w.heap.size w W → i < N → Calls Try.prog 25 #[.slice ao n cap, .int .i64 (i : Int)] W fun e w' => e = .returned (.agg #[.int .u32 ((L.getD i zid).t : Int), .int .u8 ((L.getD i zid).r : Int)]) ∧ Below W.heap.size W w') := fun W i h hi => NA.out W i h (by omega)
  obtain ⟨S, hS⟩ : ∃ z, s = z := ⟨_, rfl⟩
  have HSI : Hid (∀ x : Id, x = s ↔ x.t = s.t ∧ x.r = s.r) := fun x => Id.eq_iff
  rw [hS] at HY HZ
  have HSE : Hid (∀ x : Id, x = S ↔ x.t = s.t ∧ x.r = s.r) := by rw [← hS]; exact HSI.out
  obtain ⟨ts, rs, hts, hrs⟩ := s
  simp only at P0 HSE HW ⊢
  have HGO : Hid (∀ e (W : World), NumI q e → Below w.heap.size w W → NumI q e ∧ Below w.heap.size w W) := fun e W h1 h2 => ⟨h1, h2⟩
  have HQ1 : Hid (∀ j : Nat, q = (j : Int) → NumI q (.returned (.tuple #[.int .i64 (j : Int), .bool true]))) := fun j h => by
    unfold NumI
    rw [h, if_pos (by omega), decide_eq_true (by omega)]
  have HQ0 : Hid (q = -1 → NumI q (.returned (.tuple #[.int .i64 0, .bool false]))) := fun h => by
    unfold NumI
    rw [h, if_neg (by omega), decide_eq_false (by omega)]
  clear hv hq hL hn hl hS HSI hwl NA hNN
  go_enter Try.func92, Try.ntmps92
  go_wp2
  rw [← HW.out]
  go_loopw [10] (fun i wr => ∃ j : Nat, j ≤ N ∧ i = .int .i64 (j : Int) ∧ Hid (∀ k (h : k < L.length), k < j → L[k]'h ≠ S) ∧ Hid (Below wl.heap.size wl wr)) (fun i _ => N - (intOf i).toNat)
  case atStart => exact ⟨0, by omega, rfl, fun k h hk => by omega, Below.refl _ _⟩
  case round =>
    obtain ⟨j, hj, rfl, hno, hbel⟩ := hrel
    have BW := Lib.hid (bt B0.out hbel.out)
    by_cases hjn : j < N
    rotate_left
    · have q3 : decide (j < N) = false := by simpa using hjn
      have HR := Lib.hid (HQ0.out (HZ.out (fun i h => hno.out i h (by have := HN.out; omega))))
      go_wp2
      go_ret2
      exact HGO.out _ _ HR.out BW.out
    have q3 : decide (j < N) = true := by simpa using hjn
    have hjl : j < L.length := by rw [← HN.out]; exact hjn
    have NX := Lib.hid (fun W (h : Below wr.heap.size wr W) => NB.out W j (bt BW.out h) hjn)
    rw [getD_get hjl] at NX
    obtain ⟨x, hx⟩ : ∃ x, L[j]'hjl = x := ⟨_, rfl⟩
    rw [hx] at NX
    have HX : Hid (L[j]'hjl = x) := hx
    have HXS := Lib.hid (HSE.out x)
    obtain ⟨t, r, ht, hr⟩ := x
    simp only at NX HXS
    have SK : Hid (∀ w' : World, Below wr.heap.size wr w' → Below wr.heap.size wr w' ∧ w'.cell? ⟨w.heap.size, 0, none⟩ = some (.int .u32 (ts : Int)) ∧ w'.cell? ⟨w.heap.size, 1, none⟩ = some (.int .u8 (rs : Int))) := fun W h => by
      have p := P0.out.keeps (bt hbel.out h)
      exact ⟨h, p.2.1, p.2.2⟩
    clear hx
    by_cases he : t = ts ∧ r = rs
    · obtain ⟨rfl, rfl⟩ := he
      have HR := Lib.hid (HQ1.out j (HY.out j hjl hno.out (by rw [HX.out]; exact HXS.out.2 ⟨rfl, rfl⟩)))
      clear HXS HX HY HZ HQ0 HQ1 hno NB
      go_wp2
      refine wp_region_held_drew (S := fun w' => Below wr.heap.size wr w' ∧ w'.cell? ⟨w.heap.size, 0, none⟩ = some (.int .u32 (t : Int)) ∧ w'.cell? ⟨w.heap.size, 1, none⟩ = some (.int .u8 (r : Int))) (by kernel_rfl) (SK.out _ (drew1 _)) (fun hHeld => ?_)
      refine wpAnyH_take (i := 0) (v := ?va0) rfl (by kernel_rfl) (by kernel_rfl) (by kernel_rfl) (fun _ _ _ h => h) (Or.inl ⟨by rfl, ?ya0⟩) (by assumption) ?_
      case ya0 => intro w hSw; (try dsimp only at hSw); go_simp <;> with_reducible rfl
      try simp only [List.getElem_toArray, List.getElem_cons_zero, Act.put, List.setIfInBounds_toArray, List.set_cons_zero, List.set_cons_succ]
      refine wpAnyH_take (i := 1) (v := ?va1) rfl (by kernel_rfl) (by kernel_rfl) (by kernel_rfl) (fun _ _ _ h => h) (Or.inl ⟨by rfl, ?ya1⟩) (by assumption) ?_
      case ya1 => intro w hSw; (try dsimp only at hSw); go_simp <;> with_reducible rfl
      try simp only [List.getElem_toArray, List.getElem_cons_succ, List.getElem_cons_zero, Act.put, List.setIfInBounds_toArray, List.set_cons_zero, List.set_cons_succ]
      refine wpAnyH_take (i := 3) (v := ?va3) rfl (by kernel_rfl) (by kernel_rfl) (by kernel_rfl) (fun _ _ _ h => h) (Or.inl ⟨by rfl, ?ya3⟩) (by assumption) ?_
      case ya3 => intro w hSw; (try dsimp only at hSw); go_simp <;> with_reducible rfl
      try simp only [List.getElem_toArray, List.getElem_cons_succ, List.getElem_cons_zero, Act.put, List.setIfInBounds_toArray, List.set_cons_zero, List.set_cons_succ]
      refine wpAnyH_ready (rs := [2]) (by kernel_rfl) (by simp) ?_
      refine AllReadyH.cons rfl (fun K hK => ?_) ?za2
      case za2 => exact AllReadyH.nil
      go_simp
      refine (NX.out _ hHeld.1).mono ?_
      rintro e w9a2 ⟨rfl, b9⟩
      refine hK.out _ _ (SK.out _ (bt hHeld.1 b9)) (fun hNew => ?_)
      clear hHeld
      have hHeld := hNew
      clear hNew hK K
      try simp only [List.getElem_toArray, List.getElem_cons_succ, List.getElem_cons_zero, Act.put, List.setIfInBounds_toArray, List.set_cons_zero, List.set_cons_succ]
      refine wpAnyH_take (i := 4) (v := ?va4) rfl (by kernel_rfl) (by kernel_rfl) (by kernel_rfl) (fun _ _ _ h => h) (Or.inl ⟨by rfl, ?ya4⟩) (by assumption) ?_
      case ya4 => intro w hSw; (try dsimp only at hSw); go_simp <;> with_reducible rfl
      try simp only [List.getElem_toArray, List.getElem_cons_succ, List.getElem_cons_zero, Act.put, List.setIfInBounds_toArray, List.set_cons_zero, List.set_cons_succ]
      refine wpAnyH_done (by kernel_rfl) ?_ _
      go_wp2
      go_ret2
      exact HGO.out _ _ HR.out (bt BW.out hHeld.1)
    have NO : Hid (∀ k (h : k < L.length), k < j + 1 → L[k]'h ≠ S) := fun k h hk => by
      by_cases e : k = j
      · subst e
        rw [HX.out]
        intro e2
        exact he (HXS.out.1 e2)
      · exact hno.out k h (by omega)
    have hne : ¬ t = ts ∨ (t = ts ∧ ¬ r = rs) := by
      by_cases h : t = ts
      · exact .inr ⟨h, fun h2 => he ⟨h, h2⟩⟩
      · exact .inl h
    clear HXS HX HY HZ HQ0 HQ1 hno NB he
    rcases hne with hne | ⟨rfl, hne⟩
    · have hi : ¬ ((t : Int) = (ts : Int)) := by omega
      go_wp2
      refine wp_region_held_drew (S := fun w' => Below wr.heap.size wr w' ∧ w'.cell? ⟨w.heap.size, 0, none⟩ = some (.int .u32 (ts : Int)) ∧ w'.cell? ⟨w.heap.size, 1, none⟩ = some (.int .u8 (rs : Int))) (by kernel_rfl) (SK.out _ (drew1 _)) (fun hHeld => ?_)
      refine wpAnyH_take (i := 0) (v := ?vb0) rfl (by kernel_rfl) (by kernel_rfl) (by kernel_rfl) (fun _ _ _ h => h) (Or.inl ⟨by rfl, ?yb0⟩) (by assumption) ?_
      case yb0 => intro w hSw; (try dsimp only at hSw); go_simp <;> with_reducible rfl
      try simp only [List.getElem_toArray, List.getElem_cons_zero, Act.put, List.setIfInBounds_toArray, List.set_cons_zero, List.set_cons_succ]
      refine wpAnyH_take (i := 1) (v := ?vb1) rfl (by kernel_rfl) (by kernel_rfl) (by kernel_rfl) (fun _ _ _ h => h) (Or.inl ⟨by rfl, ?yb1⟩) (by assumption) ?_
      case yb1 => intro w hSw; (try dsimp only at hSw); go_simp <;> with_reducible rfl
      try simp only [List.getElem_toArray, List.getElem_cons_succ, List.getElem_cons_zero, Act.put, List.setIfInBounds_toArray, List.set_cons_zero, List.set_cons_succ]
      refine wpAnyH_take (i := 3) (v := ?vb3) rfl (by kernel_rfl) (by kernel_rfl) (by kernel_rfl) (fun _ _ _ h => h) (Or.inl ⟨by rfl, ?yb3⟩) (by assumption) ?_
      case yb3 => intro w hSw; (try dsimp only at hSw); go_simp <;> with_reducible rfl
      try simp only [List.getElem_toArray, List.getElem_cons_succ, List.getElem_cons_zero, Act.put, List.setIfInBounds_toArray, List.set_cons_zero, List.set_cons_succ]
      refine wpAnyH_ready (rs := [2]) (by kernel_rfl) (by simp) ?_
      refine AllReadyH.cons rfl (fun K hK => ?_) ?zb2
      case zb2 => exact AllReadyH.nil
      go_simp
      refine (NX.out _ hHeld.1).mono ?_
      rintro e w9b2 ⟨rfl, b9⟩
      refine hK.out _ _ (SK.out _ (bt hHeld.1 b9)) (fun hNew => ?_)
      clear hHeld
      have hHeld := hNew
      clear hNew hK K
      try simp only [List.getElem_toArray, List.getElem_cons_succ, List.getElem_cons_zero, Act.put, List.setIfInBounds_toArray, List.set_cons_zero, List.set_cons_succ]
      refine wpAnyH_take (i := 4) (v := ?vb4) rfl (by kernel_rfl) (by kernel_rfl) (by kernel_rfl) (fun _ _ _ h => h) (Or.inl ⟨by rfl, ?yb4⟩) (by assumption) ?_
      case yb4 => intro w hSw; (try dsimp only at hSw); go_simp <;> with_reducible rfl
      try simp only [List.getElem_toArray, List.getElem_cons_succ, List.getElem_cons_zero, Act.put, List.setIfInBounds_toArray, List.set_cons_zero, List.set_cons_succ]
      refine wpAnyH_done (by kernel_rfl) ?_ _
      go_wp2
      go_roundw
      case rel => exact ⟨j + 1, by omega, by go_num, NO, Lib.hid (bt hbel.out hHeld.1)⟩
      case measure => simp [intOf]; omega
    · have hi : ¬ ((r : Int) = (rs : Int)) := by omega
      go_wp2
      refine wp_region_held_drew (S := fun w' => Below wr.heap.size wr w' ∧ w'.cell? ⟨w.heap.size, 0, none⟩ = some (.int .u32 (t : Int)) ∧ w'.cell? ⟨w.heap.size, 1, none⟩ = some (.int .u8 (rs : Int))) (by kernel_rfl) (SK.out _ (drew1 _)) (fun hHeld => ?_)
      refine wpAnyH_take (i := 0) (v := ?vc0) rfl (by kernel_rfl) (by kernel_rfl) (by kernel_rfl) (fun _ _ _ h => h) (Or.inl ⟨by rfl, ?yc0⟩) (by assumption) ?_
      case yc0 => intro w hSw; (try dsimp only at hSw); go_simp <;> with_reducible rfl
      try simp only [List.getElem_toArray, List.getElem_cons_zero, Act.put, List.setIfInBounds_toArray, List.set_cons_zero, List.set_cons_succ]
      refine wpAnyH_take (i := 1) (v := ?vc1) rfl (by kernel_rfl) (by kernel_rfl) (by kernel_rfl) (fun _ _ _ h => h) (Or.inl ⟨by rfl, ?yc1⟩) (by assumption) ?_
      case yc1 => intro w hSw; (try dsimp only at hSw); go_simp <;> with_reducible rfl
      try simp only [List.getElem_toArray, List.getElem_cons_succ, List.getElem_cons_zero, Act.put, List.setIfInBounds_toArray, List.set_cons_zero, List.set_cons_succ]
      refine wpAnyH_take (i := 3) (v := ?vc3) rfl (by kernel_rfl) (by kernel_rfl) (by kernel_rfl) (fun _ _ _ h => h) (Or.inl ⟨by rfl, ?yc3⟩) (by assumption) ?_
      case yc3 => intro w hSw; (try dsimp only at hSw); go_simp <;> with_reducible rfl
      try simp only [List.getElem_toArray, List.getElem_cons_succ, List.getElem_cons_zero, Act.put, List.setIfInBounds_toArray, List.set_cons_zero, List.set_cons_succ]
      refine wpAnyH_ready (rs := [2]) (by kernel_rfl) (by simp) ?_
      refine AllReadyH.cons rfl (fun K hK => ?_) ?zc2
      case zc2 => exact AllReadyH.nil
      go_simp
      refine (NX.out _ hHeld.1).mono ?_
      rintro e w9c2 ⟨rfl, b9⟩
      refine hK.out _ _ (SK.out _ (bt hHeld.1 b9)) (fun hNew => ?_)
      clear hHeld
      have hHeld := hNew
      clear hNew hK K
      try simp only [List.getElem_toArray, List.getElem_cons_succ, List.getElem_cons_zero, Act.put, List.setIfInBounds_toArray, List.set_cons_zero, List.set_cons_succ]
      refine wpAnyH_take (i := 4) (v := ?vc4) rfl (by kernel_rfl) (by kernel_rfl) (by kernel_rfl) (fun _ _ _ h => h) (Or.inl ⟨by rfl, ?yc4⟩) (by assumption) ?_
      case yc4 => intro w hSw; (try dsimp only at hSw); go_simp <;> with_reducible rfl
      try simp only [List.getElem_toArray, List.getElem_cons_succ, List.getElem_cons_zero, Act.put, List.setIfInBounds_toArray, List.set_cons_zero, List.set_cons_succ]
      refine wpAnyH_done (by kernel_rfl) ?_ _
      go_wp2
      go_roundw
      case rel => exact ⟨j + 1, by omega, by go_num, NO, Lib.hid (bt hbel.out hHeld.1)⟩
      case measure => simp [intOf]; omega
end Go.Proofs.Ytohiidgdpecbdaa.Homes

/- octavo/home.Of: its closure, and the search. Conditions: live marks, a place that may be, or the beginning. -/
namespace Go.Proofs.Ytohiidgdpecbdaa.Homes
open Go.RowKit Go.WideShapes Stamp Go.Proofs.Ytohiidgdpecbdaa.Place Ops Codes Bags Marks
attribute [local go_sem ↓] Go.wp_at_zero Go.wp_at_succ
attribute [local go_sem] yielded_undef

end Go.Proofs.Ytohiidgdpecbdaa.Homes

/- octavo/marks.Live's closure: how two operations are held against each other. Conditions: the places read as such. -/
namespace Go.Proofs.Ytohiidgdpecbdaa.Marks
open Go.RowKit Go.WideShapes Stamp Go.Proofs.Ytohiidgdpecbdaa.Place Ops Codes
attribute [local go_sem ↓] Go.wp_at_zero Go.wp_at_succ

set_option maxRecDepth 100000 in
set_option maxHeartbeats 4000000 in
theorem cls_any {u v : Value} {x y : Opn} {w : World} (hu : Runs w u x.pl) (hv : Runs w v y.pl) :
    Calls Try.prog 47 #[opv x u, opv y v] w fun e w' => e = .returned (.int .i64 (cmp x.pl y.pl)) ∧ Below w.heap.size w w' := by
  have PC : Hid (∀ W : World, Below w.heap.size w W → Calls Try.prog 14 #[u, v] W fun e w' => e = .returned (.int .i64 (cmp x.pl y.pl)) ∧ Below W.heap.size W w') := fun W h => pCompare_any (hu.keeps h) (hv.keeps h)
  have B0 : Hid (Below w.heap.size w ((w.alloc (.cells #[.int .u8 (x.k : Int), .int .u32 (x.t : Int), .int .u8 (x.r : Int), u, .int .i64 x.p] 54)).alloc (.cells #[.int .u8 (y.k : Int), .int .u32 (y.t : Int), .int .u8 (y.r : Int), v, .int .i64 y.p] 54))) := ((Below.refl _ _).alloc (Nat.le_refl _) _).alloc (by simp) _
  obtain ⟨q, hq⟩ : ∃ q, cmp x.pl y.pl = q := ⟨_, rfl⟩
  rw [hq] at PC ⊢
  obtain ⟨uo, uc, rfl⟩ := hu.shape
  obtain ⟨vo, vc, rfl⟩ := hv.shape
  obtain ⟨nu, hnu⟩ : ∃ n, x.pl.length = n := ⟨_, rfl⟩
  obtain ⟨nv, hnv⟩ : ∃ n, y.pl.length = n := ⟨_, rfl⟩
  rw [hnu] at PC B0 ⊢
  rw [hnv] at PC B0 ⊢
  clear hq hu hv hnu hnv
  obtain ⟨k1, t1, r1, l1, p1, hk1, ht1, hr1, hp1⟩ := x
  obtain ⟨k2, t2, r2, l2, p2, hk2, ht2, hr2, hp2⟩ := y
  unfold opv
  simp only at B0 ⊢
  clear hk1 ht1 hr1 hp1 hk2 ht2 hr2 hp2
  go_enter Try.func47, Try.ntmps47
  go_wp2_with fail
  refine (PC.out _ B0.out).mono ?_
  rintro e w1 ⟨rfl, b1⟩
  have B1 := Lib.hid (bt B0.out b1)
  clear b1 PC B0
  go_wp2
  go_ret
  exact ⟨rfl, B1.out⟩
end Go.Proofs.Ytohiidgdpecbdaa.Marks

/- slices.SortFunc at operations: the library's contract laid at this program. Conditions: as it says. -/
namespace Go.Proofs.Ytohiidgdpecbdaa.Marks
open Go.Shelf Go.Proofs
def sortOp_ren : Go.Shelf.Ren := ⟨fun | 6 => 46 | 15 => 51 | 14 => 62 | 28 => 76 | 29 => 77 | 20 => 84 | 21 => 85 | 22 => 86 | 23 => 87 | 24 => 88 | 25 => 89 | 26 => 90 | 27 => 91 | 46 => 100 | 47 => 96 | 48 => 97 | 49 => 101 | 50 => 102 | 57 => 104 | n => n, fun | 22 => 22 | 24 => 54 | 25 => 96 | 3 => 3 | 39 => 90 | 0 => 0 | 53 => 27 | 55 => 131 | 4 => 4 | 46 => 124 | 45 => 123 | 50 => 56 | 5 => 5 | 9 => 9 | 66 => 141 | 70 => 145 | 76 => 149 | 77 => 150 | n => n, fun | n => n⟩
theorem sortOp : Go.Proofs.SlLaysF0.n6 Try.prog sortOp_ren where
  mixed := by kernel_rfl
  f6 := ⟨ "slices.SortFunc[[]octavo/api.Op,octavo/api.Op]", by decide, Try.func46.trans (congrArg some (by kernel_rfl))⟩
  f14 := ⟨ "slices.pdqsortCmpFunc[octavo/api.Op]", by decide, Try.func62.trans (congrArg some (by kernel_rfl))⟩
  f15 := Try.func51.trans (congrArg some (by kernel_rfl))
  f20 := ⟨ "slices.insertionSortCmpFunc[octavo/api.Op]", by decide, Try.func84.trans (congrArg some (by kernel_rfl))⟩
  f21 := ⟨ "slices.heapSortCmpFunc[octavo/api.Op]", by decide, Try.func85.trans (congrArg some (by kernel_rfl))⟩
  f22 := ⟨ "slices.breakPatternsCmpFunc[octavo/api.Op]", by decide, Try.func86.trans (congrArg some (by kernel_rfl))⟩
  f23 := ⟨ "slices.choosePivotCmpFunc[octavo/api.Op]", by decide, Try.func87.trans (congrArg some (by kernel_rfl))⟩
  f24 := ⟨ "slices.reverseRangeCmpFunc[octavo/api.Op]", by decide, Try.func88.trans (congrArg some (by kernel_rfl))⟩
  f25 := ⟨ "slices.partialInsertionSortCmpFunc[octavo/api.Op]", by decide, Try.func89.trans (congrArg some (by kernel_rfl))⟩
  f26 := ⟨ "slices.partitionEqualCmpFunc[octavo/api.Op]", by decide, Try.func90.trans (congrArg some (by kernel_rfl))⟩
  f27 := ⟨ "slices.partitionCmpFunc[octavo/api.Op]", by decide, Try.func91.trans (congrArg some (by kernel_rfl))⟩
  f28 := Try.func76.trans (congrArg some (by kernel_rfl))
  f29 := Try.func77.trans (congrArg some (by kernel_rfl))
  f46 := ⟨ "slices.siftDownCmpFunc[octavo/api.Op]", by decide, Try.func100.trans (congrArg some (by kernel_rfl))⟩
  f47 := Try.func96.trans (congrArg some (by kernel_rfl))
  f48 := Try.func97.trans (congrArg some (by kernel_rfl))
  f49 := ⟨ "slices.medianAdjacentCmpFunc[octavo/api.Op]", by decide, Try.func101.trans (congrArg some (by kernel_rfl))⟩
  f50 := ⟨ "slices.medianCmpFunc[octavo/api.Op]", by decide, Try.func102.trans (congrArg some (by kernel_rfl))⟩
  f57 := ⟨ "slices.order2CmpFunc[octavo/api.Op]", by decide, Try.func104.trans (congrArg some (by kernel_rfl))⟩
  t0 := Try.underlying0
  a0 := Try.isAgg0
  z0 := Try.sizeOf0
  v0 := Try.zeroValue0
  t3 := Try.underlying3
  a3 := Try.isAgg3
  z3 := Try.sizeOf3
  v3 := Try.zeroValue3
  t4 := Try.underlying4
  a4 := Try.isAgg4
  z4 := Try.sizeOf4
  v4 := Try.zeroValue4
  t5 := Try.underlying5
  a5 := Try.isAgg5
  z5 := Try.sizeOf5
  v5 := Try.zeroValue5
  t9 := Try.underlying9
  a9 := Try.isAgg9
  z9 := Try.sizeOf9
  v9 := Try.zeroValue9
  t22 := Try.underlying22
  a22 := Try.isAgg22
  z22 := Try.sizeOf22
  v22 := Try.zeroValue22
  t25 := Try.underlying96
  a25 := Try.isAgg96
  z25 := Try.sizeOf96
  v25 := Try.zeroValue96
  t39 := Try.underlying90
  a39 := Try.isAgg90
  z39 := Try.sizeOf90
  v39 := Try.zeroValue90
  t45 := Try.underlying123
  a45 := Try.isAgg123
  z45 := Try.sizeOf123
  v45 := Try.zeroValue123
  t46 := Try.underlying124
  a46 := Try.isAgg124
  z46 := Try.sizeOf124
  v46 := Try.zeroValue124
  t50 := Try.underlying56
  a50 := Try.isAgg56
  z50 := Try.sizeOf56
  v50 := Try.zeroValue56
  t53 := Try.underlying27
  a53 := Try.isAgg27
  z53 := Try.sizeOf27
  v53 := Try.zeroValue27
  t55 := Try.underlying131
  a55 := Try.isAgg131
  z55 := Try.sizeOf131
  v55 := Try.zeroValue131
  t66 := Try.underlying141
  a66 := Try.isAgg141
  z66 := Try.sizeOf141
  v66 := Try.zeroValue141
  t70 := Try.underlying145
  a70 := Try.isAgg145
  z70 := Try.sizeOf145
  v70 := Try.zeroValue145
  t76 := Try.underlying149
  a76 := Try.isAgg149
  z76 := Try.sizeOf149
  v76 := Try.zeroValue149
  t77 := Try.underlying150
  a77 := Try.isAgg150
  z77 := Try.sizeOf150
  v77 := Try.zeroValue150
end Go.Proofs.Ytohiidgdpecbdaa.Marks

/- slices.SortFunc over operations by their places: what it leaves. Conditions: a list of the call's own; places that may be, or the beginning. -/
namespace Go.Proofs.Ytohiidgdpecbdaa.Marks
open Go.RowKit Go.WideShapes Go.Sort Stamp Go.Proofs.Ytohiidgdpecbdaa.Place Ops Codes

theorem sortL_any {v : Value} {l : List Opn} {base : Nat} {w : World} (hv : OwnL w base v l) (hm : ∀ o ∈ l, anyB o.pl = true) (hl : l.length < 4611686018427387904) :
    Calls Try.prog 46 #[v, .func (.func 47) #[] #[]] w fun e w' => e = .returned (.tuple #[]) ∧ ∃ l', l'.Perm l ∧ l'.Pairwise (fun a b => ¬ cmp b.pl a.pl < 0) ∧ OwnL w' base v l' ∧ Below base w w' := by
  obtain ⟨cs, h1, h2⟩ := hv
  by_cases hz : l = []
  · subst hz
    obtain ⟨ao, cap, rfl⟩ : ∃ ao cap, v = .slice ao 0 cap := Sees.shape (Sees.own h1)
    refine (AnyF.slices_SortFunc_none sortOp ao cap (.func (.func 47) #[] #[]) w).mono ?_
    rintro e w' ⟨rfl, rfl⟩
    exact ⟨rfl, [], .refl _, .nil, ⟨cs, h1, h2⟩, Below.refl _ _⟩
  rcases h1.2 with ⟨rfl, h⟩ | ⟨g, cap, cur, rfl, hbg, hg, hlc, hcm, hcs, hct⟩
  · exact absurd (List.length_eq_zero_iff.1 h) hz
  obtain ⟨ds, e1, e2⟩ := elts_of h2 hm
  have hn : l.length = ds.length := by rw [e2, List.length_map]
  have hgs := (Array.getElem?_eq_some_iff.1 hg).1
  have eg : ∀ args w, (callFunc 47 args).run Try.prog w = .ok (.enter 47 args) w := enters_of Try.func47 (by kernel_rfl) rfl
  have hcmp : CmpLays Try.prog 47 #[] (encE (w := w) (base := base)) 5 cfE g 0 ds.toArray.size w := fun m os dk _ x y =>
    Draws.calls_grow (cls_any (Runs.own (elt_stays hg m dk os x)) (Runs.own (elt_stays hg m dk os y)))
  have hH : HoldsK encE 5 w g 0 ds.toArray := elt_holds ⟨cur, hg, hcs, by rw [hct, e1]⟩ hn hlc
  have hcon := AnyQ.slices_SortFunc sortOp 5 Try.isAgg54 Try.sizeOf54 encE encE_len (fun x => by
      obtain ⟨ao, c, h⟩ := Sees.shape (Sees.own x.2.2)
      exact five_one x.1.1 x.1.2 ⟨ao, _, c, h⟩) cfE (swoE w base) 47 #[] g 0 cap ds.toArray w eg hcmp hH hgs (by simpa [← hn] using hl)
  change Calls Try.prog 46 _ _ _ at hcon
  rw [show ds.toArray.size = l.length by rw [hn]; simp] at hcon
  refine hcon.mono ?_
  rintro e w' ⟨rfl, d', n, os, hp, hs, rfl⟩
  obtain ⟨hp1, _, hp3⟩ := hp
  have hdn : d'.size = l.length := by rw [hp1, hn]; simp
  refine ⟨rfl, d'.toList.map opE', ?_, ?_, ⟨d'.toList.flatMap encE, ⟨?_, .inr ⟨g, cap, putCells id 0 (flatK encE 5 d') cur, ?_, hbg, srt_row encE 5 n d' os hg, ?_, hcm, ?_, ?_⟩⟩, holdP_of (elt_stays hg n d' os) _⟩, srt_below encE 5 w g 0 n base d' os hbg hgs⟩
  · rw [e2]
    refine List.Perm.map _ ?_
    have : (d'.extract 0 l.length).toList.Perm (ds.toArray.extract 0 l.length).toList := hp3
    rw [Array.extract_eq_self_of_le (by omega), Array.extract_eq_self_of_le (by simp [hn])] at this
    simpa using this
  · rw [List.pairwise_map, List.pairwise_iff_getElem]
    intro i j hi hj hij
    have := hs i j (Nat.zero_le _) hij (by rw [← hdn]; simpa using hj)
    rw [getElem!_pos d' j (by simpa using hj), getElem!_pos d' i (by simpa using hi)] at this
    unfold ltOf cfE at this
    have h := of_decide_eq_false this
    simpa [opE'] using h
  · rw [← flatK_list encE 5 (by decide) encE_len]
    simp
  · simp [hdn]
  · simpa [hdn] using hlc
  · rw [putCells_size]; exact hcs
  · have h3 : (flatK encE 5 d').size = l.length * 5 := by rw [size_flatK, hdn]
    rw [List.length_map, Array.length_toList, hdn, ← h3, putCells_take _ _ (by rw [h3, hcs]; exact Nat.mul_le_mul_right 5 hlc), flatK_list encE 5 (by decide) encE_len]
end Go.Proofs.Ytohiidgdpecbdaa.Marks
