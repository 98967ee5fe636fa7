/- octavoref06.Ids, SameIds, More: what each answers. Conditions: the slices' cells are runs (stamps). -/
import Derived.Test.YtfhmleigceakjaaPlaceFin
import Derived.Deep.DeepCutAuto
import Derived.IntWalk
namespace Go.Proofs.Ytfhmleigceakjaa.Place
open Go.RowKit Stamp
attribute [local go_sem ↓] Go.wp_at_zero Go.wp_at_succ
attribute [local go_sem] yielded_undef

def idsOf (l : List Run) : List Id := if mayB l = true then all l else []
def idsE (l : List Run) : Int := if mayB l = true then 0 else 8
theorem refIds_any {v : Value} {l : List Run} {w : World} (hv : Runs w v l) :
    Calls Try.prog 26 #[v] w fun e w' => ∃ ao cap, e = .returned (.tuple #[.slice ao (idsOf l).length cap, .int .i64 (idsE l)]) ∧ Ids w' (.slice ao (idsOf l).length cap) (idsOf l) ∧ Below w.heap.size w w' := by
  have HV := Lib.hid hv
  cases hm : mayB l
  · have M := Lib.hid (refMay_is hv hm)
    have h1 : idsOf l = [] := by unfold idsOf; rw [hm]; rfl
    have h2 : idsE l = 8 := by unfold idsE; rw [hm]; rfl
    rw [h1, h2]
    clear hv hm h1 h2
    go_enter Try.func26, Try.ntmps26
    go_wp2_with fail
    refine M.out.mono ?_
    rintro e w1 ⟨rfl, b1⟩
    go_wp2
    go_ret2
    exact ⟨none, 0, rfl, Ids.nil _, b1⟩
  · have M := Lib.hid (refMay_is hv hm)
    have hM := (mayB_iff l).1 hm
    have h1 : idsOf l = all l := by unfold idsOf; rw [if_pos hm]
    have h2 : idsE l = 0 := by unfold idsE; rw [if_pos hm]
    have A : Hid (∀ W : World, Below w.heap.size w W → Calls Try.prog 48 #[v] W fun e w' => ∃ v', e = .returned v' ∧ w'.ownsRow W.heap.size 32 2 v' (all l).length (ids (all l)) ∧ Below W.heap.size W w') := fun W hW => all_any (HV.out.keeps hW) hM.2.2.1 (by have := hM.2.1; omega)
    rw [h1, h2]
    clear hv hm h1 h2 hM
    go_enter Try.func26, Try.ntmps26
    go_wp2_with fail
    refine M.out.mono ?_
    rintro e w1 ⟨rfl, b1⟩
    go_wp2_with fail
    refine (A.out _ b1).mono ?_
    rintro e w2 ⟨v', rfl, o2, b2⟩
    have I2 := Ids.own o2
    obtain ⟨ao, cap, rfl⟩ := I2.shape
    have HI := Lib.hid I2
    have B2 := Lib.hid (bt b1 b2)
    clear o2 b1 b2 I2
    go_wp2
    go_ret2
    exact ⟨_, _, rfl, HI.out, B2.out⟩

theorem ids_ne : ∀ {a b : List Id}, a.length = b.length → a ≠ b → ∃ k, k < a.length ∧ a.getD k zid ≠ b.getD k zid
  | [], [], _, h => absurd rfl h
  | x :: a, y :: b, hl, h => by
    by_cases hxy : x = y
    · subst hxy
      obtain ⟨k, h1, h2⟩ := ids_ne (a := a) (b := b) (by simpa using hl) (fun e => h (by rw [e]))
      exact ⟨k + 1, by simpa using h1, by simpa using h2⟩
    · exact ⟨0, by simp, by simpa using hxy⟩
  | [], _ :: _, hl, _ => by simp at hl
  | _ :: _, [], hl, _ => by simp at hl

set_option maxHeartbeats 1000000 in
theorem sameIds_yes {a b : Value} {l : List Id} {w : World} (ha : Ids w a l) (hb : Ids w b l) :
    Calls Try.prog 28 #[a, b] w fun e w' => e = .returned (.bool true) ∧ Below w.heap.size w w' := by
  obtain ⟨ao, ca, rfl⟩ := ha.shape
  obtain ⟨bo, cb, rfl⟩ := hb.shape
  obtain ⟨n, hn⟩ : ∃ n, n = l.length := ⟨_, rfl⟩
  have hm : n ≤ 9223372036854775807 := by rw [hn]; exact Sees.max ha
  have HA := Lib.hid ha
  have HB := Lib.hid hb
  have HN := Lib.hid hn
  rw [← hn]
  clear ha hb hn
  have t1 : ((n : Int) != (n : Int)) = false := by simp
  go_enter Try.func28, Try.ntmps28
  go_wp2
  go_loopw [5] (fun i wr => ∃ k : Nat, k ≤ n ∧ i = .int .i64 (k : Int) ∧ ∃ q, wr = w.drewN q) (fun i _ => n - (intOf i).toNat)
  case atStart => exact ⟨0, by omega, rfl, 0, rfl⟩
  case round =>
    obtain ⟨k, hk, rfl, q, rfl⟩ := hrel
    by_cases hkn : k < n
    · have q1 : decide (k < n) = true := by simpa using hkn
      obtain ⟨b1, o1, rfl, hb1, ha0, ha1⟩ := HA.out.at k (by rw [← HN.out]; exact hkn)
      obtain ⟨b2, o2, rfl, hb2, hb0, hb1'⟩ := HB.out.at k (by rw [← HN.out]; exact hkn)
      obtain ⟨x, hx⟩ : ∃ x, x = l.getD k zid := ⟨_, rfl⟩
      rw [← hx] at ha0 ha1 hb0 hb1'
      obtain ⟨xt, xr, _, _⟩ := x
      simp only at ha0 ha1 hb0 hb1'
      have q2 : (0 : Int) ≤ (k : Int) := by omega
      have q3 : (k : Int) < (n : Int) := by omega
      clear hx
      go_wp2
      go_quiet (fail)
      go_wp2
      go_roundw
      case rel => exact ⟨k + 1, by omega, by go_num, _, rfl⟩
      case measure => simp [intOf]; omega
    · have q1 : decide (k < n) = false := by simpa using hkn
      go_wp2
      go_ret
      exact ⟨rfl, below_draw (Below.refl _ _) _⟩

/-- A place with a stamp behind. -/
def more (l : List Run) (a : Id) : List Run :=
  if 0 < l.length ∧ (l.getD (l.length - 1) zrun).r = a.r ∧ fin (l.getD (l.length - 1) zrun) + 1 = (a.t : Int) then l.take (l.length - 1) ++ [mkRun (l.getD (l.length - 1) zrun).t (l.getD (l.length - 1) zrun).r ((l.getD (l.length - 1) zrun).m + 1)] else l ++ [mkRun a.t a.r 1]
theorem keepR1 {wl w1 w2 : World} {b o1 o2 o3 h2 : Nat} {c1 c2 c3 d0 d1 : Value} (q : b < wl.heap.size ∧ wl.cell? ⟨b, o1, none⟩ = some c1 ∧ wl.cell? ⟨b, o2, none⟩ = some c2 ∧ wl.cell? ⟨b, o3, none⟩ = some c3) (p2 : Pair wl h2 d0 d1) (h : Below w1.heap.size w1 w2) (hb : Below wl.heap.size wl w1) :
    Below wl.heap.size wl w2 ∧ w2.cell? ⟨b, o1, none⟩ = some c1 ∧ w2.cell? ⟨b, o2, none⟩ = some c2 ∧ w2.cell? ⟨b, o3, none⟩ = some c3 ∧ w2.cell? ⟨h2, 0, none⟩ = some d0 ∧ w2.cell? ⟨h2, 1, none⟩ = some d1 :=
  have a := bt hb h
  ⟨a, (a.cell (p := ⟨b, o1, none⟩) q.1).trans q.2.1, (a.cell (p := ⟨b, o2, none⟩) q.1).trans q.2.2.1, (a.cell (p := ⟨b, o3, none⟩) q.1).trans q.2.2.2, (p2.keeps a).2.1, (p2.keeps a).2.2⟩

theorem runs_bump : ∀ (l : List Run) (k : Nat), l.length = k + 1 → (-9223372036854775808 ≤ (l.getD k zrun).m + 1 ∧ (l.getD k zrun).m + 1 ≤ 9223372036854775807) →
    (runs l).set (k * 3 + 2) (.int .i64 ((l.getD k zrun).m + 1)) = runs (l.take k ++ [mkRun (l.getD k zrun).t (l.getD k zrun).r ((l.getD k zrun).m + 1)])
  | [], k, h, _ => by simp at h
  | x :: l, 0, h, hb => by
    have : l = [] := List.length_eq_zero_iff.1 (by simpa using h)
    subst this
    simp only [List.getD_cons_zero] at hb
    simp [runs, mkRun_t x.ht, mkRun_r x.hr, mkRun_m hb]
  | x :: l, k + 1, h, hb => by
    have ih := runs_bump l k (by simpa using h) (by simpa using hb)
    rw [show (k + 1) * 3 + 2 = (k * 3 + 2) + 1 + 1 + 1 by omega]
    simp only [List.getD_cons_succ, List.take_succ_cons, List.cons_append, runs, List.set_cons_succ]
    rw [ih]

/-- Does the stamp stand right behind the last run? -/
def joinsB (l : List Run) (a : Id) : Bool := decide (0 < l.length ∧ (l.getD (l.length - 1) zrun).r = a.r ∧ fin (l.getD (l.length - 1) zrun) + 1 = (a.t : Int))

set_option maxRecDepth 100000 in
set_option maxHeartbeats 4000000 in
theorem more_any {v : Value} {l : List Run} {a : Id} {w : World} (hv : Runs w v l) (hl : l.length ≤ 1000) (hc : Chain l) (ht1 : a.t ≤ 1073741824) :
    Calls Try.prog 46 #[v, .agg #[.int .u32 (a.t : Int), .int .u8 (a.r : Int)]] w fun e w' => ∃ v', e = .returned v' ∧ Runs w' v' (more l a) ∧ Below w.heap.size w w' := by
  obtain ⟨t, r, ht, hr⟩ := a
  simp only at ht1
  obtain ⟨n, hn⟩ : ∃ n, n = l.length := ⟨_, rfl⟩
  obtain ⟨qb, hqb⟩ : ∃ qb, qb = joinsB l ⟨t, r, ht, hr⟩ := ⟨_, rfl⟩
  have HV := Lib.hid hv
  have HN := Lib.hid hn
  have HC := Lib.hid hc
  have HQB := Lib.hid hqb
  simp only
  have BX := Lib.hid ((Below.refl w.heap.size w).alloc (Nat.le_refl _) (.cells #[.int .u32 (t : Int), .int .u8 (r : Int)] 32))
  have TW : Hid (Calls Try.prog 18 #[v] (w.alloc (.cells #[.int .u32 (t : Int), .int .u8 (r : Int)] 32)) fun e w' => ∃ v', e = .returned v' ∧ w'.ownsRow (w.alloc (.cells #[.int .u32 (t : Int), .int .u8 (r : Int)] 32)).heap.size 29 3 v' n (runs l) ∧ Below (w.alloc (.cells #[.int .u32 (t : Int), .int .u8 (r : Int)] 32)).heap.size (w.alloc (.cells #[.int .u32 (t : Int), .int .u8 (r : Int)] 32)) w') := by
    rw [hn]; exact twin_any (HV.out.keeps BX.out) (by omega)
  have hl2 : n ≤ 1000 := by omega
  clear hv hn hc hqb hl
  go_enter Try.func46, Try.ntmps46
  go_wp2_with fail
  refine TW.out.mono ?_
  rintro e w2 ⟨v', rfl, own, b2⟩
  have hsh := Sees.shape (Sees.own own)
  obtain ⟨ao, cap, rfl⟩ := hsh
  have RV : Hid (Runs w2 (.slice ao n cap) l) := Runs.own own
  have OWN : Hid (w2.ownsRow w.heap.size 29 3 (.slice ao n cap) n (runs l)) := ⟨own.1, own.2.imp_right fun ⟨g, c, cur, h1, h2, h3⟩ => ⟨g, c, cur, h1, by simp at h2; omega, h3⟩⟩
  have PB : Hid (Pair w2 w.heap.size (.int .u32 (t : Int)) (.int .u8 (r : Int))) := (pair_new _ _ _ _).keeps b2
  obtain ⟨c0, c1, _, _⟩ := two_cells b2
  have B2 := Lib.hid (below_of3 b2)
  clear own b2
  go_wp2_with fail
  go_upto_region 3 with fail
  go_cut [36] (fun p wx => p = .bool qb ∧ Below w2.heap.size w2 wx)
  case first =>
    by_cases h0 : n = 0
    · subst h0
      have hf : qb = false := by rw [HQB.out]; exact decide_eq_false (by rw [← HN.out]; omega)
      subst hf
      go_wp2
      go_quiet (fail)
      go_wp2_with fail
      go_meet
      exact ⟨rfl, below_draw (Below.refl _ _) _⟩
    · obtain ⟨k, hk⟩ : ∃ k, n = k + 1 := ⟨n - 1, by omega⟩
      have g1 : decide ((0 : Int) < (n : Int)) = true := decide_eq_true (by omega)
      have g2 : decide (0 < n) = true := decide_eq_true (by omega)
      obtain ⟨b, off, rfl, hb, hx0, hx1, hx2⟩ := RV.out.at k (by rw [← HN.out]; omega)
      have hone := chain_one HC.out (k := k) (by rw [← HN.out]; omega)
      obtain ⟨x, hx⟩ : ∃ x, x = l.getD k zrun := ⟨_, rfl⟩
      rw [← hx] at hx0 hx1 hx2 hone
      have hq : qb = decide (x.r = r ∧ fin x + 1 = (t : Int)) := by
        rw [HQB.out]
        unfold joinsB
        rw [← HN.out, hk, Nat.add_sub_cancel, ← hx, decide_eq_decide]
        simp only
        constructor
        · rintro ⟨_, h⟩; exact h
        · intro h; exact ⟨by omega, h⟩
      obtain ⟨xt, xr, xm, hxt, hxr, hxm⟩ := x
      obtain ⟨z, hz⟩ : ∃ z, z = (xt : Int) + xm - 1 := ⟨_, rfl⟩
      have hfin : fin ⟨xt, xr, xm, hxt, hxr, hxm⟩ = z := hz.symm
      rw [hfin] at hq
      unfold One at hone
      simp only at hx0 hx1 hx2 hone hq
      obtain ⟨o1, o2, o3, o4, o5, o6⟩ := hone
      have E1 := Lib.hid (end_any xt xr xm hxt ⟨o4, o5⟩)
      rw [← hz] at E1
      have z0 : 0 ≤ z := by omega
      have z1 : z ≤ 1073741824 := by omega
      have QR := Lib.hid (And.intro hb (And.intro hx0 (And.intro hx1 hx2)))
      have w0 : (0 : Int) ≤ (k : Int) := by omega
      have w1 : (k : Int) < (n : Int) := by omega
      have e1 : (n : Int) - 1 = (k : Int) := by omega
      have e2 : IntKind.i64.wrap (k : Int) = (k : Int) := IntWalk.i64_in _ (by omega)
      have e3 : IntKind.i64.wrap (t : Int) = (t : Int) := IntWalk.i64_in _ (by omega)
      have e4 : IntKind.i64.wrap (z + 1) = z + 1 := IntWalk.i64_in _ (by omega)
      clear hx0 hx1 hx2 hb hx hk h0 hz hfin c0 c1
      by_cases hrr : xr = r
      · subst hrr
        have a2 : ((xr : Int) == (xr : Int)) = true := by simp
        have hq2 : qb = decide (z + 1 = (t : Int)) := by rw [hq]; simp
        by_cases hs : z + 1 = (t : Int)
        · have a3 : (z + 1 == (t : Int)) = true := by simp; omega
          have hf : qb = true := by rw [hq2]; exact decide_eq_true hs
          subst hf
          clear hq hq2 hs
          go_wp2_with fail
          refine wp_region_held_drew (S := fun w' => Below w2.heap.size w2 w' ∧ w'.cell? ⟨b, off + k * 3, none⟩ = some (.int .u32 (xt : Int)) ∧ w'.cell? ⟨b, off + k * 3 + 1, none⟩ = some (.int .u8 (xr : Int)) ∧ w'.cell? ⟨b, off + k * 3 + 2, none⟩ = some (.int .i64 xm) ∧ w'.cell? ⟨w.heap.size, 0, none⟩ = some (.int .u32 (t : Int)) ∧ w'.cell? ⟨w.heap.size, 1, none⟩ = some (.int .u8 (xr : Int))) (by kernel_rfl) (keepR1 QR.out PB.out (drew1 _) (Below.refl _ _)) (fun hHeld => ?_)
          refine wpAnyH_take (i := 0) (v := ?va0) rfl (by kernel_rfl) (by kernel_rfl) (by kernel_rfl) (fun _ _ _ h => h) (Or.inl ⟨by rfl, ?ya0⟩) (by assumption) ?_
          case ya0 => intro w hSw; (try dsimp only at hSw); go_simp <;> with_reducible rfl
          try simp only [List.getElem_toArray, List.getElem_cons_zero, Act.put, List.setIfInBounds_toArray, List.set_cons_zero, List.set_cons_succ]
          refine wpAnyH_take (i := 1) (v := ?va1) rfl (by kernel_rfl) (by kernel_rfl) (by kernel_rfl) (fun _ _ _ h => h) (Or.inl ⟨by rfl, ?ya1⟩) (by assumption) ?_
          case ya1 => intro w hSw; (try dsimp only at hSw); go_simp <;> with_reducible rfl
          try simp only [List.getElem_toArray, List.getElem_cons_succ, List.getElem_cons_zero, Act.put, List.setIfInBounds_toArray, List.set_cons_zero, List.set_cons_succ]
          refine wpAnyH_take (i := 2) (v := ?va2) rfl (by kernel_rfl) (by kernel_rfl) (by kernel_rfl) (fun _ _ _ h => h) (Or.inl ⟨by rfl, ?ya2⟩) (by assumption) ?_
          case ya2 => intro w hSw; (try dsimp only at hSw); go_simp <;> with_reducible rfl
          try simp only [List.getElem_toArray, List.getElem_cons_succ, List.getElem_cons_zero, Act.put, List.setIfInBounds_toArray, List.set_cons_zero, List.set_cons_succ]
          refine wpAnyH_take (i := 3) (v := ?va3) rfl (by kernel_rfl) (by kernel_rfl) (by kernel_rfl) (fun _ _ _ h => h) (Or.inl ⟨by rfl, ?ya3⟩) (by assumption) ?_
          case ya3 => intro w hSw; (try dsimp only at hSw); go_simp <;> with_reducible rfl
          try simp only [List.getElem_toArray, List.getElem_cons_succ, List.getElem_cons_zero, Act.put, List.setIfInBounds_toArray, List.set_cons_zero, List.set_cons_succ]
          refine wpAnyH_take (i := 4) (v := ?va4) rfl (by kernel_rfl) (by kernel_rfl) (by kernel_rfl) (fun _ _ _ h => h) (Or.inl ⟨by rfl, ?ya4⟩) (by assumption) ?_
          case ya4 => intro w hSw; (try dsimp only at hSw); go_simp <;> with_reducible rfl
          try simp only [List.getElem_toArray, List.getElem_cons_succ, List.getElem_cons_zero, Act.put, List.setIfInBounds_toArray, List.set_cons_zero, List.set_cons_succ]
          refine wpAnyH_take (i := 5) (v := ?va5) rfl (by kernel_rfl) (by kernel_rfl) (by kernel_rfl) (fun _ _ _ h => h) (Or.inl ⟨by rfl, ?ya5⟩) (by assumption) ?_
          case ya5 => intro w hSw; (try dsimp only at hSw); go_simp <;> with_reducible rfl
          try simp only [List.getElem_toArray, List.getElem_cons_succ, List.getElem_cons_zero, Act.put, List.setIfInBounds_toArray, List.set_cons_zero, List.set_cons_succ]
          refine wpAnyH_take (i := 6) (v := ?va6) rfl (by kernel_rfl) (by kernel_rfl) (by kernel_rfl) (fun _ _ _ h => h) (Or.inl ⟨by rfl, ?ya6⟩) (by assumption) ?_
          case ya6 => intro w hSw; (try dsimp only at hSw); go_simp <;> with_reducible rfl
          try simp only [List.getElem_toArray, List.getElem_cons_succ, List.getElem_cons_zero, Act.put, List.setIfInBounds_toArray, List.set_cons_zero, List.set_cons_succ]
          refine wpAnyH_take (i := 7) (v := ?va7) rfl (by kernel_rfl) (by kernel_rfl) (by kernel_rfl) (fun _ _ _ h => h) (Or.inl ⟨by rfl, ?ya7⟩) (by assumption) ?_
          case ya7 => intro w hSw; (try dsimp only at hSw); go_simp <;> with_reducible rfl
          try simp only [List.getElem_toArray, List.getElem_cons_succ, List.getElem_cons_zero, Act.put, List.setIfInBounds_toArray, List.set_cons_zero, List.set_cons_succ]
          refine wpAnyH_take (i := 8) (v := ?va8) rfl (by kernel_rfl) (by kernel_rfl) (by kernel_rfl) (fun _ _ _ h => h) (Or.inl ⟨by rfl, ?ya8⟩) (by assumption) ?_
          case ya8 => intro w hSw; (try dsimp only at hSw); go_simp <;> with_reducible rfl
          try simp only [List.getElem_toArray, List.getElem_cons_succ, List.getElem_cons_zero, Act.put, List.setIfInBounds_toArray, List.set_cons_zero, List.set_cons_succ]
          refine wpAnyH_take (i := 9) (v := ?va9) rfl (by kernel_rfl) (by kernel_rfl) (by kernel_rfl) (fun _ _ _ h => h) (Or.inl ⟨by rfl, ?ya9⟩) (by assumption) ?_
          case ya9 => intro w hSw; (try dsimp only at hSw); go_simp <;> with_reducible rfl
          try simp only [List.getElem_toArray, List.getElem_cons_succ, List.getElem_cons_zero, Act.put, List.setIfInBounds_toArray, List.set_cons_zero, List.set_cons_succ]
          refine wpAnyH_take (i := 10) (v := ?va10) rfl (by kernel_rfl) (by kernel_rfl) (by kernel_rfl) (fun _ _ _ h => h) (Or.inl ⟨by rfl, ?ya10⟩) (by assumption) ?_
          case ya10 => intro w hSw; (try dsimp only at hSw); go_simp <;> with_reducible rfl
          try simp only [List.getElem_toArray, List.getElem_cons_succ, List.getElem_cons_zero, Act.put, List.setIfInBounds_toArray, List.set_cons_zero, List.set_cons_succ]
          refine wpAnyH_take (i := 11) (v := ?va11) rfl (by kernel_rfl) (by kernel_rfl) (by kernel_rfl) (fun _ _ _ h => h) (Or.inl ⟨by rfl, ?ya11⟩) (by assumption) ?_
          case ya11 => intro w hSw; (try dsimp only at hSw); go_simp <;> with_reducible rfl
          try simp only [List.getElem_toArray, List.getElem_cons_succ, List.getElem_cons_zero, Act.put, List.setIfInBounds_toArray, List.set_cons_zero, List.set_cons_succ]
          refine wpAnyH_take (i := 12) (v := ?va12) rfl (by kernel_rfl) (by kernel_rfl) (by kernel_rfl) (fun _ _ _ h => h) (Or.inl ⟨by rfl, ?ya12⟩) (by assumption) ?_
          case ya12 => intro w hSw; (try dsimp only at hSw); go_simp <;> with_reducible rfl
          try simp only [List.getElem_toArray, List.getElem_cons_succ, List.getElem_cons_zero, Act.put, List.setIfInBounds_toArray, List.set_cons_zero, List.set_cons_succ]
          refine wpAnyH_take (i := 13) (v := ?va13) rfl (by kernel_rfl) (by kernel_rfl) (by kernel_rfl) (fun _ _ _ h => h) (Or.inl ⟨by rfl, ?ya13⟩) (by assumption) ?_
          case ya13 => intro w hSw; (try dsimp only at hSw); go_simp <;> with_reducible rfl
          try simp only [List.getElem_toArray, List.getElem_cons_succ, List.getElem_cons_zero, Act.put, List.setIfInBounds_toArray, List.set_cons_zero, List.set_cons_succ]
          refine wpAnyH_take (i := 14) (v := ?va14) rfl (by kernel_rfl) (by kernel_rfl) (by kernel_rfl) (fun _ _ _ h => h) (Or.inl ⟨by rfl, ?ya14⟩) (by assumption) ?_
          case ya14 => intro w hSw; (try dsimp only at hSw); go_simp <;> with_reducible rfl
          try simp only [List.getElem_toArray, List.getElem_cons_succ, List.getElem_cons_zero, Act.put, List.setIfInBounds_toArray, List.set_cons_zero, List.set_cons_succ]
          refine wpAnyH_take (i := 15) (v := ?va15) rfl (by kernel_rfl) (by kernel_rfl) (by kernel_rfl) (fun _ _ _ h => h) (Or.inl ⟨by rfl, ?ya15⟩) (by assumption) ?_
          case ya15 => intro w hSw; (try dsimp only at hSw); go_simp <;> with_reducible rfl
          try simp only [List.getElem_toArray, List.getElem_cons_succ, List.getElem_cons_zero, Act.put, List.setIfInBounds_toArray, List.set_cons_zero, List.set_cons_succ]
          refine wpAnyH_take (i := 16) (v := ?va16) rfl (by kernel_rfl) (by kernel_rfl) (by kernel_rfl) (fun _ _ _ h => h) (Or.inl ⟨by rfl, ?ya16⟩) (by assumption) ?_
          case ya16 => intro w hSw; (try dsimp only at hSw); go_simp <;> with_reducible rfl
          try simp only [List.getElem_toArray, List.getElem_cons_succ, List.getElem_cons_zero, Act.put, List.setIfInBounds_toArray, List.set_cons_zero, List.set_cons_succ]
          refine wpAnyH_take (i := 17) (v := ?va17) rfl (by kernel_rfl) (by kernel_rfl) (by kernel_rfl) (fun _ _ _ h => h) (Or.inl ⟨by rfl, ?ya17⟩) (by assumption) ?_
          case ya17 => intro w hSw; (try dsimp only at hSw); go_simp <;> with_reducible rfl
          try simp only [List.getElem_toArray, List.getElem_cons_succ, List.getElem_cons_zero, Act.put, List.setIfInBounds_toArray, List.set_cons_zero, List.set_cons_succ]
          refine wpAnyH_take (i := 18) (v := ?va18) rfl (by kernel_rfl) (by kernel_rfl) (by kernel_rfl) (fun _ _ _ h => h) (Or.inl ⟨by rfl, ?ya18⟩) (by assumption) ?_
          case ya18 => intro w hSw; (try dsimp only at hSw); go_simp <;> with_reducible rfl
          try simp only [List.getElem_toArray, List.getElem_cons_succ, List.getElem_cons_zero, Act.put, List.setIfInBounds_toArray, List.set_cons_zero, List.set_cons_succ]
          refine wpAnyH_take (i := 21) (v := ?va21) rfl (by kernel_rfl) (by kernel_rfl) (by kernel_rfl) (fun _ _ _ h => h) (Or.inl ⟨by rfl, ?ya21⟩) (by assumption) ?_
          case ya21 => intro w hSw; (try dsimp only at hSw); go_simp <;> with_reducible rfl
          try simp only [List.getElem_toArray, List.getElem_cons_succ, List.getElem_cons_zero, Act.put, List.setIfInBounds_toArray, List.set_cons_zero, List.set_cons_succ]
          refine wpAnyH_take (i := 22) (v := ?va22) rfl (by kernel_rfl) (by kernel_rfl) (by kernel_rfl) (fun _ _ _ h => h) (Or.inl ⟨by rfl, ?ya22⟩) (by assumption) ?_
          case ya22 => intro w hSw; (try dsimp only at hSw); go_simp <;> with_reducible rfl
          try simp only [List.getElem_toArray, List.getElem_cons_succ, List.getElem_cons_zero, Act.put, List.setIfInBounds_toArray, List.set_cons_zero, List.set_cons_succ]
          refine wpAnyH_take (i := 23) (v := ?va23) rfl (by kernel_rfl) (by kernel_rfl) (by kernel_rfl) (fun _ _ _ h => h) (Or.inl ⟨by rfl, ?ya23⟩) (by assumption) ?_
          case ya23 => intro w hSw; (try dsimp only at hSw); go_simp <;> with_reducible rfl
          try simp only [List.getElem_toArray, List.getElem_cons_succ, List.getElem_cons_zero, Act.put, List.setIfInBounds_toArray, List.set_cons_zero, List.set_cons_succ]
          refine wpAnyH_ready (rs := [19]) (by kernel_rfl) (by simp) ?_
          refine AllReadyH.cons rfl (fun K hK => ?_) ?za19
          case za19 => exact AllReadyH.nil
          go_simp
          refine (E1.out _).mono ?_
          rintro e w9 ⟨rfl, b9⟩
          refine hK.out _ _ (keepR1 QR.out PB.out b9 hHeld.1) (fun hNew => ?_)
          clear hHeld b9
          have hHeld := hNew
          clear hNew hK K
          try simp only [List.getElem_toArray, List.getElem_cons_succ, List.getElem_cons_zero, Act.put, List.setIfInBounds_toArray, List.set_cons_zero, List.set_cons_succ]
          refine wpAnyH_take (i := 20) (v := ?va20) rfl (by kernel_rfl) (by kernel_rfl) (by kernel_rfl) (fun _ _ _ h => h) (Or.inl ⟨by rfl, ?ya20⟩) (by assumption) ?_
          case ya20 => intro w hSw; (try dsimp only at hSw); go_simp <;> with_reducible rfl
          try simp only [List.getElem_toArray, List.getElem_cons_succ, List.getElem_cons_zero, Act.put, List.setIfInBounds_toArray, List.set_cons_zero, List.set_cons_succ]
          refine wpAnyH_take (i := 24) (v := ?va24) rfl (by kernel_rfl) (by kernel_rfl) (by kernel_rfl) (fun _ _ _ h => h) (Or.inl ⟨by rfl, ?ya24⟩) (by assumption) ?_
          case ya24 => intro w hSw; (try dsimp only at hSw); go_simp <;> with_reducible rfl
          try simp only [List.getElem_toArray, List.getElem_cons_succ, List.getElem_cons_zero, Act.put, List.setIfInBounds_toArray, List.set_cons_zero, List.set_cons_succ]
          refine wpAnyH_take (i := 25) (v := ?va25) rfl (by kernel_rfl) (by kernel_rfl) (by kernel_rfl) (fun _ _ _ h => h) (Or.inl ⟨by rfl, ?ya25⟩) (by assumption) ?_
          case ya25 => intro w hSw; (try dsimp only at hSw); go_simp <;> with_reducible rfl
          try simp only [List.getElem_toArray, List.getElem_cons_succ, List.getElem_cons_zero, Act.put, List.setIfInBounds_toArray, List.set_cons_zero, List.set_cons_succ]
          refine wpAnyH_done (by kernel_rfl) ?_ _
          go_wp2_with fail
          go_meet
          exact ⟨rfl, hHeld.1⟩
        · have a3 : (z + 1 == (t : Int)) = false := by simp; omega
          have hf : qb = false := by rw [hq2]; exact decide_eq_false hs
          subst hf
          clear hq hq2 hs
          go_wp2_with fail
          refine wp_region_held_drew (S := fun w' => Below w2.heap.size w2 w' ∧ w'.cell? ⟨b, off + k * 3, none⟩ = some (.int .u32 (xt : Int)) ∧ w'.cell? ⟨b, off + k * 3 + 1, none⟩ = some (.int .u8 (xr : Int)) ∧ w'.cell? ⟨b, off + k * 3 + 2, none⟩ = some (.int .i64 xm) ∧ w'.cell? ⟨w.heap.size, 0, none⟩ = some (.int .u32 (t : Int)) ∧ w'.cell? ⟨w.heap.size, 1, none⟩ = some (.int .u8 (xr : Int))) (by kernel_rfl) (keepR1 QR.out PB.out (drew1 _) (Below.refl _ _)) (fun hHeld => ?_)
          refine wpAnyH_take (i := 0) (v := ?vb0) rfl (by kernel_rfl) (by kernel_rfl) (by kernel_rfl) (fun _ _ _ h => h) (Or.inl ⟨by rfl, ?yb0⟩) (by assumption) ?_
          case yb0 => intro w hSw; (try dsimp only at hSw); go_simp <;> with_reducible rfl
          try simp only [List.getElem_toArray, List.getElem_cons_zero, Act.put, List.setIfInBounds_toArray, List.set_cons_zero, List.set_cons_succ]
          refine wpAnyH_take (i := 1) (v := ?vb1) rfl (by kernel_rfl) (by kernel_rfl) (by kernel_rfl) (fun _ _ _ h => h) (Or.inl ⟨by rfl, ?yb1⟩) (by assumption) ?_
          case yb1 => intro w hSw; (try dsimp only at hSw); go_simp <;> with_reducible rfl
          try simp only [List.getElem_toArray, List.getElem_cons_succ, List.getElem_cons_zero, Act.put, List.setIfInBounds_toArray, List.set_cons_zero, List.set_cons_succ]
          refine wpAnyH_take (i := 2) (v := ?vb2) rfl (by kernel_rfl) (by kernel_rfl) (by kernel_rfl) (fun _ _ _ h => h) (Or.inl ⟨by rfl, ?yb2⟩) (by assumption) ?_
          case yb2 => intro w hSw; (try dsimp only at hSw); go_simp <;> with_reducible rfl
          try simp only [List.getElem_toArray, List.getElem_cons_succ, List.getElem_cons_zero, Act.put, List.setIfInBounds_toArray, List.set_cons_zero, List.set_cons_succ]
          refine wpAnyH_take (i := 3) (v := ?vb3) rfl (by kernel_rfl) (by kernel_rfl) (by kernel_rfl) (fun _ _ _ h => h) (Or.inl ⟨by rfl, ?yb3⟩) (by assumption) ?_
          case yb3 => intro w hSw; (try dsimp only at hSw); go_simp <;> with_reducible rfl
          try simp only [List.getElem_toArray, List.getElem_cons_succ, List.getElem_cons_zero, Act.put, List.setIfInBounds_toArray, List.set_cons_zero, List.set_cons_succ]
          refine wpAnyH_take (i := 4) (v := ?vb4) rfl (by kernel_rfl) (by kernel_rfl) (by kernel_rfl) (fun _ _ _ h => h) (Or.inl ⟨by rfl, ?yb4⟩) (by assumption) ?_
          case yb4 => intro w hSw; (try dsimp only at hSw); go_simp <;> with_reducible rfl
          try simp only [List.getElem_toArray, List.getElem_cons_succ, List.getElem_cons_zero, Act.put, List.setIfInBounds_toArray, List.set_cons_zero, List.set_cons_succ]
          refine wpAnyH_take (i := 5) (v := ?vb5) rfl (by kernel_rfl) (by kernel_rfl) (by kernel_rfl) (fun _ _ _ h => h) (Or.inl ⟨by rfl, ?yb5⟩) (by assumption) ?_
          case yb5 => intro w hSw; (try dsimp only at hSw); go_simp <;> with_reducible rfl
          try simp only [List.getElem_toArray, List.getElem_cons_succ, List.getElem_cons_zero, Act.put, List.setIfInBounds_toArray, List.set_cons_zero, List.set_cons_succ]
          refine wpAnyH_take (i := 6) (v := ?vb6) rfl (by kernel_rfl) (by kernel_rfl) (by kernel_rfl) (fun _ _ _ h => h) (Or.inl ⟨by rfl, ?yb6⟩) (by assumption) ?_
          case yb6 => intro w hSw; (try dsimp only at hSw); go_simp <;> with_reducible rfl
          try simp only [List.getElem_toArray, List.getElem_cons_succ, List.getElem_cons_zero, Act.put, List.setIfInBounds_toArray, List.set_cons_zero, List.set_cons_succ]
          refine wpAnyH_take (i := 7) (v := ?vb7) rfl (by kernel_rfl) (by kernel_rfl) (by kernel_rfl) (fun _ _ _ h => h) (Or.inl ⟨by rfl, ?yb7⟩) (by assumption) ?_
          case yb7 => intro w hSw; (try dsimp only at hSw); go_simp <;> with_reducible rfl
          try simp only [List.getElem_toArray, List.getElem_cons_succ, List.getElem_cons_zero, Act.put, List.setIfInBounds_toArray, List.set_cons_zero, List.set_cons_succ]
          refine wpAnyH_take (i := 8) (v := ?vb8) rfl (by kernel_rfl) (by kernel_rfl) (by kernel_rfl) (fun _ _ _ h => h) (Or.inl ⟨by rfl, ?yb8⟩) (by assumption) ?_
          case yb8 => intro w hSw; (try dsimp only at hSw); go_simp <;> with_reducible rfl
          try simp only [List.getElem_toArray, List.getElem_cons_succ, List.getElem_cons_zero, Act.put, List.setIfInBounds_toArray, List.set_cons_zero, List.set_cons_succ]
          refine wpAnyH_take (i := 9) (v := ?vb9) rfl (by kernel_rfl) (by kernel_rfl) (by kernel_rfl) (fun _ _ _ h => h) (Or.inl ⟨by rfl, ?yb9⟩) (by assumption) ?_
          case yb9 => intro w hSw; (try dsimp only at hSw); go_simp <;> with_reducible rfl
          try simp only [List.getElem_toArray, List.getElem_cons_succ, List.getElem_cons_zero, Act.put, List.setIfInBounds_toArray, List.set_cons_zero, List.set_cons_succ]
          refine wpAnyH_take (i := 10) (v := ?vb10) rfl (by kernel_rfl) (by kernel_rfl) (by kernel_rfl) (fun _ _ _ h => h) (Or.inl ⟨by rfl, ?yb10⟩) (by assumption) ?_
          case yb10 => intro w hSw; (try dsimp only at hSw); go_simp <;> with_reducible rfl
          try simp only [List.getElem_toArray, List.getElem_cons_succ, List.getElem_cons_zero, Act.put, List.setIfInBounds_toArray, List.set_cons_zero, List.set_cons_succ]
          refine wpAnyH_take (i := 11) (v := ?vb11) rfl (by kernel_rfl) (by kernel_rfl) (by kernel_rfl) (fun _ _ _ h => h) (Or.inl ⟨by rfl, ?yb11⟩) (by assumption) ?_
          case yb11 => intro w hSw; (try dsimp only at hSw); go_simp <;> with_reducible rfl
          try simp only [List.getElem_toArray, List.getElem_cons_succ, List.getElem_cons_zero, Act.put, List.setIfInBounds_toArray, List.set_cons_zero, List.set_cons_succ]
          refine wpAnyH_take (i := 12) (v := ?vb12) rfl (by kernel_rfl) (by kernel_rfl) (by kernel_rfl) (fun _ _ _ h => h) (Or.inl ⟨by rfl, ?yb12⟩) (by assumption) ?_
          case yb12 => intro w hSw; (try dsimp only at hSw); go_simp <;> with_reducible rfl
          try simp only [List.getElem_toArray, List.getElem_cons_succ, List.getElem_cons_zero, Act.put, List.setIfInBounds_toArray, List.set_cons_zero, List.set_cons_succ]
          refine wpAnyH_take (i := 13) (v := ?vb13) rfl (by kernel_rfl) (by kernel_rfl) (by kernel_rfl) (fun _ _ _ h => h) (Or.inl ⟨by rfl, ?yb13⟩) (by assumption) ?_
          case yb13 => intro w hSw; (try dsimp only at hSw); go_simp <;> with_reducible rfl
          try simp only [List.getElem_toArray, List.getElem_cons_succ, List.getElem_cons_zero, Act.put, List.setIfInBounds_toArray, List.set_cons_zero, List.set_cons_succ]
          refine wpAnyH_take (i := 14) (v := ?vb14) rfl (by kernel_rfl) (by kernel_rfl) (by kernel_rfl) (fun _ _ _ h => h) (Or.inl ⟨by rfl, ?yb14⟩) (by assumption) ?_
          case yb14 => intro w hSw; (try dsimp only at hSw); go_simp <;> with_reducible rfl
          try simp only [List.getElem_toArray, List.getElem_cons_succ, List.getElem_cons_zero, Act.put, List.setIfInBounds_toArray, List.set_cons_zero, List.set_cons_succ]
          refine wpAnyH_take (i := 15) (v := ?vb15) rfl (by kernel_rfl) (by kernel_rfl) (by kernel_rfl) (fun _ _ _ h => h) (Or.inl ⟨by rfl, ?yb15⟩) (by assumption) ?_
          case yb15 => intro w hSw; (try dsimp only at hSw); go_simp <;> with_reducible rfl
          try simp only [List.getElem_toArray, List.getElem_cons_succ, List.getElem_cons_zero, Act.put, List.setIfInBounds_toArray, List.set_cons_zero, List.set_cons_succ]
          refine wpAnyH_take (i := 16) (v := ?vb16) rfl (by kernel_rfl) (by kernel_rfl) (by kernel_rfl) (fun _ _ _ h => h) (Or.inl ⟨by rfl, ?yb16⟩) (by assumption) ?_
          case yb16 => intro w hSw; (try dsimp only at hSw); go_simp <;> with_reducible rfl
          try simp only [List.getElem_toArray, List.getElem_cons_succ, List.getElem_cons_zero, Act.put, List.setIfInBounds_toArray, List.set_cons_zero, List.set_cons_succ]
          refine wpAnyH_take (i := 17) (v := ?vb17) rfl (by kernel_rfl) (by kernel_rfl) (by kernel_rfl) (fun _ _ _ h => h) (Or.inl ⟨by rfl, ?yb17⟩) (by assumption) ?_
          case yb17 => intro w hSw; (try dsimp only at hSw); go_simp <;> with_reducible rfl
          try simp only [List.getElem_toArray, List.getElem_cons_succ, List.getElem_cons_zero, Act.put, List.setIfInBounds_toArray, List.set_cons_zero, List.set_cons_succ]
          refine wpAnyH_take (i := 18) (v := ?vb18) rfl (by kernel_rfl) (by kernel_rfl) (by kernel_rfl) (fun _ _ _ h => h) (Or.inl ⟨by rfl, ?yb18⟩) (by assumption) ?_
          case yb18 => intro w hSw; (try dsimp only at hSw); go_simp <;> with_reducible rfl
          try simp only [List.getElem_toArray, List.getElem_cons_succ, List.getElem_cons_zero, Act.put, List.setIfInBounds_toArray, List.set_cons_zero, List.set_cons_succ]
          refine wpAnyH_take (i := 21) (v := ?vb21) rfl (by kernel_rfl) (by kernel_rfl) (by kernel_rfl) (fun _ _ _ h => h) (Or.inl ⟨by rfl, ?yb21⟩) (by assumption) ?_
          case yb21 => intro w hSw; (try dsimp only at hSw); go_simp <;> with_reducible rfl
          try simp only [List.getElem_toArray, List.getElem_cons_succ, List.getElem_cons_zero, Act.put, List.setIfInBounds_toArray, List.set_cons_zero, List.set_cons_succ]
          refine wpAnyH_take (i := 22) (v := ?vb22) rfl (by kernel_rfl) (by kernel_rfl) (by kernel_rfl) (fun _ _ _ h => h) (Or.inl ⟨by rfl, ?yb22⟩) (by assumption) ?_
          case yb22 => intro w hSw; (try dsimp only at hSw); go_simp <;> with_reducible rfl
          try simp only [List.getElem_toArray, List.getElem_cons_succ, List.getElem_cons_zero, Act.put, List.setIfInBounds_toArray, List.set_cons_zero, List.set_cons_succ]
          refine wpAnyH_take (i := 23) (v := ?vb23) rfl (by kernel_rfl) (by kernel_rfl) (by kernel_rfl) (fun _ _ _ h => h) (Or.inl ⟨by rfl, ?yb23⟩) (by assumption) ?_
          case yb23 => intro w hSw; (try dsimp only at hSw); go_simp <;> with_reducible rfl
          try simp only [List.getElem_toArray, List.getElem_cons_succ, List.getElem_cons_zero, Act.put, List.setIfInBounds_toArray, List.set_cons_zero, List.set_cons_succ]
          refine wpAnyH_ready (rs := [19]) (by kernel_rfl) (by simp) ?_
          refine AllReadyH.cons rfl (fun K hK => ?_) ?zb19
          case zb19 => exact AllReadyH.nil
          go_simp
          refine (E1.out _).mono ?_
          rintro e w9 ⟨rfl, b9⟩
          refine hK.out _ _ (keepR1 QR.out PB.out b9 hHeld.1) (fun hNew => ?_)
          clear hHeld b9
          have hHeld := hNew
          clear hNew hK K
          try simp only [List.getElem_toArray, List.getElem_cons_succ, List.getElem_cons_zero, Act.put, List.setIfInBounds_toArray, List.set_cons_zero, List.set_cons_succ]
          refine wpAnyH_take (i := 20) (v := ?vb20) rfl (by kernel_rfl) (by kernel_rfl) (by kernel_rfl) (fun _ _ _ h => h) (Or.inl ⟨by rfl, ?yb20⟩) (by assumption) ?_
          case yb20 => intro w hSw; (try dsimp only at hSw); go_simp <;> with_reducible rfl
          try simp only [List.getElem_toArray, List.getElem_cons_succ, List.getElem_cons_zero, Act.put, List.setIfInBounds_toArray, List.set_cons_zero, List.set_cons_succ]
          refine wpAnyH_take (i := 24) (v := ?vb24) rfl (by kernel_rfl) (by kernel_rfl) (by kernel_rfl) (fun _ _ _ h => h) (Or.inl ⟨by rfl, ?yb24⟩) (by assumption) ?_
          case yb24 => intro w hSw; (try dsimp only at hSw); go_simp <;> with_reducible rfl
          try simp only [List.getElem_toArray, List.getElem_cons_succ, List.getElem_cons_zero, Act.put, List.setIfInBounds_toArray, List.set_cons_zero, List.set_cons_succ]
          refine wpAnyH_take (i := 25) (v := ?vb25) rfl (by kernel_rfl) (by kernel_rfl) (by kernel_rfl) (fun _ _ _ h => h) (Or.inl ⟨by rfl, ?yb25⟩) (by assumption) ?_
          case yb25 => intro w hSw; (try dsimp only at hSw); go_simp <;> with_reducible rfl
          try simp only [List.getElem_toArray, List.getElem_cons_succ, List.getElem_cons_zero, Act.put, List.setIfInBounds_toArray, List.set_cons_zero, List.set_cons_succ]
          refine wpAnyH_done (by kernel_rfl) ?_ _
          go_wp2_with fail
          go_meet
          exact ⟨rfl, hHeld.1⟩
      · have a2 : ((xr : Int) == (r : Int)) = false := by simp; omega
        have a4 : decide (xr = r) = false := decide_eq_false hrr
        have hf : qb = false := by rw [hq]; exact decide_eq_false (fun h => hrr h.1)
        subst hf
        clear hq hrr
        go_wp2_with fail
        refine wp_region_held_drew (S := fun w' => Below w2.heap.size w2 w' ∧ w'.cell? ⟨b, off + k * 3, none⟩ = some (.int .u32 (xt : Int)) ∧ w'.cell? ⟨b, off + k * 3 + 1, none⟩ = some (.int .u8 (xr : Int)) ∧ w'.cell? ⟨b, off + k * 3 + 2, none⟩ = some (.int .i64 xm) ∧ w'.cell? ⟨w.heap.size, 0, none⟩ = some (.int .u32 (t : Int)) ∧ w'.cell? ⟨w.heap.size, 1, none⟩ = some (.int .u8 (r : Int))) (by kernel_rfl) (keepR1 QR.out PB.out (drew1 _) (Below.refl _ _)) (fun hHeld => ?_)
        refine wpAnyH_take (i := 0) (v := ?vc0) rfl (by kernel_rfl) (by kernel_rfl) (by kernel_rfl) (fun _ _ _ h => h) (Or.inl ⟨by rfl, ?yc0⟩) (by assumption) ?_
        case yc0 => intro w hSw; (try dsimp only at hSw); go_simp <;> with_reducible rfl
        try simp only [List.getElem_toArray, List.getElem_cons_zero, Act.put, List.setIfInBounds_toArray, List.set_cons_zero, List.set_cons_succ]
        refine wpAnyH_take (i := 1) (v := ?vc1) rfl (by kernel_rfl) (by kernel_rfl) (by kernel_rfl) (fun _ _ _ h => h) (Or.inl ⟨by rfl, ?yc1⟩) (by assumption) ?_
        case yc1 => intro w hSw; (try dsimp only at hSw); go_simp <;> with_reducible rfl
        try simp only [List.getElem_toArray, List.getElem_cons_succ, List.getElem_cons_zero, Act.put, List.setIfInBounds_toArray, List.set_cons_zero, List.set_cons_succ]
        refine wpAnyH_take (i := 2) (v := ?vc2) rfl (by kernel_rfl) (by kernel_rfl) (by kernel_rfl) (fun _ _ _ h => h) (Or.inl ⟨by rfl, ?yc2⟩) (by assumption) ?_
        case yc2 => intro w hSw; (try dsimp only at hSw); go_simp <;> with_reducible rfl
        try simp only [List.getElem_toArray, List.getElem_cons_succ, List.getElem_cons_zero, Act.put, List.setIfInBounds_toArray, List.set_cons_zero, List.set_cons_succ]
        refine wpAnyH_take (i := 3) (v := ?vc3) rfl (by kernel_rfl) (by kernel_rfl) (by kernel_rfl) (fun _ _ _ h => h) (Or.inl ⟨by rfl, ?yc3⟩) (by assumption) ?_
        case yc3 => intro w hSw; (try dsimp only at hSw); go_simp <;> with_reducible rfl
        try simp only [List.getElem_toArray, List.getElem_cons_succ, List.getElem_cons_zero, Act.put, List.setIfInBounds_toArray, List.set_cons_zero, List.set_cons_succ]
        refine wpAnyH_take (i := 4) (v := ?vc4) rfl (by kernel_rfl) (by kernel_rfl) (by kernel_rfl) (fun _ _ _ h => h) (Or.inl ⟨by rfl, ?yc4⟩) (by assumption) ?_
        case yc4 => intro w hSw; (try dsimp only at hSw); go_simp <;> with_reducible rfl
        try simp only [List.getElem_toArray, List.getElem_cons_succ, List.getElem_cons_zero, Act.put, List.setIfInBounds_toArray, List.set_cons_zero, List.set_cons_succ]
        refine wpAnyH_take (i := 5) (v := ?vc5) rfl (by kernel_rfl) (by kernel_rfl) (by kernel_rfl) (fun _ _ _ h => h) (Or.inl ⟨by rfl, ?yc5⟩) (by assumption) ?_
        case yc5 => intro w hSw; (try dsimp only at hSw); go_simp <;> with_reducible rfl
        try simp only [List.getElem_toArray, List.getElem_cons_succ, List.getElem_cons_zero, Act.put, List.setIfInBounds_toArray, List.set_cons_zero, List.set_cons_succ]
        refine wpAnyH_take (i := 6) (v := ?vc6) rfl (by kernel_rfl) (by kernel_rfl) (by kernel_rfl) (fun _ _ _ h => h) (Or.inl ⟨by rfl, ?yc6⟩) (by assumption) ?_
        case yc6 => intro w hSw; (try dsimp only at hSw); go_simp <;> with_reducible rfl
        try simp only [List.getElem_toArray, List.getElem_cons_succ, List.getElem_cons_zero, Act.put, List.setIfInBounds_toArray, List.set_cons_zero, List.set_cons_succ]
        refine wpAnyH_take (i := 7) (v := ?vc7) rfl (by kernel_rfl) (by kernel_rfl) (by kernel_rfl) (fun _ _ _ h => h) (Or.inl ⟨by rfl, ?yc7⟩) (by assumption) ?_
        case yc7 => intro w hSw; (try dsimp only at hSw); go_simp <;> with_reducible rfl
        try simp only [List.getElem_toArray, List.getElem_cons_succ, List.getElem_cons_zero, Act.put, List.setIfInBounds_toArray, List.set_cons_zero, List.set_cons_succ]
        refine wpAnyH_take (i := 8) (v := ?vc8) rfl (by kernel_rfl) (by kernel_rfl) (by kernel_rfl) (fun _ _ _ h => h) (Or.inl ⟨by rfl, ?yc8⟩) (by assumption) ?_
        case yc8 => intro w hSw; (try dsimp only at hSw); go_simp <;> with_reducible rfl
        try simp only [List.getElem_toArray, List.getElem_cons_succ, List.getElem_cons_zero, Act.put, List.setIfInBounds_toArray, List.set_cons_zero, List.set_cons_succ]
        refine wpAnyH_take (i := 9) (v := ?vc9) rfl (by kernel_rfl) (by kernel_rfl) (by kernel_rfl) (fun _ _ _ h => h) (Or.inl ⟨by rfl, ?yc9⟩) (by assumption) ?_
        case yc9 => intro w hSw; (try dsimp only at hSw); go_simp <;> with_reducible rfl
        try simp only [List.getElem_toArray, List.getElem_cons_succ, List.getElem_cons_zero, Act.put, List.setIfInBounds_toArray, List.set_cons_zero, List.set_cons_succ]
        refine wpAnyH_take (i := 10) (v := ?vc10) rfl (by kernel_rfl) (by kernel_rfl) (by kernel_rfl) (fun _ _ _ h => h) (Or.inl ⟨by rfl, ?yc10⟩) (by assumption) ?_
        case yc10 => intro w hSw; (try dsimp only at hSw); go_simp <;> with_reducible rfl
        try simp only [List.getElem_toArray, List.getElem_cons_succ, List.getElem_cons_zero, Act.put, List.setIfInBounds_toArray, List.set_cons_zero, List.set_cons_succ]
        refine wpAnyH_take (i := 11) (v := ?vc11) rfl (by kernel_rfl) (by kernel_rfl) (by kernel_rfl) (fun _ _ _ h => h) (Or.inl ⟨by rfl, ?yc11⟩) (by assumption) ?_
        case yc11 => intro w hSw; (try dsimp only at hSw); go_simp <;> with_reducible rfl
        try simp only [List.getElem_toArray, List.getElem_cons_succ, List.getElem_cons_zero, Act.put, List.setIfInBounds_toArray, List.set_cons_zero, List.set_cons_succ]
        refine wpAnyH_take (i := 12) (v := ?vc12) rfl (by kernel_rfl) (by kernel_rfl) (by kernel_rfl) (fun _ _ _ h => h) (Or.inl ⟨by rfl, ?yc12⟩) (by assumption) ?_
        case yc12 => intro w hSw; (try dsimp only at hSw); go_simp <;> with_reducible rfl
        try simp only [List.getElem_toArray, List.getElem_cons_succ, List.getElem_cons_zero, Act.put, List.setIfInBounds_toArray, List.set_cons_zero, List.set_cons_succ]
        refine wpAnyH_take (i := 13) (v := ?vc13) rfl (by kernel_rfl) (by kernel_rfl) (by kernel_rfl) (fun _ _ _ h => h) (Or.inl ⟨by rfl, ?yc13⟩) (by assumption) ?_
        case yc13 => intro w hSw; (try dsimp only at hSw); go_simp <;> with_reducible rfl
        try simp only [List.getElem_toArray, List.getElem_cons_succ, List.getElem_cons_zero, Act.put, List.setIfInBounds_toArray, List.set_cons_zero, List.set_cons_succ]
        refine wpAnyH_take (i := 14) (v := undef) rfl (by kernel_rfl) (by kernel_rfl) (by kernel_rfl) (fun _ _ _ h => h) (Or.inr ⟨by rfl, rfl⟩) (by assumption) ?_
        try simp only [List.getElem_toArray, List.getElem_cons_succ, List.getElem_cons_zero, Act.put, List.setIfInBounds_toArray, List.set_cons_zero, List.set_cons_succ]
        refine wpAnyH_take (i := 15) (v := undef) rfl (by kernel_rfl) (by kernel_rfl) (by kernel_rfl) (fun _ _ _ h => h) (Or.inr ⟨by rfl, rfl⟩) (by assumption) ?_
        try simp only [List.getElem_toArray, List.getElem_cons_succ, List.getElem_cons_zero, Act.put, List.setIfInBounds_toArray, List.set_cons_zero, List.set_cons_succ]
        refine wpAnyH_take (i := 16) (v := undef) rfl (by kernel_rfl) (by kernel_rfl) (by kernel_rfl) (fun _ _ _ h => h) (Or.inr ⟨by rfl, rfl⟩) (by assumption) ?_
        try simp only [List.getElem_toArray, List.getElem_cons_succ, List.getElem_cons_zero, Act.put, List.setIfInBounds_toArray, List.set_cons_zero, List.set_cons_succ]
        refine wpAnyH_take (i := 17) (v := undef) rfl (by kernel_rfl) (by kernel_rfl) (by kernel_rfl) (fun _ _ _ h => h) (Or.inr ⟨by rfl, rfl⟩) (by assumption) ?_
        try simp only [List.getElem_toArray, List.getElem_cons_succ, List.getElem_cons_zero, Act.put, List.setIfInBounds_toArray, List.set_cons_zero, List.set_cons_succ]
        refine wpAnyH_take (i := 18) (v := undef) rfl (by kernel_rfl) (by kernel_rfl) (by kernel_rfl) (fun _ _ _ h => h) (Or.inr ⟨by rfl, rfl⟩) (by assumption) ?_
        try simp only [List.getElem_toArray, List.getElem_cons_succ, List.getElem_cons_zero, Act.put, List.setIfInBounds_toArray, List.set_cons_zero, List.set_cons_succ]
        refine wpAnyH_take (i := 19) (v := undef) rfl (by kernel_rfl) (by kernel_rfl) (by kernel_rfl) (fun _ _ _ h => h) (Or.inr ⟨by rfl, rfl⟩) (by assumption) ?_
        try simp only [List.getElem_toArray, List.getElem_cons_succ, List.getElem_cons_zero, Act.put, List.setIfInBounds_toArray, List.set_cons_zero, List.set_cons_succ]
        refine wpAnyH_take (i := 20) (v := undef) rfl (by kernel_rfl) (by kernel_rfl) (by kernel_rfl) (fun _ _ _ h => h) (Or.inr ⟨by rfl, rfl⟩) (by assumption) ?_
        try simp only [List.getElem_toArray, List.getElem_cons_succ, List.getElem_cons_zero, Act.put, List.setIfInBounds_toArray, List.set_cons_zero, List.set_cons_succ]
        refine wpAnyH_take (i := 21) (v := undef) rfl (by kernel_rfl) (by kernel_rfl) (by kernel_rfl) (fun _ _ _ h => h) (Or.inr ⟨by rfl, rfl⟩) (by assumption) ?_
        try simp only [List.getElem_toArray, List.getElem_cons_succ, List.getElem_cons_zero, Act.put, List.setIfInBounds_toArray, List.set_cons_zero, List.set_cons_succ]
        refine wpAnyH_take (i := 22) (v := undef) rfl (by kernel_rfl) (by kernel_rfl) (by kernel_rfl) (fun _ _ _ h => h) (Or.inr ⟨by rfl, rfl⟩) (by assumption) ?_
        try simp only [List.getElem_toArray, List.getElem_cons_succ, List.getElem_cons_zero, Act.put, List.setIfInBounds_toArray, List.set_cons_zero, List.set_cons_succ]
        refine wpAnyH_take (i := 23) (v := undef) rfl (by kernel_rfl) (by kernel_rfl) (by kernel_rfl) (fun _ _ _ h => h) (Or.inr ⟨by rfl, rfl⟩) (by assumption) ?_
        try simp only [List.getElem_toArray, List.getElem_cons_succ, List.getElem_cons_zero, Act.put, List.setIfInBounds_toArray, List.set_cons_zero, List.set_cons_succ]
        refine wpAnyH_take (i := 24) (v := undef) rfl (by kernel_rfl) (by kernel_rfl) (by kernel_rfl) (fun _ _ _ h => h) (Or.inr ⟨by rfl, rfl⟩) (by assumption) ?_
        try simp only [List.getElem_toArray, List.getElem_cons_succ, List.getElem_cons_zero, Act.put, List.setIfInBounds_toArray, List.set_cons_zero, List.set_cons_succ]
        refine wpAnyH_take (i := 25) (v := ?vc25) rfl (by kernel_rfl) (by kernel_rfl) (by kernel_rfl) (fun _ _ _ h => h) (Or.inl ⟨by rfl, ?yc25⟩) (by assumption) ?_
        case yc25 => intro w hSw; (try dsimp only at hSw); go_simp <;> with_reducible rfl
        try simp only [List.getElem_toArray, List.getElem_cons_succ, List.getElem_cons_zero, Act.put, List.setIfInBounds_toArray, List.set_cons_zero, List.set_cons_succ]
        refine wpAnyH_done (by kernel_rfl) ?_ _
        go_wp2_with fail
        go_meet
        exact ⟨rfl, hHeld.1⟩
  case rest =>
    obtain ⟨rfl, hbw⟩ := hcut
    have OWc : Hid (wc.ownsRow w.heap.size 29 3 (.slice ao n cap) n (runs l)) := own_stays OWN.out hbw
    obtain ⟨_, c0, c1⟩ := PB.out.keeps hbw
    have Bc := Lib.hid (bt B2.out hbw)
    cases qb with
    | false =>
      have hmore : more l ⟨t, r, ht, hr⟩ = l ++ [mkRun t r 1] := by
        have h := HQB.out.symm
        unfold joinsB at h
        unfold more
        rw [if_neg (of_decide_eq_false h)]
      have HMo := Lib.hid hmore
      have HRn : Hid (runs [mkRun t r 1] = [.int .u32 (t : Int), .int .u8 (r : Int), .int .i64 1]) := by
        show _ = _
        rw [runs, mkRun_t ht, mkRun_r hr, mkRun_m (by omega)]; rfl
      have OW6 : Hid ((wc.alloc (.cells #[.int .u32 (t : Int), .int .u8 (r : Int), .int .i64 1] 29)).ownsRow w.heap.size 29 3 (.slice ao n cap) n (runs l)) := own_stays OWc.out ((Below.refl _ _).alloc (Nat.le_refl _) _)
      have S6 : Hid (Sees (wc.alloc (.cells #[.int .u32 (t : Int), .int .u8 (r : Int), .int .i64 1] 29)) (.slice (some ⟨wc.heap.size, 0, none⟩) 1 1) 3 1 (runs [mkRun t r 1])) := by
        rw [HRn.out]
        exact Sees.own (own_blk3 (base := wc.heap.size) (e := 29) (Nat.le_refl _) (blk_new rfl))
      clear hmore hbw
      go_wp2_with (at_builtin; refine wpList_append_sees rfl (.tmp 47) (.tmp 53) 22 29 rfl Try.underlying22 run_info rfl (by decide) w.heap.size _ n _ rfl OW6.out _ 1 _ rfl S6.out (runs_oneCell _) ?k1 ?k2 ?k3 ?_)
      case k1 => omega
      case k2 => omega
      case k3 => have := Bc.out.size; simp; omega
      rintro v1 w1 o1 g1 b1
      have B1 : Hid (Below w.heap.size w w1) := (Bc.out.alloc Bc.out.size _).trans b1
      have O1 := Lib.hid o1
      clear o1 g1 b1
      go_wp2
      go_ret
      refine ⟨_, rfl, ?_, B1.out⟩
      rw [HMo.out]
      have h := O1.out
      rw [← runs_append] at h
      exact Go.Proofs.Ytfhmleigceakjaa.Runs.own h
    | true =>
      have hj := of_decide_eq_true HQB.out.symm
      obtain ⟨k, hk⟩ : ∃ k, n = k + 1 := ⟨n - 1, by have := hj.1; have := HN.out; omega⟩
      have hkl : l.length - 1 = k := by rw [← HN.out, hk]; omega
      have hone := chain_one HC.out (k := k) (by rw [← HN.out]; omega)
      obtain ⟨x, hx⟩ : ∃ x, x = l.getD k zrun := ⟨_, rfl⟩
      rw [← hx] at hone
      have hmore : more l ⟨t, r, ht, hr⟩ = l.take k ++ [mkRun x.t x.r (x.m + 1)] := by
        unfold more
        rw [if_pos hj, hkl, ← hx]
      have hm1 := hone.2.2.2.1
      have hm2 := hone.2.2.2.2.1
      have hset : (runs l).set (k * 3 + 2) (.int .i64 (x.m + 1)) = runs (more l ⟨t, r, ht, hr⟩) := by
        rw [hmore, hx]; exact runs_bump l k (by rw [← HN.out]; omega) (by rw [← hx]; omega)
      have hlen : (more l ⟨t, r, ht, hr⟩).length = n := by rw [hmore]; simp; have := HN.out; omega
      obtain ⟨g, rfl⟩ : ∃ g, ao = some ⟨g, 0, none⟩ := by
        rcases OWc.out.2 with ⟨_, h⟩ | ⟨g, c, cur, h, _⟩
        · omega
        · cases h; exact ⟨g, rfl⟩
      have hg : w.heap.size ≤ g := by
        rcases OWc.out.2 with ⟨_, h⟩ | ⟨g', c, cur, h, h2, _⟩
        · omega
        · cases h; exact h2
      have xm : wc.cell? ⟨g, k * 3 + 2, none⟩ = some (.int .i64 x.m) := by
        rw [OWc.out.cellAt (k * 3 + 2) (by omega), (runs_get l k (by rw [← HN.out]; omega)).2.2, ← hx]
      have xf : wc.frozen? ⟨g, k * 3 + 2, none⟩ = false := OWc.out.frozenAt _
      have HSet := Lib.hid hset
      have HLen := Lib.hid hlen
      obtain ⟨m', hm'⟩ : ∃ m', m' = x.m := ⟨_, rfl⟩
      rw [← hm'] at xm hm1 hm2 HSet
      have w0 : (0 : Int) ≤ (k : Int) := by omega
      have w1 : (k : Int) < (n : Int) := by omega
      have e1 : (n : Int) - 1 = (k : Int) := by omega
      have e2 : IntKind.i64.wrap (k : Int) = (k : Int) := IntWalk.i64_in _ (by omega)
      have e4 : IntKind.i64.wrap (m' + 1) = m' + 1 := IntWalk.i64_in _ (by omega)
      clear hset hmore hj hkl hone hx hlen hk hm' hbw c0 c1
      go_wp2
      go_ret
      refine ⟨_, rfl, ?_, ?_⟩
      · have h := (OWc.out.stored (k * 3 + 2) (.int .i64 (m' + 1))).1
        rw [HSet.out] at h
        exact Go.Proofs.Ytfhmleigceakjaa.Runs.own h
      · exact Bc.out.setCell (p := ⟨g, k * 3 + 2, none⟩) hg _
end Go.Proofs.Ytfhmleigceakjaa.Place
