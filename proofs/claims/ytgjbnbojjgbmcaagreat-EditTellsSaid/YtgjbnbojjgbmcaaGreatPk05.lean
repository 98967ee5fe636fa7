/- octavo/place: Compare, Begins: what each answers. Conditions: the slices' cells are runs. octavo/place.Under: what it answers. Conditions: the slice's cells are runs. The laws' helpers of layer 6: run, of, alive, may; places written out. Conditions: none. The law PlaceOrder: its walk. Conditions: the slices' cells are runs. OpNeeds answers true, and changes nothing that was there. Conditions: none. Live marks are sorted by their places, strictly; what one operation more makes of them. Conditions: none. Homes of places in plain words. Conditions: none. Homes: sections are parts of the order of places, one behind the other. Conditions: none. What counts of what is held, in plain words: places cut, content that is homed, what counts. Conditions: none. Homes: sections and spans, one by one. Conditions: none. What counts is closed; with content, or a mark, more all that counted counts; all co -/
import Derived.Test.YtgjbnbojjgbmcaaGreatChecked
import Derived.WalkKit
import Derived.WalkSpells
import Derived.WalkLawsBesides
import Derived.Laws.BytesArg
import Derived.Lib.Hide
import Derived.Deep.LoopGhost
import Derived.Laws.AppendOwnNone
import Derived.Laws.OwnMore
import Derived.WideShapes
import Derived.Maps.AppendAt
import Derived.RegionTactic
import Derived.Deep.RegionHeld3
import Derived.Deep.DrawnRows
import Derived.Deep.QuietTactic
import Derived.BigQuiet
import Derived.IntWalk
import Derived.ScopeJumps
import Derived.Deep.DeepCutAuto
import Derived.Test.YtgjbnbojjgbmcaaGreatProg
import Derived.LoopTactic
import Derived.Laws.EntriesVeiled
import Derived.RowKit
import Derived.Test.YtgjbnbojjgbmcaaGreatPk03
import Derived.Test.YtgjbnbojjgbmcaaGreatPk02
import Derived.Test.YtgjbnbojjgbmcaaGreatPk01
import Derived.Test.YtgjbnbojjgbmcaaGreatPk04

namespace Go.Proofs.YtgjbnbojjgbmcaaGreat.Place
open Go.RowKit Stamp
attribute [local go_sem ↓] Go.wp_at_zero Go.wp_at_succ
set_option maxRecDepth 100000 in
set_option maxHeartbeats 4000000 in
theorem pCompare_any {a b : Value} {p q : List Run} {w : World} (ha : Runs w a p) (hb : Runs w b q) :
    Calls Tryz.prog 60 #[a, b] w fun e w' => e = .returned (.int .i64 (cmp p q)) ∧ Below w.heap.size w w' := by
  have HA := Lib.hid ha
  have HB := Lib.hid hb
  obtain ⟨pb, hpb⟩ : ∃ pb, anyB p = pb := ⟨_, rfl⟩
  obtain ⟨qb, hqb⟩ : ∃ qb, anyB q = qb := ⟨_, rfl⟩
  have A1 : Hid (∀ W : World, Below w.heap.size w W → Calls Tryz.prog 72 #[a] W fun e w' => e = .returned (.bool pb) ∧ Below W.heap.size W w') := fun W hW => stands_is (HA.out.keeps hW) hpb
  have A2 : Hid (∀ W : World, Below w.heap.size w W → Calls Tryz.prog 72 #[b] W fun e w' => e = .returned (.bool qb) ∧ Below W.heap.size W w') := fun W hW => stands_is (HB.out.keeps hW) hqb
  have HPB := Lib.hid hpb
  have HQB := Lib.hid hqb
  clear ha hb hpb hqb
  cases pb
  · have hz : cmp p q = 0 := by unfold cmp; rw [if_neg (by rw [HPB.out]; simp)]
    rw [hz]
    clear hz
    go_enter Tryz.func60, Tryz.ntmps60
    go_wp2_with fail
    refine (A1.out _ (Below.refl _ _)).mono ?_
    rintro e w1 ⟨rfl, b1⟩
    go_wp2
    go_ret
    exact ⟨rfl, b1⟩
  cases qb
  · have hz : cmp p q = 0 := by unfold cmp; rw [if_neg (by rw [HQB.out]; simp)]
    rw [hz]
    clear hz
    go_enter Tryz.func60, Tryz.ntmps60
    go_wp2_with fail
    refine (A1.out _ (Below.refl _ _)).mono ?_
    rintro e w1 ⟨rfl, b1⟩
    have B1 := Lib.hid b1
    clear b1
    go_wp2_with fail
    refine (A2.out _ B1.out).mono ?_
    rintro e w2 ⟨rfl, b2⟩
    have B2 := Lib.hid (bt B1.out b2)
    clear b2
    go_wp2
    go_ret
    exact ⟨rfl, B2.out⟩
  have hz : cmp p q = hold (all p) (all q) := by unfold cmp; rw [if_pos ⟨HPB.out, HQB.out⟩]
  have AP : Hid (∀ W : World, Below w.heap.size w W → Calls Tryz.prog 109 #[a, b] W (Parted (hold (all p) (all q)) (first (all p) (all q)) W)) := fun W hW => apart_any (HA.out.keeps hW) (HB.out.keeps hW) ((anyB_iff p).1 HPB.out).chain ((anyB_iff q).1 HQB.out).chain
  rw [hz]
  obtain ⟨h0, hh0⟩ : ∃ h0, h0 = hold (all p) (all q) := ⟨_, rfl⟩
  obtain ⟨f0, hf0⟩ : ∃ f0, f0 = first (all p) (all q) := ⟨_, rfl⟩
  rw [← hh0, ← hf0] at AP
  rw [← hh0]
  clear hz hh0 hf0
  go_enter Tryz.func60, Tryz.ntmps60
  go_wp2_with fail
  refine (A1.out _ (Below.refl _ _)).mono ?_
  rintro e w1 ⟨rfl, b1⟩
  have B1 := Lib.hid b1
  clear b1
  go_wp2_with fail
  refine (A2.out _ B1.out).mono ?_
  rintro e w2 ⟨rfl, b2⟩
  have B2 := Lib.hid (bt B1.out b2)
  clear b2
  go_wp2_with fail
  refine (AP.out _ B2.out).mono ?_
  rintro e w3 ⟨x, y, rfl, he, hf, b3⟩
  have B3 := Lib.hid (bt B2.out b3)
  clear b3 AP hf A1 A2 B1 B2
  obtain ⟨t1, r1, m1, ht1, hr1, hm1⟩ := x
  obtain ⟨t2, r2, m2, ht2, hr2, hm2⟩ := y
  unfold ends at he
  simp only at he ⊢
  obtain ⟨wl, hwl⟩ : ∃ wl, wl = (w3.alloc (.cells #[.int .u32 (t1 : Int), .int .u8 (r1 : Int), .int .i64 m1] 32)).alloc (.cells #[.int .u32 (t2 : Int), .int .u8 (r2 : Int), .int .i64 m2] 32) := ⟨_, rfl⟩
  have PA : Hid (Tri wl w3.heap.size (.int .u32 (t1 : Int)) (.int .u8 (r1 : Int)) (.int .i64 m1)) := by
    rw [hwl]
    exact (tri_new w3 (.int .u32 (t1 : Int)) (.int .u8 (r1 : Int)) (.int .i64 m1) 32).keeps ((Below.refl _ _).alloc (Nat.le_refl _) _)
  have PB : Hid (Tri wl (w3.heap.size + 1) (.int .u32 (t2 : Int)) (.int .u8 (r2 : Int)) (.int .i64 m2)) := by
    have := tri_new (w3.alloc (.cells #[.int .u32 (t1 : Int), .int .u8 (r1 : Int), .int .i64 m1] 32)) (.int .u32 (t2 : Int)) (.int .u8 (r2 : Int)) (.int .i64 m2) 32
    rw [hwl]
    unfold Hid
    simpa using this
  have BL : Hid (Below w.heap.size w wl) := by rw [hwl]; exact (B3.out.alloc B3.out.size _).alloc (Nat.le_trans B3.out.size (by simp)) _
  by_cases hm1z : m1 = 0
  · rw [if_pos hm1z] at he
    by_cases hm2z : m2 = 0
    · rw [if_pos hm2z] at he
      simp only at he
      subst hm1z hm2z he
      go_wp2
      rw [← hwl]
      go_ret
      exact ⟨rfl, BL.out⟩
    · rw [if_neg hm2z] at he
      simp only at he
      have u1 : (m2 == 0) = false := by simpa using hm2z
      subst hm1z he
      go_wp2
      rw [← hwl]
      go_ret
      exact ⟨rfl, BL.out⟩
  · rw [if_neg hm1z] at he
    have u1 : (m1 == 0) = false := by simpa using hm1z
    by_cases hm2z : m2 = 0
    · rw [if_pos hm2z] at he
      simp only at he
      subst hm2z he
      go_wp2
      rw [← hwl]
      go_ret
      exact ⟨rfl, BL.out⟩
    · rw [if_neg hm2z] at he
      have u2 : (m2 == 0) = false := by simpa using hm2z
      have LS := Lib.hid (less_any t2 r2 t1 r1 ht2 hr2 ht1 hr1)
      have F1 := Lib.hid (firstOf_any t1 r1 m1)
      have F2 := Lib.hid (firstOf_any t2 r2 m2)
      obtain ⟨lb, hlb⟩ : ∃ lb, less t2 r2 t1 r1 = lb := ⟨_, rfl⟩
      rw [hlb] at LS he
      clear hlb hm1z hm2z
      cases lb
      all_goals
        simp only [Bool.false_eq_true, if_false, if_true] at he
        subst he
        go_wp2
        rw [← hwl]
        clear hwl
        go_region_held3 (fun w' => Below wl.heap.size wl w' ∧ w'.cell? ⟨w3.heap.size, 0, none⟩ = some (.int .u32 (t1 : Int)) ∧ w'.cell? ⟨w3.heap.size, 1, none⟩ = some (.int .u8 (r1 : Int)) ∧ w'.cell? ⟨w3.heap.size, 2, none⟩ = some (.int .i64 m1) ∧ w'.cell? ⟨w3.heap.size + 1, 0, none⟩ = some (.int .u32 (t2 : Int)) ∧ w'.cell? ⟨w3.heap.size + 1, 1, none⟩ = some (.int .u8 (r2 : Int)) ∧ w'.cell? ⟨w3.heap.size + 1, 2, none⟩ = some (.int .i64 m2))
          (first | exact keepT2 PA.out PB.out (drew1 _) (Below.refl _ _) | (go_split_ands; exact keepT2 PA.out PB.out (drew1 _) (by assumption)) | (go_split_ands; exact keepT2 PA.out PB.out (by assumption) (by assumption)))
          ((first | (go_at_call 111; (with_reducible refine (firstOf_any _ _ _ _).mono ?_); rintro e w4 ⟨rfl, b4⟩) | (go_at_call 110; (with_reducible refine (LS.out _).mono ?_); rintro e w6 ⟨rfl, b6⟩)))
      all_goals
        go_wp2
        go_ret
        go_split_ands
        exact ⟨rfl, BL.out.trans (Below.mono (by assumption) BL.out.size)⟩
end Go.Proofs.YtgjbnbojjgbmcaaGreat.Place

namespace Go.Proofs.YtgjbnbojjgbmcaaGreat.Place
open Go.RowKit Stamp
attribute [local go_sem ↓] Go.wp_at_zero Go.wp_at_succ
attribute [local go_sem] yielded_undef
/-- What Under answers: a row of its own, and an error. -/
def Undone (l : List Run) (c : Int) (w : World) (e : Ending) (w' : World) : Prop :=
  ∃ ao cap, e = .returned (.tuple #[.slice ao l.length cap, .int .i64 c]) ∧ w'.ownsRow w.heap.size 32 3 (.slice ao l.length cap) l.length (runs l) ∧ Below w.heap.size w w'
theorem keepR2 {wl w1 w2 : World} {b o1 o2 o3 h2 : Nat} {c1 c2 c3 d0 d1 : Value} (q : Mid3 wl b o1 o2 o3 c1 c2 c3) (p2 : Pair wl h2 d0 d1) (h : Below w1.heap.size w1 w2) (hb : Below wl.heap.size wl w1) :
    Below wl.heap.size wl w2 ∧ w2.cell? ⟨b, o1, none⟩ = some c1 ∧ w2.cell? ⟨b, o2, none⟩ = some c2 ∧ w2.cell? ⟨b, o3, none⟩ = some c3 ∧ w2.cell? ⟨h2, 0, none⟩ = some d0 ∧ w2.cell? ⟨h2, 1, none⟩ = some d1 :=
  have a := bt hb h
  ⟨a, (q.keeps a).2.1, (q.keeps a).2.2.1, (q.keeps a).2.2.2, (p2.keeps a).2.1, (p2.keeps a).2.2⟩
set_option maxRecDepth 100000 in
set_option maxHeartbeats 8000000 in
theorem pUnder_any {v : Value} {l : List Run} {a : Id} {w : World} (hv : Runs w v l) :
    Calls Tryz.prog 35 #[v, .agg #[.int .u32 (a.t : Int), .int .u8 (a.r : Int)]] w (Undone (und l a).1 (und l a).2 w) := by
  obtain ⟨t, r, ht, hr⟩ := a
  simp only
  obtain ⟨ao, cap, rfl⟩ := hv.shape
  obtain ⟨n, hn⟩ : ∃ n, n = l.length := ⟨_, rfl⟩
  have HN := Lib.hid hn
  have HV : Hid (Runs w (.slice ao n cap) l) := by rw [hn]; exact hv
  rw [← hn]
  have BX := Lib.hid ((Below.refl w.heap.size w).alloc (Nat.le_refl _) (.cells #[.int .u32 (t : Int), .int .u8 (r : Int)] 28))
  obtain ⟨ab, hab⟩ : ∃ ab, anyB l = ab := ⟨_, rfl⟩
  obtain ⟨mb, hmb⟩ : ∃ mb, may t r = mb := ⟨_, rfl⟩
  have A1 : Hid (∀ W : World, Below w.heap.size w W → Calls Tryz.prog 72 #[.slice ao n cap] W fun e w' => e = .returned (.bool ab) ∧ Below W.heap.size W w') := fun W hW => stands_is (HV.out.keeps hW) hab
  have M1 : Hid (∀ W : World, Calls Tryz.prog 73 #[.agg #[.int .u32 (t : Int), .int .u8 (r : Int)]] W fun e w' => e = .returned (.int .i64 (if mb = true then 0 else 8)) ∧ Below W.heap.size W w') := fun W => by
    have := Stamp.check_any t r W
    unfold Stamp.chk at this
    rwa [hmb] at this
  have HAB := Lib.hid hab
  have HMB := Lib.hid hmb
  obtain ⟨L, c, hund⟩ : ∃ L c, und l ⟨t, r, ht, hr⟩ = (L, c) := ⟨_, _, rfl⟩
  rw [hund]
  have HU := Lib.hid hund
  clear hv hn hab hmb hund
  simp only
  cases ab with
  | false =>
    have hLc : L = [] ∧ c = 8 := by
      have h := HU.out
      unfold und at h
      rw [if_pos (.inl HAB.out)] at h
      exact ⟨(Prod.mk.inj h).1.symm, (Prod.mk.inj h).2.symm⟩
    obtain ⟨rfl, rfl⟩ := hLc
    go_enter Tryz.func35, Tryz.ntmps35
    go_wp2_with fail
    refine (A1.out _ BX.out).mono ?_
    rintro e w1 ⟨rfl, b1⟩
    have B1 := Lib.hid (below_of3 b1)
    clear b1
    go_wp2
    go_ret2
    exact ⟨none, 0, rfl, World.ownsRow_nil _ _ _ _, B1.out⟩
  | true =>
    cases mb with
    | false =>
      have hLc : L = [] ∧ c = 8 := by
        have h := HU.out
        unfold und at h
        rw [if_pos (.inr HMB.out)] at h
        exact ⟨(Prod.mk.inj h).1.symm, (Prod.mk.inj h).2.symm⟩
      obtain ⟨rfl, rfl⟩ := hLc
      simp only [Bool.false_eq_true, if_false] at M1
      go_enter Tryz.func35, Tryz.ntmps35
      go_wp2_with fail
      refine (A1.out _ BX.out).mono ?_
      rintro e w1 ⟨rfl, b1⟩
      obtain ⟨x0, x1, _, _⟩ := two_cells b1
      have B1 := Lib.hid (below_of3 b1)
      clear b1
      go_wp2_with fail
      refine (M1.out _).mono ?_
      rintro e w2 ⟨rfl, b2⟩
      have B2 := Lib.hid (bt B1.out b2)
      clear b2 x0 x1
      go_wp2
      go_ret2
      exact ⟨none, 0, rfl, World.ownsRow_nil _ _ _ _, B2.out⟩
    | true =>
      simp only [if_true] at M1
      have hAny := (anyB_iff l).1 HAB.out
      have hch := hAny.chain
      have hmay := may_iff.1 HMB.out
      have hlen := hAny.len
      -- the last stamp's time, and whether the new one is greater
      obtain ⟨z, hz⟩ : ∃ z, z = (lastV l).1 := ⟨_, rfl⟩
      obtain ⟨z2, hz2⟩ : ∃ z2, z2 = (lastV l).2 := ⟨_, rfl⟩
      have LA : Hid (∀ W : World, Below w.heap.size w W → Calls Tryz.prog 74 #[.slice ao n cap] W fun e w' => e = .returned (.agg #[.int .u32 z, .int .u8 z2]) ∧ Below W.heap.size W w') := fun W hW => by
        rw [hz, hz2]; exact pLast_any (HV.out.keeps hW)
      obtain ⟨q, hq⟩ : ∃ q, decide ((t : Int) ≤ z) = q := ⟨_, rfl⟩
      have hql : q = decide (0 < l.length ∧ (t : Int) ≤ fin (l.getD (l.length - 1) zrun)) := by
        rw [← hq, decide_eq_decide, hz]
        unfold lastV
        by_cases hm : mayB l = true
        · rw [if_pos hm]
          have := ((mayB_iff l).1 hm).1
          simp only
          unfold fin
          omega
        · rw [if_neg hm]
          have : l = [] := by
            rcases hAny with h | h
            · exact h
            · exact absurd ((mayB_iff l).2 h) hm
          subst this
          simp
          omega
      have HQ := Lib.hid hql
      have hf0 : ∀ W : World, (Instr.field 28 (.agg #[.int .u32 z, .int .u8 z2]) 0).run Tryz.prog W = .ok (.int .u32 z) W := fun W => field_t _ _ W
      have TW : Hid (∀ W : World, Below w.heap.size w W → Calls Tryz.prog 75 #[.slice ao n cap] W fun e w' => ∃ v', e = .returned v' ∧ w'.ownsRow W.heap.size 32 3 v' n (runs l) ∧ Below W.heap.size W w') := fun W hW => by
        have := ptwin_any (HV.out.keeps hW) (by omega)
        rwa [← HN.out] at this
      have hl64 : n ≤ 64 := by have := HN.out; omega
      have HCh := Lib.hid hch
      have HAny := Lib.hid hAny
      clear hAny hch hmay hlen hz hz2 hql
      cases q
      case true =>
        obtain ⟨rfl, rfl⟩ : L = [] ∧ c = 2 := by
          have h := HU.out
          unfold und at h
          rw [if_neg (by rw [HAB.out]; simp only [HMB.out]; simp), if_pos (of_decide_eq_true HQ.out.symm)] at h
          exact ⟨(Prod.mk.inj h).1.symm, (Prod.mk.inj h).2.symm⟩
        go_enter Tryz.func35, Tryz.ntmps35
        go_wp2_with fail
        refine (A1.out _ BX.out).mono ?_
        rintro e w1 ⟨rfl, b1⟩
        have PB := Lib.hid ((pair_new w (.int .u32 (t : Int)) (.int .u8 (r : Int)) 28).keeps b1)
        have B1 := Lib.hid (below_of3 b1)
        clear b1
        obtain ⟨_, x0, x1⟩ := PB.out
        go_wp2_with fail
        refine (M1.out _).mono ?_
        rintro e w2 ⟨rfl, b2⟩
        have PB2 := Lib.hid (PB.out.keeps b2)
        have B2 := Lib.hid (bt B1.out b2)
        clear b2 x0 x1 PB B1
        go_wp2_with fail
        go_region_held3 (fun w' => Below w2.heap.size w2 w' ∧ w'.cell? ⟨w.heap.size, 0, none⟩ = some (.int .u32 (t : Int)) ∧ w'.cell? ⟨w.heap.size, 1, none⟩ = some (.int .u8 (r : Int)))
          (first | exact keepP1 PB2.out (drew1 _) (Below.refl _ _) | (go_split_ands; exact keepP1 PB2.out (drew1 _) (by assumption)) | (go_split_ands; exact keepP1 PB2.out (by assumption) (by assumption)))
          ((first | (go_at_call 74; go_split_ands; (with_reducible refine (LA.out _ (bt B2.out ?hb)).mono ?_); (case hb => first | assumption | exact Below.drew (by assumption)); rintro e w4 ⟨rfl, b4⟩)))
        go_wp2
        go_ret2
        go_split_ands
        exact ⟨none, 0, rfl, World.ownsRow_nil _ _ _ _, bt B2.out (by assumption)⟩
      case false =>
        have HU2 : Hid ((if mayB (more l ⟨t, r, ht, hr⟩) = true then (more l ⟨t, r, ht, hr⟩, (0 : Int)) else ([], 60)) = (L, c)) := by
          have h := HU.out
          rw [und_may HAB.out HMB.out (of_decide_eq_false HQ.out.symm)] at h
          exact h
        obtain ⟨qb, hqb⟩ : ∃ qb, qb = joinsB l ⟨t, r, ht, hr⟩ := ⟨_, rfl⟩
        have HQB := Lib.hid hqb
        clear hqb
        go_enter Tryz.func35, Tryz.ntmps35
        go_wp2_with fail
        refine (A1.out _ BX.out).mono ?_
        rintro e w1 ⟨rfl, b1⟩
        have PB := Lib.hid ((pair_new w (.int .u32 (t : Int)) (.int .u8 (r : Int)) 28).keeps b1)
        have B1 := Lib.hid (below_of3 b1)
        clear b1
        obtain ⟨_, x0, x1⟩ := PB.out
        go_wp2_with fail
        refine (M1.out _).mono ?_
        rintro e w2 ⟨rfl, b2⟩
        have PB2 := Lib.hid (PB.out.keeps b2)
        have B2 := Lib.hid (bt B1.out b2)
        clear b2 x0 x1 PB B1
        go_wp2_with fail
        go_region_held3 (fun w' => Below w2.heap.size w2 w' ∧ w'.cell? ⟨w.heap.size, 0, none⟩ = some (.int .u32 (t : Int)) ∧ w'.cell? ⟨w.heap.size, 1, none⟩ = some (.int .u8 (r : Int)))
          (first | exact keepP1 PB2.out (drew1 _) (Below.refl _ _) | (go_split_ands; exact keepP1 PB2.out (drew1 _) (by assumption)) | (go_split_ands; exact keepP1 PB2.out (by assumption) (by assumption)))
          ((first | (go_at_call 74; go_split_ands; (with_reducible refine (LA.out _ (bt B2.out ?hb)).mono ?_); (case hb => first | assumption | exact Below.drew (by assumption)); rintro e w4 ⟨rfl, b4⟩)))
        go_split_ands
        have hS : Below w2.heap.size w2 w4 := by assumption
        have PB4 := Lib.hid (PB2.out.keeps hS)
        have B4 := Lib.hid (bt B2.out hS)
        clear hS hf0 LA A1 M1 PB2 B2 hq
        clear b4
        go_wp2_with fail
        refine (TW.out _ B4.out).mono ?_
        rintro e w5 ⟨v', rfl, own, b5⟩
        obtain ⟨aoC, capC, rfl⟩ := Sees.shape (Sees.own own)
        have OWN : Hid (w5.ownsRow w.heap.size 32 3 (.slice aoC n capC) n (runs l)) := ⟨own.1, own.2.imp_right fun ⟨g, c, cur, h1, h2, h3⟩ => ⟨g, c, cur, h1, Nat.le_trans B4.out.size h2, h3⟩⟩
        have PB5 := Lib.hid (PB4.out.keeps b5)
        have B5 := Lib.hid (bt B4.out b5)
        clear own b5 PB4
        go_wp2_with fail
        go_upto_region 7 with fail
        go_cut [7, 36] (fun p7 p wx => Hid (p7 = .int .i64 ((n : Int) - 1)) ∧ p = .bool qb ∧ Below w5.heap.size w5 wx)
        case first =>
          by_cases h0 : n = 0
          · have hf : qb = false := by rw [HQB.out]; exact decide_eq_false (by rw [← HN.out]; omega)
            have g1 : decide ((0 : Int) ≤ (n : Int) - 1) = false := decide_eq_false (by omega)
            have g2 : decide ((1 : Int) ≤ (n : Int)) = false := decide_eq_false (by omega)
            have g3 : decide (1 ≤ n) = false := decide_eq_false (by omega)
            have g4 : decide (0 < n) = false := decide_eq_false (by omega)
            subst hf
            clear h0
            go_wp2
            go_quiet (fail)
            go_wp2_with fail
            go_meet
            exact ⟨Lib.hid rfl, rfl, below_draw (Below.refl _ _) _⟩
          · obtain ⟨k, hk⟩ : ∃ k, n = k + 1 := ⟨n - 1, by omega⟩
            obtain ⟨b, off, rfl, hb, hx0, hx1, hx2⟩ := (HV.out.keeps B5.out).at k (by rw [← HN.out]; omega)
            have hone := chain_one HCh.out (k := k) (by rw [← HN.out]; omega)
            obtain ⟨x, hx⟩ : ∃ x, x = l.getD k zrun := ⟨_, rfl⟩
            rw [← hx] at hx0 hx1 hx2 hone
            obtain ⟨zz, hzz⟩ : ∃ zz : Nat, (zz : Int) = (x.t : Int) + (x.m - 1) := ⟨((x.t : Int) + (x.m - 1)).toNat, by have := hone.2.2.2.1; omega⟩
            have hgo : goes zz x.r t r = qb := by
              rw [HQB.out]
              unfold goes joinsB
              rw [← HN.out, hk, Nat.add_sub_cancel, ← hx, decide_eq_decide]
              unfold fin
              simp only
              omega
            have GO : Hid (∀ W : World, Calls Tryz.prog 76 #[.agg #[.int .u32 (x.t : Int), .int .u8 (x.r : Int), .int .i64 x.m], .agg #[.int .u32 (t : Int), .int .u8 (r : Int)]] W fun e w' => e = .returned (.bool qb) ∧ Below W.heap.size W w') := fun W => by
              have := goesOn_any x.t x.r x.m zz t r hzz ⟨hone.2.2.2.1, hone.2.2.2.2.1⟩ hone.2.1 W
              rwa [hgo] at this
            have MX : Hid (Mid3 w5 b (off + k * 3) (off + k * 3 + 1) (off + k * 3 + 2) (.int .u32 (x.t : Int)) (.int .u8 (x.r : Int)) (.int .i64 x.m)) := ⟨hb, hx0, hx1, hx2⟩
            obtain ⟨xt, xr, xm, hxt, hxr, hxm⟩ := x
            simp only at GO MX
            have g1 : decide ((0 : Int) ≤ (n : Int) - 1) = true := decide_eq_true (by omega)
            have g2 : decide ((1 : Int) ≤ (n : Int)) = true := decide_eq_true (by omega)
            have g3 : decide (1 ≤ n) = true := decide_eq_true (by omega)
            have i0 : (0 : Int) ≤ (k : Int) := by omega
            have i1 : (k : Int) < (n : Int) := by omega
            have i2 : (n : Int) - 1 = (k : Int) := by omega
            have i3 : decide ((0 : Int) ≤ (k : Int)) = true := decide_eq_true (by omega)
            clear hb hx0 hx1 hx2 hone hx hzz hgo hk h0 hxm
            go_wp2_with fail
            go_region_held3 (fun w' => Below w5.heap.size w5 w' ∧ w'.cell? ⟨b, off + k * 3, none⟩ = some (.int .u32 (xt : Int)) ∧ w'.cell? ⟨b, off + k * 3 + 1, none⟩ = some (.int .u8 (xr : Int)) ∧ w'.cell? ⟨b, off + k * 3 + 2, none⟩ = some (.int .i64 xm) ∧ w'.cell? ⟨w.heap.size, 0, none⟩ = some (.int .u32 (t : Int)) ∧ w'.cell? ⟨w.heap.size, 1, none⟩ = some (.int .u8 (r : Int)))
              (first | exact keepR2 MX.out PB5.out (drew1 _) (Below.refl _ _) | (go_split_ands; exact keepR2 MX.out PB5.out (drew1 _) (by assumption)) | (go_split_ands; exact keepR2 MX.out PB5.out (by assumption) (by assumption)))
              ((first | (go_at_call 76; (with_reducible refine (GO.out _).mono ?_); rintro e w6 ⟨rfl, b6⟩)))
            go_wp2_with fail
            go_meet
            go_split_ands
            exact ⟨by rw [i2]; exact Lib.hid rfl, rfl, by assumption⟩
        case rest =>
          obtain ⟨h7, rfl, hbw⟩ := hcut
          have h7 := h7.out
          subst h7
          have OWc : Hid (wc.ownsRow w.heap.size 32 3 (.slice aoC n capC) n (runs l)) := own_stays OWN.out hbw
          obtain ⟨_, c0, c1⟩ := PB5.out.keeps hbw
          have Bc := Lib.hid (bt B5.out hbw)
          cases qb with
          | false =>
            have hmore : more l ⟨t, r, ht, hr⟩ = l ++ [mkRun t r 1] := by
              have h := HQB.out.symm
              unfold joinsB at h
              unfold more
              rw [if_neg (of_decide_eq_false h)]
            have HMo := Lib.hid hmore
            have HRn : Hid (runs [mkRun t r 1] = [.int .u32 (t : Int), .int .u8 (r : Int), .int .i64 1]) := by
              show _ = _
              rw [runs, mkRun_t ht, mkRun_r hr, mkRun_m (by omega)]; rfl
            have OW6 : Hid ((wc.alloc (.cells #[.int .u32 (t : Int), .int .u8 (r : Int), .int .i64 1] 32)).ownsRow w.heap.size 32 3 (.slice aoC n capC) n (runs l)) := own_stays OWc.out ((Below.refl _ _).alloc (Nat.le_refl _) _)
            have S6 : Hid (Sees (wc.alloc (.cells #[.int .u32 (t : Int), .int .u8 (r : Int), .int .i64 1] 32)) (.slice (some ⟨wc.heap.size, 0, none⟩) 1 1) 3 1 (runs [mkRun t r 1])) := by
              rw [HRn.out]
              exact Sees.own (own_blk3 (base := wc.heap.size) (e := 32) (Nat.le_refl _) (blk_new rfl))
            clear hmore hbw
            go_wp2_with (at_builtin; refine wpList_append_sees rfl (.tmp 45) (.tmp 51) 33 32 rfl Tryz.underlying33 run_info rfl (by decide) w.heap.size _ n _ rfl OW6.out _ 1 _ rfl S6.out (runs_oneCell _) ?k1 ?k2 ?k3 ?_)
            case k1 => omega
            case k2 => omega
            case k3 => have := Bc.out.size; simp; omega
            rintro v1 wx o1 g1 b1
            obtain ⟨aoD, capD, rfl⟩ := Sees.shape (Sees.own o1)
            obtain ⟨NC, hNC⟩ : ∃ NC, NC = n + 1 := ⟨_, rfl⟩
            have OC : Hid (wx.ownsRow w.heap.size 32 3 (.slice aoD NC capD) NC (runs (more l ⟨t, r, ht, hr⟩))) := by
              rw [hNC, HMo.out, runs_append]; exact o1
            have BC : Hid (Below w.heap.size w wx) := (Bc.out.alloc Bc.out.size _).trans b1
            clear o1 g1 b1 OW6 S6 OWc OWN Bc B5
            rw [← hNC]
            clear hNC c0 c1
            have RC : Hid (Runs wx (.slice aoD NC capD) (more l ⟨t, r, ht, hr⟩)) := Runs.own OC.out
            obtain ⟨mb2, hmb2⟩ : ∃ mb2, mayB (more l ⟨t, r, ht, hr⟩) = mb2 := ⟨_, rfl⟩
            have CC : Hid (Calls Tryz.prog 77 #[.slice aoD NC capD] wx fun e w' => e = .returned (.int .i64 (if mb2 = true then 0 else 8)) ∧ Below wx.heap.size wx w') := check_is RC.out (by unfold chk; rw [hmb2])
            have HU3 : Hid ((if mb2 = true then (more l ⟨t, r, ht, hr⟩, (0 : Int)) else ([], 60)) = (L, c)) := by
              have h := HU2.out
              rw [hmb2] at h
              exact h
            have HNC : Hid (NC = (more l ⟨t, r, ht, hr⟩).length) := by have h := OC.out.1; rw [runs_len] at h; show NC = _; omega
            clear hmb2 RC
            cases mb2
            · obtain ⟨rfl, rfl⟩ : L = [] ∧ c = 60 := by
                have h := HU3.out
                simp only [Bool.false_eq_true, if_false] at h
                exact ⟨(Prod.mk.inj h).1.symm, (Prod.mk.inj h).2.symm⟩
              simp only [Bool.false_eq_true, if_false] at CC
              go_wp2_with fail
              refine CC.out.mono ?_
              rintro e w8 ⟨rfl, b8⟩
              have B8 := Lib.hid (BC.out.trans (b8.mono BC.out.size))
              clear b8
              go_wp2
              go_ret2
              exact ⟨none, 0, rfl, World.ownsRow_nil _ _ _ _, B8.out⟩
            · obtain ⟨rfl, rfl⟩ : L = more l ⟨t, r, ht, hr⟩ ∧ c = 0 := by
                have h := HU3.out
                simp only [if_true] at h
                exact ⟨(Prod.mk.inj h).1.symm, (Prod.mk.inj h).2.symm⟩
              simp only [if_true] at CC
              go_wp2_with fail
              refine CC.out.mono ?_
              rintro e w8 ⟨rfl, b8⟩
              have B8 := Lib.hid (BC.out.trans (b8.mono BC.out.size))
              have O8 := Lib.hid (own_stays OC.out b8)
              clear b8
              go_wp2
              go_ret2
              exact ⟨aoD, capD, by rw [← HNC.out]; rfl, by have := O8.out; rwa [HNC.out] at this, B8.out⟩
          | true =>
            have hj := of_decide_eq_true HQB.out.symm
            obtain ⟨k, hk⟩ : ∃ k, n = k + 1 := ⟨n - 1, by have := hj.1; have := HN.out; omega⟩
            have hkl : l.length - 1 = k := by rw [← HN.out, hk]; omega
            have hone := chain_one HCh.out (k := k) (by rw [← HN.out]; omega)
            obtain ⟨x, hx⟩ : ∃ x, x = l.getD k zrun := ⟨_, rfl⟩
            rw [← hx] at hone
            have hmore : more l ⟨t, r, ht, hr⟩ = l.take k ++ [mkRun x.t x.r (x.m + 1)] := by
              unfold more
              rw [if_pos hj, hkl, ← hx]
            have hm1 := hone.2.2.2.1
            have hm2 := hone.2.2.2.2.1
            have hset : (runs l).set (k * 3 + 2) (.int .i64 (x.m + 1)) = runs (more l ⟨t, r, ht, hr⟩) := by
              rw [hmore, hx]; exact runs_bump l k (by rw [← HN.out]; omega) (by rw [← hx]; omega)
            obtain ⟨g, rfl⟩ : ∃ g, aoC = some ⟨g, 0, none⟩ := by
              rcases OWc.out.2 with ⟨_, h⟩ | ⟨g, c, cur, h, _⟩
              · omega
              · cases h; exact ⟨g, rfl⟩
            have hg : w.heap.size ≤ g := by
              rcases OWc.out.2 with ⟨_, h⟩ | ⟨g', c, cur, h, h2, _⟩
              · omega
              · cases h; exact h2
            have xm : wc.cell? ⟨g, k * 3 + 2, none⟩ = some (.int .i64 x.m) := by
              rw [OWc.out.cellAt (k * 3 + 2) (by omega), (runs_get l k (by rw [← HN.out]; omega)).2.2, ← hx]
            have xf : wc.frozen? ⟨g, k * 3 + 2, none⟩ = false := OWc.out.frozenAt _
            obtain ⟨m', hm'⟩ : ∃ m', m' = x.m := ⟨_, rfl⟩
            rw [← hm'] at xm hm1 hm2 hset
            have OC0 : Hid ((wc.setCell ⟨g, k * 3 + 2, none⟩ (.int .i64 (m' + 1))).ownsRow w.heap.size 32 3 (.slice (some ⟨g, 0, none⟩) n capC) n (runs (more l ⟨t, r, ht, hr⟩))) := by
              have h := (OWc.out.stored (k * 3 + 2) (.int .i64 (m' + 1))).1
              rw [hset] at h
              exact h
            have BC0 : Hid (Below w.heap.size w (wc.setCell ⟨g, k * 3 + 2, none⟩ (.int .i64 (m' + 1)))) := Bc.out.setCell (p := ⟨g, k * 3 + 2, none⟩) hg _
            obtain ⟨wx, hwx⟩ : ∃ wx, wx = wc.setCell ⟨g, k * 3 + 2, none⟩ (.int .i64 (m' + 1)) := ⟨_, rfl⟩
            rw [← hwx] at OC0 BC0
            have HWX := Lib.hid hwx
            have BC := BC0
            have OC := OC0
            have w0 : (0 : Int) ≤ (k : Int) := by omega
            have w1 : (k : Int) < (n : Int) := by omega
            have e1 : (n : Int) - 1 = (k : Int) := by omega
            have e2 : IntKind.i64.wrap (k : Int) = (k : Int) := IntWalk.i64_in _ (by omega)
            have e4 : IntKind.i64.wrap (m' + 1) = m' + 1 := IntWalk.i64_in _ (by omega)
            clear hset hmore hj hkl hone hx hk hm' hbw c0 c1 hwx OC0 BC0
            go_wp2_with fail
            rw [← HWX.out]
            have RC : Hid (Runs wx (.slice (some ⟨g, 0, none⟩) n capC) (more l ⟨t, r, ht, hr⟩)) := Runs.own OC.out
            obtain ⟨mb2, hmb2⟩ : ∃ mb2, mayB (more l ⟨t, r, ht, hr⟩) = mb2 := ⟨_, rfl⟩
            have CC : Hid (Calls Tryz.prog 77 #[.slice (some ⟨g, 0, none⟩) n capC] wx fun e w' => e = .returned (.int .i64 (if mb2 = true then 0 else 8)) ∧ Below wx.heap.size wx w') := check_is RC.out (by unfold chk; rw [hmb2])
            have HU3 : Hid ((if mb2 = true then (more l ⟨t, r, ht, hr⟩, (0 : Int)) else ([], 60)) = (L, c)) := by
              have h := HU2.out
              rw [hmb2] at h
              exact h
            have HMC : Hid (n = (more l ⟨t, r, ht, hr⟩).length) := by have h := OC.out.1; rw [runs_len] at h; show n = _; omega
            clear hmb2 RC
            cases mb2
            · obtain ⟨rfl, rfl⟩ : L = [] ∧ c = 60 := by
                have h := HU3.out
                simp only [Bool.false_eq_true, if_false] at h
                exact ⟨(Prod.mk.inj h).1.symm, (Prod.mk.inj h).2.symm⟩
              simp only [Bool.false_eq_true, if_false] at CC
              refine CC.out.mono ?_
              rintro e w8 ⟨rfl, b8⟩
              have B8 := Lib.hid (BC.out.trans (b8.mono BC.out.size))
              clear b8
              go_wp2
              go_ret2
              exact ⟨none, 0, rfl, World.ownsRow_nil _ _ _ _, B8.out⟩
            · obtain ⟨rfl, rfl⟩ : L = more l ⟨t, r, ht, hr⟩ ∧ c = 0 := by
                have h := HU3.out
                simp only [if_true] at h
                exact ⟨(Prod.mk.inj h).1.symm, (Prod.mk.inj h).2.symm⟩
              simp only [if_true] at CC
              refine CC.out.mono ?_
              rintro e w8 ⟨rfl, b8⟩
              have B8 := Lib.hid (BC.out.trans (b8.mono BC.out.size))
              have O8 := Lib.hid (own_stays OC.out b8)
              clear b8
              go_wp2
              go_ret2
              exact ⟨some ⟨g, 0, none⟩, capC, by rw [← HMC.out]; rfl, by have := O8.out; rwa [HMC.out] at this, B8.out⟩
end Go.Proofs.YtgjbnbojjgbmcaaGreat.Place

namespace Go.Proofs.YtgjbnbojjgbmcaaGreat.Place
open Go.RowKit Stamp
attribute [local go_sem ↓] Go.wp_at_zero Go.wp_at_succ
/-- A run written out. -/
def lr (t r m : Nat) (h : t < 4294967296 ∧ r < 256 ∧ m < 10000) : Run := ⟨t, r, m, h.1, h.2.1, by omega⟩
end Go.Proofs.YtgjbnbojjgbmcaaGreat.Place

namespace Go.Proofs.YtgjbnbojjgbmcaaGreat.Place
open Go.RowKit Stamp
attribute [local go_sem ↓] Go.wp_at_zero Go.wp_at_succ
theorem cmp_any {p q : List Run} (hp : anyB p = true) (hq : anyB q = true) : cmp p q = hold (all p) (all q) := by
  unfold cmp; rw [if_pos ⟨hp, hq⟩]
end Go.Proofs.YtgjbnbojjgbmcaaGreat.Place

namespace Go.Proofs.YtgjbnbojjgbmcaaGreat.Ops
open Go.RowKit Stamp Go.Proofs.YtgjbnbojjgbmcaaGreat.Place
attribute [local go_sem ↓] Go.wp_at_zero Go.wp_at_succ
attribute [local go_sem] yielded_undef
/-- The last stamp of a place, by its list. -/
theorem lastV_all {l : List Run} (h : mayB l = true) : lastV l = ((((all l).getD ((all l).length - 1) zid).t : Int), (((all l).getD ((all l).length - 1) zid).r : Int)) := by
  have hp := all_pos h
  refine lastV_of (P := (all l).take ((all l).length - 1)) h ?_
  have := List.take_append_drop ((all l).length - 1) (all l)
  rw [List.drop_eq_getElem_cons (by omega), List.drop_eq_nil_iff.2 (by omega)] at this
  rw [List.getD, List.getElem?_eq_getElem (by omega)]
  exact this.symm
end Go.Proofs.YtgjbnbojjgbmcaaGreat.Ops

namespace Go.Proofs.YtgjbnbojjgbmcaaGreat.Marks
open Ops Stamp Bags Go.Proofs.YtgjbnbojjgbmcaaGreat.Place
def pre (a b : Opn) : Prop := cmp a.pl b.pl < 0
theorem cmp_may {a b : Opn} (ha : mayO a = true) (hb : mayO b = true) : cmp a.pl b.pl = Go.Proofs.YtgjbnbojjgbmcaaGreat.Place.hold (all a.pl) (all b.pl) := by
  unfold cmp; rw [if_pos ⟨anyB_may (mayO_parts ha).2.1, anyB_may (mayO_parts hb).2.1⟩]
theorem hold_val : ∀ l m : List Id, Go.Proofs.YtgjbnbojjgbmcaaGreat.Place.hold l m = -1 ∨ Go.Proofs.YtgjbnbojjgbmcaaGreat.Place.hold l m = 0 ∨ Go.Proofs.YtgjbnbojjgbmcaaGreat.Place.hold l m = 1 := hold_range
theorem pre_iff {a b : Opn} (ha : mayO a = true) (hb : mayO b = true) : pre a b ↔ Go.Proofs.YtgjbnbojjgbmcaaGreat.Place.hold (all a.pl) (all b.pl) = -1 := by
  unfold pre
  rw [cmp_may ha hb]
  have := hold_val (all a.pl) (all b.pl)
  omega
theorem pre_trans {a b c : Opn} (ha : mayO a = true) (hb : mayO b = true) (hc : mayO c = true) (h : pre a b) (k : pre b c) : pre a c := by
  rw [pre_iff ha hb] at h
  rw [pre_iff hb hc] at k
  rw [pre_iff ha hc]
  exact hold_trans _ _ _ h k
theorem pre_irrefl {a : Opn} (ha : mayO a = true) : ¬ pre a a := by
  rw [pre_iff ha ha, (hold_eq _ _).2 rfl]; decide
theorem pre_asymm {a b : Opn} (ha : mayO a = true) (hb : mayO b = true) (h : pre a b) : ¬ pre b a := fun k => pre_irrefl ha (pre_trans ha hb ha h k)
/-- Marks of unlike stamps have unlike places. -/
theorem mark_ne {a b : Opn} (ha : mayO a = true) (hb : mayO b = true) (ka : a.k = 2) (kb : b.k = 2) (h : idO a ≠ idO b) : pre a b ∨ pre b a := by
  rw [pre_iff ha hb, pre_iff hb ha, hold_neg (all a.pl) (all b.pl)]
  have h0 : Go.Proofs.YtgjbnbojjgbmcaaGreat.Place.hold (all a.pl) (all b.pl) ≠ 0 := fun e => by
    have ma := (mayB_iff _).1 (mayO_parts ha).2.1
    have mb := (mayB_iff _).1 (mayO_parts hb).2.1
    have e2 := (hold_same ma.2.2.1 mb.2.2.1).1 e
    apply h
    rw [← mark_tgt ha ka, ← mark_tgt hb kb]
    unfold tgt
    simp only [e2]
  have := hold_val (all a.pl) (all b.pl)
  omega
theorem insM_nil (x : Opn) : insM [] x = [x] := rfl
theorem insM_cons (y : Opn) (out : List Opn) (x : Opn) : insM (y :: out) x = if ahead y x = true then y :: insM out x else x :: y :: out := by
  unfold insM atM
  by_cases h : ahead y x = true
  · rw [if_pos h, List.takeWhile_cons_of_pos (by simpa using h)]; simp
  · rw [if_neg h, List.takeWhile_cons_of_neg (by simpa using h)]; simp
theorem ahead_iff {a b : Opn} : ahead a b = true ↔ pre a b := by unfold ahead pre; exact decide_eq_true_iff
theorem ins_sorted {x : Opn} (hx : mayO x = true) (kx : x.k = 2) : ∀ {out : List Opn}, out.Pairwise pre → (∀ y ∈ out, mayO y = true ∧ y.k = 2) → (∀ y ∈ out, idO y ≠ idO x) → (insM out x).Pairwise pre
  | [], _, _, _ => by rw [insM_nil]; exact List.pairwise_singleton _ _
  | y :: out, hs, hm, hne => by
    have hs' := List.pairwise_cons.1 hs
    have hy := hm y (by simp)
    rw [insM_cons]
    by_cases h : ahead y x = true
    · rw [if_pos h]
      refine List.Pairwise.cons (fun z hz => ?_) (ins_sorted hx kx hs'.2 (fun z hz => hm z (by simp [hz])) (fun z hz => hne z (by simp [hz])))
      rcases mem_insM.1 hz with hz | rfl
      · exact hs'.1 z hz
      · exact ahead_iff.1 h
    · rw [if_neg h]
      have hxy : pre x y := by
        rcases mark_ne hy.1 hx hy.2 kx (hne y (by simp)) with h1 | h1
        · exact absurd (ahead_iff.2 h1) h
        · exact h1
      refine List.Pairwise.cons (fun z hz => ?_) hs
      rcases List.mem_cons.1 hz with rfl | hz
      · exact hxy
      · exact pre_trans hx hy.1 (hm z (by simp [hz])).1 hxy (hs'.1 z hz)
theorem lives_sorted {L : List Opn} : ∀ {l : List Opn}, (∀ o ∈ l, mayO o = true) → l.Pairwise lessO → (livesM L l).Pairwise pre := by
  intro l
  induction l using Clocks.list_snoc_ind with
  | h0 => intro _ _; exact .nil
  | h1 l x ih =>
    intro hm hp
    have hp' := List.pairwise_append.1 hp
    have ih' := ih (fun o ho => hm o (by simp [ho])) hp'.1
    rw [livesM_snoc]
    unfold stepM
    split
    · rename_i h
      refine ins_sorted (hm x (by simp)) h.1 ih' (fun y hy => ?_) (fun y hy => ?_)
      · have := mem_livesM.1 hy; exact ⟨hm y (by simp [this.1]), this.2.1⟩
      · have := mem_livesM.1 hy; exact lessO_ne (hp'.2.2 y this.1 x (by simp))
    · exact ih'
theorem sorted_ext : ∀ {l m : List Opn}, (∀ x ∈ l, mayO x = true) → (∀ x ∈ m, mayO x = true) → l.Pairwise pre → m.Pairwise pre → (∀ x, x ∈ l ↔ x ∈ m) → l = m
  | [], [], _, _, _, _, _ => rfl
  | [], y :: m, _, _, _, _, h => by have := (h y).2 (by simp); simp at this
  | x :: l, [], _, _, _, _, h => by have := (h x).1 (by simp); simp at this
  | x :: l, y :: m, al, am, hl, hm, h => by
    have hl' := List.pairwise_cons.1 hl
    have hm' := List.pairwise_cons.1 hm
    have e : x = y := by
      rcases List.mem_cons.1 ((h x).1 (by simp)) with e | hx
      · exact e
      · rcases List.mem_cons.1 ((h y).2 (by simp)) with e | hy
        · exact e.symm
        · exact absurd (hm'.1 x hx) (pre_asymm (al x (by simp)) (am y (by simp)) (hl'.1 y hy))
    subst e
    rw [sorted_ext (fun z hz => al z (by simp [hz])) (fun z hz => am z (by simp [hz])) hl'.2 hm'.2 (fun z => by
      constructor
      · intro hz
        rcases List.mem_cons.1 ((h z).1 (by simp [hz])) with rfl | hz'
        · exact absurd (hl'.1 z hz) (pre_irrefl (al z (by simp)))
        · exact hz'
      · intro hz
        rcases List.mem_cons.1 ((h z).2 (by simp [hz])) with rfl | hz'
        · exact absurd (hm'.1 z hz) (pre_irrefl (al z (by simp)))
        · exact hz')]
theorem lives_may {L l : List Opn} (hm : ∀ o ∈ l, mayO o = true) : ∀ x ∈ livesM L l, mayO x = true := fun x hx => hm x (mem_livesM.1 hx).1
/-- The live marks are known by which they are. -/
theorem lives_ext {l m : List Opn} (hl : Bag l) (ha : ∀ x ∈ m, mayO x = true) (hs : m.Pairwise pre) (h : ∀ y, y ∈ m ↔ y ∈ l ∧ y.k = 2 ∧ ended l (idO y) = false) : livesM l l = m :=
  sorted_ext (lives_may hl.2.1) ha (lives_sorted hl.2.1 hl.2.2) hs (fun y => mem_livesM.trans (h y).symm)
end Go.Proofs.YtgjbnbojjgbmcaaGreat.Marks

namespace Go.Proofs.YtgjbnbojjgbmcaaGreat.Homes
open Ops Stamp Bags Marks Go.Proofs.YtgjbnbojjgbmcaaGreat.Place
/-- One mark's place is not behind a place. -/
def notBehind (o : Opn) (p : List Run) : Bool := decide (Go.Proofs.YtgjbnbojjgbmcaaGreat.Place.hold (all o.pl) (all p) ≤ 0)
/-- The home of a place, by live marks in order. -/
def homeM (live : List Opn) (p : List Run) : Id := live.foldl (fun s o => if notBehind o p = true then idO o else s) zid
/-- All sections. -/
def sectsM (live : List Opn) : List Id := zid :: live.map idO
theorem sectsM_len (live : List Opn) : (sectsM live).length = live.length + 1 := by simp [sectsM]
/-- The place of a section among all, or how many there are. -/
def whereN (live : List Opn) (s : Id) : Nat := (sectsM live).findIdx (fun x => decide (x = s))
def whereM (live : List Opn) (s : Id) : Int := if whereN live s < live.length + 1 then (whereN live s : Int) else -1
/-- Where a section begins that is at a place among all. -/
def beginM (live : List Opn) (at' : Int) : List Run := if 1 ≤ at' ∧ at' ≤ live.length then (live.getD (at' - 1).toNat ⟨0, 0, 0, [], 0, by decide, by decide, by decide, by decide⟩).pl else []
def fromL (l : List Opn) (s : Id) : List Run := if bagB l = true ∧ 0 ≤ whereM (livesM l l) s then beginM (livesM l l) (whereM (livesM l l) s) else []
def toL (l : List Opn) (s : Id) : List Run := if bagB l = true ∧ 0 ≤ whereM (livesM l l) s then beginM (livesM l l) (whereM (livesM l l) s + 1) else []
def spanE (l : List Opn) (s : Id) : Int := if bagB l = true then (if 0 ≤ whereM (livesM l l) s then 0 else 130) else 8
end Go.Proofs.YtgjbnbojjgbmcaaGreat.Homes

namespace Go.Proofs.YtgjbnbojjgbmcaaGreat.Homes
open Ops Stamp Bags Marks Go.Proofs.YtgjbnbojjgbmcaaGreat.Place
/-- Live marks: in order, of stamps of their own. -/
structure Liv (live : List Opn) : Prop where
  may : ∀ o ∈ live, mayO o = true ∧ o.k = 2
  srt : live.Pairwise pre
  one : live.Pairwise (fun a b => idO a ≠ idO b)
theorem Liv.tail {a : Opn} {live : List Opn} (h : Liv (a :: live)) : Liv live :=
  ⟨fun o ho => h.may o (by simp [ho]), (List.pairwise_cons.1 h.srt).2, (List.pairwise_cons.1 h.one).2⟩
theorem liv_bag {l : List Opn} (h : Bag l) : Liv (livesM l l) := by
  have hs := lives_sorted (L := l) h.2.1 h.2.2
  refine ⟨fun o ho => ⟨h.2.1 o (mem_livesM.1 ho).1, (mem_livesM.1 ho).2.1⟩, hs, ?_⟩
  refine List.Pairwise.imp_of_mem ?_ hs
  intro a b ha hb hp e
  have h1 := findO_mem h.2.2 (mem_livesM.1 ha).1
  have h2 := findO_mem h.2.2 (mem_livesM.1 hb).1
  rw [e, h2] at h1
  injection h1 with h1
  subst h1
  exact pre_irrefl (h.2.1 _ (mem_livesM.1 ha).1) hp
theorem nb_iff0 {o : Opn} {p : List Run} : notBehind o p = true ↔ Go.Proofs.YtgjbnbojjgbmcaaGreat.Place.hold (all o.pl) (all p) ≤ 0 := by unfold notBehind; exact decide_eq_true_iff
theorem nb_mono {a b : Opn} {p : List Run} (ha : mayO a = true) (hb : mayO b = true) (h : pre a b) (hp : notBehind b p = true) : notBehind a p = true := by
  rw [nb_iff0] at hp ⊢
  rw [pre_iff ha hb] at h
  rcases hold_range (all b.pl) (all p) with h1 | h1 | h1
  · have := hold_trans _ _ _ h h1; omega
  · rw [← (hold_eq _ _).1 h1, h]; decide
  · omega
/-- How many marks are not behind a place. -/
def cntM (live : List Opn) (p : List Run) : Nat := (live.takeWhile (fun o => notBehind o p)).length
theorem cntM_le (live : List Opn) (p : List Run) : cntM live p ≤ live.length := (List.takeWhile_sublist _).length_le
theorem cntM_yes {a : Opn} {live : List Opn} {p : List Run} (h : notBehind a p = true) : cntM (a :: live) p = cntM live p + 1 := by
  unfold cntM; rw [List.takeWhile_cons_of_pos (by simpa using h)]; rfl
theorem cntM_no {a : Opn} {live : List Opn} {p : List Run} (h : notBehind a p = false) : cntM (a :: live) p = 0 := by
  unfold cntM; rw [List.takeWhile_cons_of_neg (by simpa using h)]; rfl
theorem nb_iff {p : List Run} : ∀ {live : List Opn}, Liv live → ∀ (i : Nat) (hi : i < live.length), notBehind (live[i]'hi) p = true ↔ i < cntM live p
  | [], _, i, hi => by simp at hi
  | a :: live, h, i, hi => by
    by_cases ha : notBehind a p = true
    · rw [cntM_yes ha]
      cases i with
      | zero => simp [ha]
      | succ i =>
        have := nb_iff (p := p) h.tail i (by simpa using hi)
        simp only [List.getElem_cons_succ]
        rw [this]
        omega
    · rw [cntM_no (by simpa using ha)]
      constructor
      · intro hb
        exfalso
        apply ha
        cases i with
        | zero => exact hb
        | succ i =>
          have hm := List.getElem_mem (l := live) (n := i) (by simpa using hi)
          exact nb_mono (h.may a (by simp)).1 (h.may _ (by simp [hm])).1 ((List.pairwise_cons.1 h.srt).1 _ hm) hb
      · intro h0; omega
theorem cnt_is {p : List Run} {live : List Opn} (h : Liv live) {k : Nat} (hk : k ≤ live.length) (h1 : ∀ (i : Nat) (hi : i < live.length), notBehind (live[i]'hi) p = true ↔ i < k) : cntM live p = k := by
  have hc := cntM_le live p
  rcases Nat.lt_trichotomy (cntM live p) k with hlt | he | hgt
  · have := (nb_iff (p := p) h (cntM live p) (by omega)).1 ((h1 _ (by omega)).2 hlt)
    omega
  · exact he
  · have := (h1 k (by omega)).1 ((nb_iff (p := p) h k (by omega)).2 hgt)
    omega
theorem fold_home {p : List Run} : ∀ {live : List Opn} (s : Id), Liv live → live.foldl (fun s o => if notBehind o p = true then idO o else s) s = (s :: live.map idO).getD (cntM live p) zid
  | [], s, _ => rfl
  | a :: live, s, h => by
    rw [List.foldl_cons]
    by_cases ha : notBehind a p = true
    · rw [if_pos ha, fold_home _ h.tail, cntM_yes ha]
      rfl
    · rw [if_neg ha, fold_home _ h.tail, cntM_no (by simpa using ha)]
      have : cntM live p = 0 := by
        refine cnt_is h.tail (Nat.zero_le _) (fun i hi => ?_)
        have := nb_iff (p := p) h (i + 1) (by simpa using hi)
        rw [cntM_no (by simpa using ha)] at this
        simp only [List.getElem_cons_succ] at this
        rw [this]
        omega
      rw [this]
      rfl
theorem homeM_is {p : List Run} {live : List Opn} (h : Liv live) : homeM live p = (sectsM live).getD (cntM live p) zid := fold_home zid h
theorem id_ne_zid {o : Opn} (h : mayO o = true) : idO o ≠ zid := fun e => by
  have := (mayO_parts h).1
  have ht : o.t = 0 := congrArg Id.t e
  rw [ht] at this
  simp [may] at this
theorem sects_one {live : List Opn} (h : Liv live) : (sectsM live).Pairwise (fun a b => a ≠ b) := by
  unfold sectsM
  refine List.Pairwise.cons (fun a ha => ?_) ?_
  · obtain ⟨o, ho, rfl⟩ := List.mem_map.1 ha
    exact fun e => id_ne_zid (h.may o ho).1 e.symm
  · rw [List.pairwise_map]; exact h.one
theorem where_at {live : List Opn} (h : Liv live) {i : Nat} (hi : i < live.length + 1) : whereN live ((sectsM live).getD i zid) = i := by
  have hi' : i < (sectsM live).length := by rw [sectsM_len]; exact hi
  rw [show (sectsM live).getD i zid = (sectsM live)[i] by rw [List.getD_eq_getElem?_getD, List.getElem?_eq_getElem hi']; rfl]
  unfold whereN
  rw [List.findIdx_eq hi']
  refine ⟨by simp, fun j hj => ?_⟩
  have := List.pairwise_iff_getElem.1 (sects_one h) j i (by omega) hi' hj
  simpa using this
theorem where_of {live : List Opn} {s : Id} (h : whereN live s < live.length + 1) : (sectsM live).getD (whereN live s) zid = s := by
  have hi' : whereN live s < (sectsM live).length := by rw [sectsM_len]; exact h
  rw [show (sectsM live).getD (whereN live s) zid = (sectsM live)[whereN live s] by rw [List.getD_eq_getElem?_getD, List.getElem?_eq_getElem hi']; rfl]
  have := List.findIdx_getElem (p := fun x => decide (x = s)) (xs := sectsM live) (w := hi')
  exact of_decide_eq_true this
theorem sects_inj {live : List Opn} (h : Liv live) {i j : Nat} (hi : i < live.length + 1) (hj : j < live.length + 1) (e : (sectsM live).getD i zid = (sectsM live).getD j zid) : i = j := by
  rw [← where_at h hi, e, where_at h hj]
theorem whereM_at {live : List Opn} (h : Liv live) {i : Nat} (hi : i < live.length + 1) : whereM live ((sectsM live).getD i zid) = i := by
  unfold whereM
  rw [where_at h hi, if_pos hi]
theorem begin_zero (live : List Opn) : beginM live 0 = [] := rfl
theorem begin_succ {live : List Opn} {i : Nat} (hi : i < live.length) : beginM live ((i : Int) + 1) = (live[i]'hi).pl := by
  unfold beginM
  rw [if_pos (by omega), show ((i : Int) + 1 - 1).toNat = i by omega, List.getD_eq_getElem?_getD, List.getElem?_eq_getElem hi]
  rfl
theorem begin_end (live : List Opn) : beginM live ((live.length : Int) + 1) = [] := by
  unfold beginM
  rw [if_neg (by omega)]
/-- A place stands in the span of one section alone, its home. -/
theorem span_home {live : List Opn} (h : Liv live) {p : List Run} (hp : anyB p = true) {i : Nat} (hi : i < live.length + 1) :
    (decide (cmp (beginM live i) p ≤ 0) && (decide ((beginM live ((i : Int) + 1)).length = 0) || decide (cmp p (beginM live ((i : Int) + 1)) < 0))) = decide (i = cntM live p) := by
  have hc := cntM_le live p
  have e1 : cmp (beginM live i) p ≤ 0 ↔ i ≤ cntM live p := by
    cases i with
    | zero =>
      have : cmp (beginM live ((0 : Nat) : Int)) p = Go.Proofs.YtgjbnbojjgbmcaaGreat.Place.hold [] (all p) := by
        show cmp (beginM live 0) p = _
        rw [begin_zero]; unfold cmp; rw [if_pos ⟨rfl, hp⟩]; rfl
      rw [this]
      have h2 : Go.Proofs.YtgjbnbojjgbmcaaGreat.Place.hold [] (all p) ≤ 0 := by cases all p <;> simp [Go.Proofs.YtgjbnbojjgbmcaaGreat.Place.hold]
      simp [h2]
    | succ i =>
      have hi' : i < live.length := by omega
      have hm := (h.may _ (List.getElem_mem hi')).1
      rw [show ((i + 1 : Nat) : Int) = (i : Int) + 1 by omega, begin_succ hi']
      unfold cmp
      rw [if_pos ⟨anyB_may (mayO_parts hm).2.1, hp⟩, ← nb_iff0, nb_iff h i hi']
      omega
  have e2 : ((beginM live ((i : Int) + 1)).length = 0 ∨ cmp p (beginM live ((i : Int) + 1)) < 0) ↔ cntM live p ≤ i := by
    by_cases hi' : i < live.length
    · have hm := (h.may _ (List.getElem_mem hi')).1
      have hb := (mayO_parts hm).2.1
      rw [begin_succ hi']
      have h1 : ¬ ((live[i]'hi').pl.length = 0) := by have := ((mayB_iff _).1 hb).1; omega
      unfold cmp
      rw [if_pos ⟨hp, anyB_may hb⟩]
      have h3 := nb_iff (p := p) h i hi'
      rw [nb_iff0] at h3
      have h4 := hold_neg (all (live[i]'hi').pl) (all p)
      constructor
      · rintro (h5 | h5)
        · exact absurd h5 h1
        · exact Nat.le_of_not_lt (fun h6 => by have := h3.2 h6; omega)
      · intro h5
        right
        have h6 : ¬ Go.Proofs.YtgjbnbojjgbmcaaGreat.Place.hold (all (live[i]'hi').pl) (all p) ≤ 0 := fun h7 => by have := h3.1 h7; omega
        omega
    · obtain rfl : i = live.length := by omega
      rw [begin_end]
      simp [hc]
  rw [Bool.eq_iff_iff, Bool.and_eq_true, Bool.or_eq_true, decide_eq_true_iff, decide_eq_true_iff, decide_eq_true_iff, decide_eq_true_iff, e1, e2]
  omega
end Go.Proofs.YtgjbnbojjgbmcaaGreat.Homes

namespace Go.Proofs.YtgjbnbojjgbmcaaGreat.Covers
open Ops Stamp Bags Marks Homes Go.Proofs.YtgjbnbojjgbmcaaGreat.Place
/-- The first so many stamps of a place, as a place. -/
def cutN : List Run → Nat → List Run
  | [], _ => []
  | x :: p, k => if k = 0 then [] else if x.m ≤ (k : Int) then x :: cutN p (k - x.m.toNat) else [mkRun x.t x.r (k : Int)]
theorem cutN_zero (p : List Run) : cutN p 0 = [] := by cases p <;> rfl
theorem up_take (t r : Nat) : ∀ (n k : Nat), k ≤ n → (up t r n).take k = up t r k := fun n k h => by
  obtain ⟨m, rfl⟩ : ∃ m, n = k + m := ⟨n - k, by omega⟩
  rw [up_add, List.take_append_of_le_length (by rw [up_len]; exact Nat.le_refl _), List.take_of_length_le (by rw [up_len]; exact Nat.le_refl _)]
theorem all_cutN : ∀ {p : List Run} {k : Nat}, Chain p → all (cutN p k) = (all p).take k
  | [], k, _ => by simp [cutN, all]
  | x :: p, k, h => by
    by_cases h0 : k = 0
    · subst h0; simp [cutN_zero, all]
    obtain ⟨n, hn, n1, n2, n3, n4⟩ := h.head.nat
    unfold cutN
    rw [if_neg h0]
    by_cases h1 : x.m ≤ (k : Int)
    · rw [if_pos h1]
      show up x.t x.r x.m.toNat ++ all (cutN p (k - x.m.toNat)) = (up x.t x.r x.m.toNat ++ all p).take k
      rw [all_cutN h.tail, n3, List.take_append, up_len, List.take_of_length_le (l := up x.t x.r n) (by rw [up_len]; omega)]
    · rw [if_neg h1]
      have hx := x.ht
      have hr := x.hr
      show up (mkRun x.t x.r k).t (mkRun x.t x.r k).r (mkRun x.t x.r k).m.toNat ++ [] = (up x.t x.r x.m.toNat ++ all p).take k
      rw [mkRun_t hx, mkRun_r hr, mkRun_m (by omega), List.append_nil, Int.toNat_natCast, n3, List.take_append_of_le_length (by rw [up_len]; omega), up_take _ _ _ _ (by omega)]
theorem cutN_head : ∀ {p : List Run} {k : Nat} {z : Run}, (cutN p k).head? = some z → ∃ y q, p = y :: q ∧ z.t = y.t ∧ z.r = y.r
  | [], k, z, h => by simp [cutN] at h
  | x :: p, k, z, h => by
    refine ⟨x, p, rfl, ?_⟩
    unfold cutN at h
    split at h
    · simp at h
    · split at h
      · simp only [List.head?_cons, Option.some.injEq] at h
        subst h
        exact ⟨rfl, rfl⟩
      · simp only [List.head?_cons, Option.some.injEq] at h
        subst h
        exact ⟨mkRun_t x.ht, mkRun_r x.hr⟩
theorem chain_cons {x : Run} {p : List Run} (h1 : Go.Proofs.YtgjbnbojjgbmcaaGreat.Place.One x) (h2 : Chain p) (h3 : ∀ y, p.head? = some y → Go.Proofs.YtgjbnbojjgbmcaaGreat.Place.Next x y) : Chain (x :: p) := by
  cases p with
  | nil => exact h1
  | cons y p => exact ⟨h1, h3 y rfl, h2⟩
theorem chain_cutN : ∀ {p : List Run} {k : Nat}, Chain p → Chain (cutN p k)
  | [], k, _ => trivial
  | x :: p, k, h => by
    unfold cutN
    split
    · trivial
    · split
      · refine chain_cons h.head (chain_cutN h.tail) (fun z hz => ?_)
        obtain ⟨y, q, rfl, e1, e2⟩ := cutN_head hz
        have := h.2.1
        unfold Go.Proofs.YtgjbnbojjgbmcaaGreat.Place.Next at this ⊢
        rw [e1, e2]
        exact this
      · rename_i h0 h1
        obtain ⟨o1, o2, o3, o4, o5, o6⟩ := h.head
        show Go.Proofs.YtgjbnbojjgbmcaaGreat.Place.One _
        unfold Go.Proofs.YtgjbnbojjgbmcaaGreat.Place.One
        rw [mkRun_t x.ht, mkRun_r x.hr, mkRun_m (by omega)]
        omega
theorem cutN_len : ∀ (p : List Run) (k : Nat), (cutN p k).length ≤ p.length
  | [], _ => by simp [cutN]
  | x :: p, k => by
    unfold cutN
    split
    · simp
    · split
      · have := cutN_len p (k - x.m.toNat)
        simpa using this
      · simp
theorem may_cutN {p : List Run} {k : Nat} (h : mayB p = true) (hk : 1 ≤ k) : mayB (cutN p k) = true := by
  have hM := (mayB_iff p).1 h
  have hc := chain_cutN (k := k) hM.2.2.1
  have hl := cutN_len p k
  refine (mayB_iff _).2 ⟨?_, Nat.le_trans hl hM.2.1, hc, ?_⟩
  · cases p with
    | nil => have := hM.1; simp at this
    | cons x p =>
      unfold cutN
      rw [if_neg (by omega)]
      split <;> simp
  · have h1 := long_len hc
    have h2 := long_len hM.2.2.1
    have h3 := hM.2.2.2
    rw [all_cutN hM.2.2.1, List.length_take] at h1
    omega
theorem any_cutN {p : List Run} {k : Nat} (h : mayB p = true) : anyB (cutN p k) = true := by
  by_cases hk : k = 0
  · subst hk; rw [cutN_zero]; rfl
  · exact anyB_may (may_cutN h (by omega))
theorem cutN_cutN {p : List Run} {j k : Nat} (h : Chain p) (hj : j ≤ k) : cutN (cutN p k) j = cutN p j := by
  refine all_inj (chain_cutN (chain_cutN h)) (chain_cutN h) ?_
  rw [all_cutN (chain_cutN h), all_cutN h, all_cutN h, List.take_take, Nat.min_eq_left hj]
theorem cutN_all {p : List Run} (h : Chain p) : cutN p (all p).length = p := by
  refine all_inj (chain_cutN h) h ?_
  rw [all_cutN h, List.take_length]
/-- The last stamp of the first ones. -/
theorem last_cutN {p : List Run} {k : Nat} (h : mayB p = true) (hk : k < (all p).length) : lastV (cutN p (k + 1)) = ((((all p).getD k zid).t : Int), (((all p).getD k zid).r : Int)) := by
  have hM := (mayB_iff p).1 h
  refine lastV_of (P := (all p).take k) (may_cutN h (by omega)) ?_
  rw [all_cutN hM.2.2.1, List.take_succ_eq_append_getElem hk, getD_id hk]
where
  getD_id {l : List Id} {j : Nat} (h : j < l.length) : l.getD j zid = l[j]'h := by rw [List.getD_eq_getElem?_getD, List.getElem?_eq_getElem h]; rfl
/-- On how many stamps of its place one stands. -/
def manyN (o : Opn) : Nat := (all o.pl).length - offs o
/-- The content that is homed in a section, by live marks. -/
def inL (l live : List Opn) (s : Id) : List Opn := l.filter (fun o => contB o && decide (homeM live o.pl = s))
/-- Does content that is homed in a section count? -/
def isB (l live : List Opn) (s : Id) (o : Opn) : Bool := (List.range (manyN o)).all (fun k => !decide (homeM live (cutN o.pl (k + 1)) = s) || hasO l ((all o.pl).getD k zid))
theorem isB_iff {l live : List Opn} {s : Id} {o : Opn} : isB l live s o = true ↔ ∀ k, k < manyN o → homeM live (cutN o.pl (k + 1)) = s → hasO l ((all o.pl).getD k zid) = true := by
  unfold isB
  rw [List.all_eq_true]
  constructor
  · intro h k hk e
    have := h k (List.mem_range.2 hk)
    simpa [e] using this
  · intro h k hk
    by_cases e : homeM live (cutN o.pl (k + 1)) = s
    · rw [h k (List.mem_range.1 hk) e, Bool.or_true]
    · simp [e]
def countL (l live : List Opn) (s : Id) : List Opn := (inL l live s).filter (isB l live s)
def countsL (l : List Opn) (s : Id) : List Opn := if spanE l s = 0 then countL l (livesM l l) s else []
theorem spanE_zero {l : List Opn} {s : Id} : spanE l s = 0 ↔ Bag l ∧ 0 ≤ whereM (livesM l l) s := by
  unfold spanE
  by_cases h : bagB l = true
  · rw [if_pos h]
    by_cases h2 : 0 ≤ whereM (livesM l l) s
    · simp [h2, (bagB_iff l).1 h]
    · simp [h2]
  · have : ¬ Bag l := fun hb => h ((bagB_iff l).2 hb)
    simp [h, this]
theorem spanE_cases (l : List Opn) (s : Id) : spanE l s = 0 ∨ spanE l s = 8 ∨ spanE l s = 130 := by
  unfold spanE
  split
  · split
    · exact .inl rfl
    · exact .inr (.inr rfl)
  · exact .inr (.inl rfl)
theorem mem_inL {l live : List Opn} {s : Id} {o : Opn} : o ∈ inL l live s ↔ o ∈ l ∧ contB o = true ∧ homeM live o.pl = s := by
  unfold inL; rw [List.mem_filter]; simp
theorem mem_countL {l live : List Opn} {s : Id} {o : Opn} : o ∈ countL l live s ↔ (o ∈ l ∧ contB o = true ∧ homeM live o.pl = s) ∧ isB l live s o = true := by
  unfold countL; rw [List.mem_filter, mem_inL]
theorem inL_sub (l live : List Opn) (s : Id) : (inL l live s).Sublist l := List.filter_sublist
theorem countL_sub (l live : List Opn) (s : Id) : (countL l live s).Sublist l := List.filter_sublist.trans (inL_sub l live s)
end Go.Proofs.YtgjbnbojjgbmcaaGreat.Covers

namespace Go.Proofs.YtgjbnbojjgbmcaaGreat.Homes
open Ops Stamp Bags Marks Go.Proofs.YtgjbnbojjgbmcaaGreat.Place
theorem span_at {l : List Opn} (hb : Bag l) {i : Nat} (hi : i < (livesM l l).length + 1) :
    fromL l ((sectsM (livesM l l)).getD i zid) = beginM (livesM l l) i ∧ toL l ((sectsM (livesM l l)).getD i zid) = beginM (livesM l l) ((i : Int) + 1) ∧ spanE l ((sectsM (livesM l l)).getD i zid) = 0 := by
  have hw := whereM_at (liv_bag hb) hi
  unfold fromL toL spanE
  rw [hw, (bagB_iff l).2 hb]
  rw [if_pos ⟨rfl, by omega⟩, if_pos ⟨rfl, by omega⟩, if_pos rfl, if_pos (by omega)]
  exact ⟨rfl, rfl, rfl⟩
theorem home_at {live : List Opn} (h : Liv live) {p : List Run} {i : Nat} (hi : i < live.length + 1) : (sectsM live).getD i zid = homeM live p ↔ i = cntM live p := by
  rw [homeM_is h]
  constructor
  · intro e
    exact sects_inj h hi (by have := cntM_le live p; omega) e
  · rintro rfl; rfl
end Go.Proofs.YtgjbnbojjgbmcaaGreat.Homes

namespace Go.Proofs.YtgjbnbojjgbmcaaGreat.Covers
open Ops Stamp Bags Marks Homes Go.Proofs.YtgjbnbojjgbmcaaGreat.Place
theorem manyN_le (o : Opn) : manyN o ≤ (all o.pl).length := Nat.sub_le _ _
end Go.Proofs.YtgjbnbojjgbmcaaGreat.Covers
