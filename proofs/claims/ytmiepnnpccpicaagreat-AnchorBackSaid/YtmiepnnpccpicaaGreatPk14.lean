/- AnchorBack answers true, and changes nothing that was there. Conditions: none. -/
import Derived.Test.YtmiepnnpccpicaaGreatChecked
import Derived.WalkKit
import Derived.WalkSpells
import Derived.WalkLawsBesides
import Derived.Laws.BytesArg
import Derived.Lib.Hide
import Derived.Deep.LoopGhost
import Derived.Laws.AppendOwnNone
import Derived.Laws.OwnMore
import Derived.WideShapes
import Derived.Maps.AppendAt
import Derived.RegionTactic
import Derived.Deep.RegionHeld3
import Derived.Deep.DrawnRows
import Derived.Deep.QuietTactic
import Derived.BigQuiet
import Derived.IntWalk
import Derived.Deep.DeepCutAuto
import Derived.ScopeJumps
import Derived.Test.YtmiepnnpccpicaaGreatProg
import Derived.LoopTactic
import Derived.Laws.EntriesVeiled
import Derived.RowKit
import Derived.Lib.DecodeN
import Derived.Lib.RuneBytes
import Derived.Shelf.Abstract
import Derived.Shelf.SlSortCmp.InsertionK
import Derived.Calls
import Derived.StepT
import Derived.Below
import Derived.Sort.Grow
import Derived.Deep.Draws
import Derived.Shelf.SlLaysF0
import Derived.Shelf.SlSortCmp.NoneTotal
import Derived.Maps.Own
import Derived.Maps.OwnOps
import Derived.Maps.OwnSet
import Derived.Maps.Views
import Derived.DeepKeys4
import Derived.RangeFuncBox
import Derived.RangeFuncLeaves
import Derived.RangeFuncNested
import Derived.RangeFuncBound
import Derived.RangeFuncCalls
import Derived.OwnWalkIn
import Derived.TacticsInMore
import Derived.LoopNIn
import Derived.LoopIn
import Derived.Scope
import Derived.Lib.Tables
import Derived.Laws.Bits64
import Derived.Test.YtmiepnnpccpicaaGreatShelf
import Derived.Lib.OthersKept
import Derived.BigCall
import Derived.Defers
import Derived.Laws.CopyOwn
import Derived.Deep.AppendSrc
import Derived.Lib.AppendZeros
import Derived.Laws.MakeOwn
import Derived.Lib.AppendZerosOnto
import Derived.Laws.NewBlocks
import Derived.Deep.RegionLaw
import Derived.Test.YtmiepnnpccpicaaGreatPk12
import Derived.Test.YtmiepnnpccpicaaGreatPk11
import Derived.Test.YtmiepnnpccpicaaGreatPk05
import Derived.Test.YtmiepnnpccpicaaGreatPk04
import Derived.Test.YtmiepnnpccpicaaGreatPk03
import Derived.Test.YtmiepnnpccpicaaGreatPk02
import Derived.Test.YtmiepnnpccpicaaGreatPk01
import Derived.Test.YtmiepnnpccpicaaGreatPk08
import Derived.Test.YtmiepnnpccpicaaGreatPk06
import Derived.Test.YtmiepnnpccpicaaGreatPk07
import Derived.Test.YtmiepnnpccpicaaGreatPk10
import Derived.Test.YtmiepnnpccpicaaGreatPk09
import Derived.Test.YtmiepnnpccpicaaGreatPk13

namespace Go.Proofs.YtmiepnnpccpicaaGreat.Anchors
open Go.RowKit Go.WideShapes Stamp Go.Proofs.YtmiepnnpccpicaaGreat.Place Ops Codes Bags Marks Homes Covers Views
attribute [local go_sem ↓] Go.wp_at_zero Go.wp_at_succ
attribute [local go_sem] yielded_undef
theorem own_put2 {w : World} {g b n sz : Nat} {e : TypeId} {v : Value} {cs : List Value} (x y : Value) (h : w.ownsRow b e sz v n cs) (hg : g < b) : (put2 w g x y).ownsRow b e sz v n cs :=
  ⟨h.1, h.2.imp id fun ⟨k, cap, cur, e1, e2, e3, e4⟩ => ⟨k, cap, cur, e1, e2, put2_other _ _ (by omega) e3, e4⟩⟩
theorem hold_put2 {w : World} {g b : Nat} (x y : Value) (hg : g < b) : ∀ {cs : List Value} {l : List Opn}, HoldP w b cs l → HoldP (put2 w g x y) b cs l
  | _, [], h => h
  | _, _ :: _, ⟨v, d, h1, h2, h3⟩ => ⟨v, d, h1, own_put2 x y h2 hg, hold_put2 x y hg h3⟩
/-- The list that came in, or one of the call's own, behind a block. -/
def Kp (g : Nat) (v0 : Value) (l : List Opn) (w : World) (v : Value) (m : List Opn) : Prop := (v = v0 ∧ m = l) ∨ ∃ b, g < b ∧ OwnL w b v m
theorem Kp.keeps {g : Nat} {v0 : Value} {l : List Opn} {w w' : World} {v : Value} {m : List Opn} (h : Kp g v0 l w v m) (hb : Below w.heap.size w w') : Kp g v0 l w' v m :=
  h.imp id fun ⟨b, h1, h2⟩ => ⟨b, h1, h2.keeps hb⟩
theorem Kp.put {g : Nat} {v0 : Value} {l : List Opn} {w : World} {v : Value} {m : List Opn} (x y : Value) (h : Kp g v0 l w v m) : Kp g v0 l (put2 w g x y) v m :=
  h.imp id fun ⟨b, h1, cs, h2, h3⟩ => ⟨b, h1, cs, own_put2 x y h2 h1, hold_put2 x y h1 h3⟩
theorem Kp.opl {g : Nat} {v0 : Value} {l : List Opn} {w : World} {v : Value} {m : List Opn} (h : Kp g v0 l w v m) (h0 : OpL w v0 l) : OpL w v m := by
  rcases h with ⟨rfl, rfl⟩ | ⟨b, _, h⟩
  · exact h0
  · exact h.opl
theorem find_any2 {l : List Opn} {p : List Run} (hb : Bag l) (hp : Go.Proofs.YtmiepnnpccpicaaGreat.Place.mayB p = true) : findE l p = 0 ∧ spanE l (findS l p) = 0 ∧ findN l p = befM (elmL l (findS l p)) p ∧ findN l p ≤ (elmL l (findS l p)).length ∧
    (∀ k o, (elmL l (findS l p))[k]? = some o → k + 1 = findN l p → cmp o.pl p < 0) ∧ (∀ o, (elmL l (findS l p))[findN l p]? = some o → cmp p o.pl ≤ 0) := by
  obtain ⟨h1, h2, h3, h4, h5, h6⟩ := find_any hb hp
  refine ⟨h1, h2, h3, h4, fun k o h hk => ?_, fun o h => ?_⟩
  · obtain ⟨hi, rfl⟩ := List.getElem?_eq_some_iff.1 h
    exact h5 k hi hk
  · obtain ⟨hi, rfl⟩ := List.getElem?_eq_some_iff.1 h
    exact h6 hi
set_option maxRecDepth 100000 in
set_option maxHeartbeats 40000000 in
theorem back_walk {l more : List Opn} {ao0 ao1 : Option Addr} {cap0 cap1 : Nat} (a : Id) (k : Int) {w : World} (hr0 : OpL w (.slice ao0 l.length cap0) l) (hr1 : OpL w (.slice ao1 more.length cap1) more) :
    Calls Tryz.prog 4 #[.slice ao0 l.length cap0, .agg #[.int .u32 (a.t : Int), .int .u8 (a.r : Int)], .int .i64 k, .slice ao1 more.length cap1] w fun e w' => e = .returned (.bool true) ∧ Below w.heap.size w w' := by
  have HV : Hid (∀ W : World, Below w.heap.size w W → OpL W (.slice ao0 l.length cap0) l) := fun W h => hr0.keeps h
  have HM : Hid (∀ W : World, Below w.heap.size w W → OpL W (.slice ao1 more.length cap1) more) := fun W h => hr1.keeps h
  have AV := Lib.hid alive17_any
  have GR : Hid (∀ W : World, Below w.heap.size w W → Calls Tryz.prog 5 #[.slice ao0 l.length cap0, .int .i64 30] W fun e w' => (∃ g, e = .returned (.bool g)) ∧ W = w') := fun W h => (greatO_any (HV.out W h)).mono fun e w' ⟨⟨g, h1, _⟩, h2⟩ => ⟨⟨g, h1⟩, h2⟩
  have GM : Hid (∀ W : World, Below w.heap.size w W → Calls Tryz.prog 5 #[.slice ao1 more.length cap1, .int .i64 10] W fun e w' => (∃ g, e = .returned (.bool g)) ∧ W = w') := fun W h => (greatO_any (HM.out W h)).mono fun e w' ⟨⟨g, h1, _⟩, h2⟩ => ⟨⟨g, h1⟩, h2⟩
  have MK : Hid (∀ W : World, Below w.heap.size w W → Calls Tryz.prog 7 #[.slice ao0 l.length cap0, .agg #[.int .u32 (a.t : Int), .int .u8 (a.r : Int)], .int .i64 k] W (OneP (makeP l a k) (atE l a k) W)) := fun W h => aMake_any a k (HV.out W h)
  have FD : Hid (∀ (W : World) (v u : Value) (m : List Opn) (q : List Run), OpL W v m → Runs W u q → Calls Tryz.prog 9 #[v, u] W (OneF (findS m q) (findN m q) (findE m q) W)) := fun W v u m q h h2 => aFind_any h h2
  have EL : Hid (∀ (W : World) (v : Value) (m : List Opn) (s : Id), OpL W v m → spanE m s = 0 → Calls Tryz.prog 15 #[v, .agg #[.int .u32 (s.t : Int), .int .u8 (s.r : Int)]] W (DoneOE (elmL m s) 0 W)) := fun W v m s h h2 => by
    have := vElements_any s h
    rwa [h2] at this
  have CP : Hid (∀ (W : World) (u v : Value) (p q : List Run), Runs W u p → Runs W v q → Calls Tryz.prog 16 #[u, v] W fun e w' => e = .returned (.int .i64 (cmp p q)) ∧ Below W.heap.size W w') := fun W u v p q h h2 => pCompare_any h h2
  have NO : Hid (atE l a k ≠ 0 → (makeP l a k).length = 0) := fun h => by rw [make_no h]; rfl
  have YS : Hid (atE l a k = 0 → Bag l ∧ Go.Proofs.YtmiepnnpccpicaaGreat.Place.mayB (makeP l a k) = true ∧ findE l (makeP l a k) = 0 ∧ findS l (makeP l a k) = a ∧ ((findN l (makeP l a k) : Nat) : Int) = k) := fun h => ⟨(make_yes h).1, (make_yes h).2.2.2.2.1, find_back h⟩
  obtain ⟨n0, hn0⟩ : ∃ n, n = l.length := ⟨_, rfl⟩
  have HN0 := Lib.hid hn0
  rw [← hn0] at HV GR MK ⊢
  obtain ⟨n, hn⟩ : ∃ n, n = more.length := ⟨_, rfl⟩
  have HN := Lib.hid hn
  have hnm : n ≤ 9223372036854775807 := by rw [hn]; exact hr1.max
  rw [← hn] at HM GM ⊢
  obtain ⟨sx, hsx⟩ : ∃ z, a.t = z := ⟨_, rfl⟩
  obtain ⟨sy, hsy⟩ : ∃ z, a.r = z := ⟨_, rfl⟩
  rw [hsx, hsy] at MK ⊢
  have HX0 := Lib.hid (And.intro hsx hsy)
  obtain ⟨MP, hMP⟩ : ∃ z, makeP l a k = z := ⟨_, rfl⟩
  obtain ⟨E1, hE1⟩ : ∃ z, atE l a k = z := ⟨_, rfl⟩
  rw [hMP, hE1] at MK NO YS
  have B_0 : Hid (Below w.heap.size w (w.alloc (.cells #[.int .u32 (sx : Int), .int .u8 (sy : Int)] 25))) := (Below.refl _ _).alloc (Nat.le_refl _) _
  have CE : Hid (∀ W : World, Below (w.alloc (.cells #[.int .u32 (sx : Int), .int .u8 (sy : Int)] 25)).heap.size (w.alloc (.cells #[.int .u32 (sx : Int), .int .u8 (sy : Int)] 25)) W → W.cell? ⟨w.heap.size, 0, none⟩ = some (.int .u32 (sx : Int)) ∧ W.cell? ⟨w.heap.size, 1, none⟩ = some (.int .u8 (sy : Int))) := fun W h => by
    have g2 := cells_blk (blk_below h (blk_new rfl))
    exact ⟨g2.1, g2.2.1⟩
  have BK_0 : Hid (Below (w.alloc (.cells #[.int .u32 (sx : Int), .int .u8 (sy : Int)] 25)).heap.size (w.alloc (.cells #[.int .u32 (sx : Int), .int .u8 (sy : Int)] 25)) (w.alloc (.cells #[.int .u32 (sx : Int), .int .u8 (sy : Int)] 25))) := Below.refl _ _
  clear hr0 hr1 hn0 hn hsx hsy hMP hE1
  go_enter Tryz.func4, Tryz.ntmps4
  go_wp2_with fail
  refine (AV.out _).mono ?_
  rintro e w1 ⟨rfl, b1⟩
  have B1 := Lib.hid (bt B_0.out b1)
  have BK1 := Lib.hid (bt BK_0.out b1)
  clear B_0 BK_0 b1 AV
  go_wp2_with fail
  refine (GR.out _ B1.out).mono ?_
  rintro e w2 ⟨⟨g, rfl⟩, rfl⟩
  clear GR
  cases g
  rotate_left
  · go_wp2
    go_ret
    exact ⟨rfl, B1.out⟩
  go_wp2_with fail
  refine (GM.out _ B1.out).mono ?_
  rintro e w2 ⟨⟨g, rfl⟩, rfl⟩
  clear GM
  cases g
  rotate_left
  · go_wp2
    go_ret
    exact ⟨rfl, B1.out⟩
  obtain ⟨d0, d1⟩ := CE.out _ BK1.out
  go_wp2_with fail
  refine (MK.out _ B1.out).mono ?_
  rintro e w3 ⟨va, rfl, oa, b3⟩
  obtain ⟨aoA, capA, rfl⟩ : ∃ ao cap, va = .slice ao MP.length cap := Sees.shape (Sees.own oa)
  have B3 := Lib.hid (bt B1.out b3)
  have BK3 := Lib.hid (bt BK1.out b3)
  have P3 : Hid (Runs w3 (.slice aoA MP.length capA) MP) := Runs.own oa
  clear oa b3 B1 BK1 MK d0 d1
  by_cases hE : E1 = 0
  rotate_left
  · have q1 : (E1 == 0) = false := by simpa using hE
    have q2 : decide (E1 = 0) = false := decide_eq_false hE
    rw [NO.out hE]
    clear P3
    go_wp2
    go_ret
    exact ⟨rfl, B3.out⟩
  obtain ⟨hb, hp, f1, f2, f3⟩ := YS.out hE
  subst hE
  obtain ⟨K, hK⟩ : ∃ z, findN l MP = z := ⟨_, rfl⟩
  rw [hK] at f3
  have FD1 : Hid (∀ W : World, Below w.heap.size w W → Runs W (.slice aoA MP.length capA) MP → Calls Tryz.prog 9 #[.slice ao0 n0 cap0, .slice aoA MP.length capA] W fun e w' => e = .returned (.tuple #[.agg #[.int .u32 (sx : Int), .int .u8 (sy : Int)], .int .i64 (K : Int), .int .i64 0]) ∧ Below W.heap.size W w') := fun W h h2 => by
    have := FD.out W _ _ l MP (HV.out W h) h2
    rw [f1, f2, hK] at this
    rw [← HX0.out.1, ← HX0.out.2]
    exact this
  have HB := Lib.hid hb
  have HP := Lib.hid hp
  obtain ⟨nP, hnP⟩ : ∃ z, MP.length = z := ⟨_, rfl⟩
  rw [hnP] at P3 FD1 ⊢
  subst f3
  clear NO YS hb hp f1 f2 hK HX0 hnP
  go_wp2_with fail
  refine (FD1.out _ B3.out P3.out).mono ?_
  rintro e w5 ⟨rfl, b5⟩
  obtain ⟨wg, hwg⟩ : ∃ x, w5.alloc (.cells #[.int .u32 (sx : Int), .int .u8 (sy : Int)] 25) = x := ⟨_, rfl⟩
  have BG : Below w5.heap.size w5 wg := by rw [← hwg]; exact (Below.refl _ _).alloc (Nat.le_refl _) _
  have XG : Hid (wg.heap[w5.heap.size]? = some (.cells #[.int .u32 (sx : Int), .int .u8 (sy : Int)] 25)) := by rw [← hwg]; exact blk_new rfl
  have PG : Hid (Pair wg w5.heap.size (.int .u32 (sx : Int)) (.int .u8 (sy : Int))) := by rw [← hwg]; exact pair_new _ _ _ _
  have P5 : Hid (∀ W : World, Below w5.heap.size w5 W → Runs W (.slice aoA nP capA) MP) := fun W h => (P3.out.keeps b5).keeps h
  have B5 := Lib.hid (bt B3.out b5)
  have ZG := Lib.hid (BG)
  have BW := Lib.hid (bt B5.out BG)
  have BKW := Lib.hid (bt (bt BK3.out b5) BG)
  have HWG := Lib.hid hwg
  clear b5 BG P3 B3 BK3 FD1 hwg
  go_upto_region 8 with fail
  rw [HWG.out]
  obtain ⟨d0, d1⟩ := CE.out _ BKW.out
  obtain ⟨lt, fa, fb⟩ := PG.out
  have e6 : ((K : Int) == (K : Int)) = true := by simp
  have K0 : Hid (Kp w5.heap.size (.slice ao0 n0 cap0) l wg (.slice ao0 n0 cap0) l) := Or.inl ⟨rfl, rfl⟩
  have Z0 : Hid (Below wg.heap.size wg wg) := Below.refl _ _
  clear HWG CE BKW PG
  go_upto_region 11 with fail
  clear d0 d1 lt fa fb e6
  go_loopw [0, 15, 16, 17] (fun v i s16 s17 wr => ∃ (j : Nat) (m : List Opn), j ≤ n ∧ i = .int .i64 (j : Int) ∧ (∃ ao cap, v = .slice ao m.length cap) ∧ Hid (Kp w5.heap.size (.slice ao0 n0 cap0) l wr v m) ∧ Hid (Bag m) ∧ Hid (Below wg.heap.size wg wr)) (fun _ i _ _ _ => n - (intOf i).toNat)
  case atStart => exact ⟨0, l, by omega, rfl, ⟨_, _, by rw [HN0.out]⟩, K0, HB, Z0⟩
  case round =>
    clear K0 Z0 HB
    obtain ⟨j, m, hj, rfl, ⟨am, cm, rfl⟩, KM, HB, hbel⟩ := hrel
    have BR := Lib.hid (bt BW.out hbel.out)
    have OM := Lib.hid (KM.out.opl (HV.out wr BR.out))
    by_cases hjn : j < n
    · have q3 : decide (j < n) = true := by simpa using hjn
      have q4 : (0 : Int) ≤ (j : Int) := by omega
      have q5 : (j : Int) < (n : Int) := by omega
      have hjl : j < more.length := by rw [← HN.out]; exact hjn
      obtain ⟨bb, oo, u, e, hbb, hru, h0, h1, h2, h3, h4⟩ := opl_at (HM.out wr BR.out) j hjl
      subst e
      obtain ⟨x, hx⟩ : ∃ x, x = more[j]'hjl := ⟨_, rfl⟩
      rw [← hx] at hru h0 h1 h2 h4
      have HO : Hid (∀ v : Value, opv x v = .agg #[.int .u8 (x.k : Int), .int .u32 (x.t : Int), .int .u8 (x.r : Int), v, .int .i64 x.p]) := fun v => rfl
      have WI := bAdd_any OM.out hru
      have AB : Hid (addE m x = 0 → Bag (addL m x)) := fun h => (addL_bag h).2
      obtain ⟨E, hE⟩ : ∃ E, addE m x = E := ⟨_, rfl⟩
      obtain ⟨M2, hM2⟩ : ∃ z, addL m x = z := ⟨_, rfl⟩
      rw [hE, hM2] at WI AB
      have WJ := Lib.hid WI
      clear WI hx hru hE hM2
      obtain ⟨k, hk⟩ : ∃ z, x.k = z := ⟨_, rfl⟩
      obtain ⟨t, ht⟩ : ∃ z, x.t = z := ⟨_, rfl⟩
      obtain ⟨r, hr⟩ : ∃ z, x.r = z := ⟨_, rfl⟩
      obtain ⟨p, hp⟩ : ∃ z, x.p = z := ⟨_, rfl⟩
      rw [hk, ht, hr, hp] at HO
      rw [hk] at h0
      rw [ht] at h1
      rw [hr] at h2
      rw [hp] at h4
      simp only [HO.out] at WJ
      clear hk ht hr hp HO hbb OM hjl
      obtain ⟨nm, hnm2⟩ : ∃ z, m.length = z := ⟨_, rfl⟩
      rw [hnm2] at WJ KM ⊢
      have HNM := Lib.hid hnm2
      clear hnm2
      go_wp2_with fail
      refine WJ.out.mono ?_
      rintro e w6 ⟨v6, rfl, o6, b6⟩
      obtain ⟨a6, c6, rfl⟩ := o6.opl.shape
      have KX : Hid (Kp w5.heap.size (.slice ao0 n0 cap0) l w6 (.slice a6 M2.length c6) M2) := Or.inr ⟨_, by have h1 := (Array.getElem?_eq_some_iff.1 XG.out).1; have h2 := hbel.out.size; omega, o6⟩
      have KY := Lib.hid (KM.out.keeps b6)
      have Z6 := Lib.hid (bt hbel.out b6)
      clear o6 b6 WJ h0 h1 h2 h3 h4 KM hbel BR
      by_cases hE : E = 0
      · subst hE
        have BM := Lib.hid (AB.out rfl)
        go_wp2
        go_roundw
        case rel => exact ⟨j + 1, M2, by omega, by go_num, ⟨_, _, rfl⟩, KX, BM, Z6⟩
        case measure => simp [intOf]; omega
      · have q1 : (E == 0) = false := by simpa using hE
        have q2 : decide (E = 0) = false := decide_eq_false hE
        clear KX AB
        go_wp2
        go_roundw
        case rel => exact ⟨j + 1, m, by omega, by go_num, ⟨_, _, by rw [HNM.out]⟩, KY, HB, Z6⟩
        case measure => simp [intOf]; omega
    have q3 : decide (j < n) = false := by simpa using hjn
    obtain ⟨f1, f2, -, f4, f5, f6⟩ := find_any2 HB.out HP.out
    have FD2 := FD.out wr _ _ m MP OM.out (P5.out wr (bt ZG.out (hbel.out)))
    have EL2 : Hid (∀ W : World, OpL W (.slice am m.length cm) m → Calls Tryz.prog 15 #[.slice am m.length cm, .agg #[.int .u32 ((findS m MP).t : Int), .int .u8 ((findS m MP).r : Int)]] W (DoneOE (elmL m (findS m MP)) 0 W)) := fun W h => EL.out W _ m _ h f2
    rw [f1] at FD2
    obtain ⟨C, hC⟩ : ∃ z, elmL m (findS m MP) = z := ⟨_, rfl⟩
    rw [hC] at f4 f5 f6 EL2
    obtain ⟨S2, hS2⟩ : ∃ z, findS m MP = z := ⟨_, rfl⟩
    obtain ⟨K2, hK2⟩ : ∃ z, findN m MP = z := ⟨_, rfl⟩
    rw [hK2] at f4 f5 f6
    rw [hS2, hK2] at FD2
    rw [hS2] at EL2
    have F4 := Lib.hid f4
    have F5 := Lib.hid f5
    have F6 := Lib.hid f6
    have FD3 := Lib.hid FD2
    obtain ⟨T2, R2, hT2, hR2⟩ := S2
    simp only at FD3 EL2
    obtain ⟨nm, hnm2⟩ : ∃ z, m.length = z := ⟨_, rfl⟩
    rw [hnm2] at FD3 EL2 OM KM ⊢
    have XR := Lib.hid (blk_below hbel.out XG.out)
    have ZR := Lib.hid (bt ZG.out hbel.out)
    clear f1 f2 f4 f5 f6 FD2 EL FD hC hS2 hK2 hnm2 XG ZG hbel OM HB HP HM
    go_wp2_with fail
    refine FD3.out.mono ?_
    rintro e w9 ⟨rfl, b9⟩
    have X9 := Lib.hid (blk_below b9 XR.out)
    have Z9 := Lib.hid (bt ZR.out b9)
    have B9 := Lib.hid (bt BR.out b9)
    have KM9 := Lib.hid (KM.out.keeps b9)
    clear b9 XR ZR BR KM FD3
    have c0 := cell_of_row _ _ 0 _ _ _ X9.out
    have c1 := cell_of_row _ _ 1 _ _ _ X9.out
    have f0 : ∀ o, w9.frozen? ⟨w5.heap.size, o, none⟩ = false := fun o => frz2 X9.out o
    have HF := Lib.hid (put2_same (.int .u32 (T2 : Int)) (.int .u8 (R2 : Int)) X9.out)
    have BF := Lib.hid (put2_below (.int .u32 (T2 : Int)) (.int .u8 (R2 : Int)) B5.out.size B9.out)
    have PF := Lib.hid (P5.out _ (put2_below (.int .u32 (T2 : Int)) (.int .u8 (R2 : Int)) (Nat.le_refl _) Z9.out))
    have KF := Lib.hid (KM9.out.put (.int .u32 (T2 : Int)) (.int .u8 (R2 : Int)))
    obtain ⟨WF, hWF⟩ : ∃ WF, put2 w9 w5.heap.size (.int .u32 (T2 : Int)) (.int .u8 (R2 : Int)) = WF := ⟨_, rfl⟩
    rw [hWF] at HF BF PF KF
    unfold put2 at hWF
    have HX := Lib.hid hWF
    have OF := Lib.hid (KF.out.opl (HV.out WF BF.out))
    clear hWF X9 Z9 B9 KM9 KF P5 HV
    go_upto_region 17 with fail
    rw [HX.out]
    have e0 := cell_of_row _ _ 0 _ _ _ HF.out
    have e1 := cell_of_row _ _ 1 _ _ _ HF.out
    clear c0 c1 f0 HX HF
    go_wp2_with fail
    refine (EL2.out _ OF.out).mono ?_
    rintro e w10 ⟨vx, rfl, ox, b10⟩
    obtain ⟨ax, cx, rfl⟩ := (ox.el).shape
    have EX : Hid (∀ W : World, Below w10.heap.size w10 W → ElL W (.slice ax C.length cx) C) := fun W h => ox.el.keeps h
    have PX : Hid (∀ W : World, Below w10.heap.size w10 W → Runs W (.slice aoA nP capA) MP) := fun W h => (PF.out.keeps b10).keeps h
    have BX := Lib.hid (bt BF.out b10)
    have Z10 : Hid (Below w10.heap.size w10 w10) := Below.refl _ _
    clear ox b10 BF PF OF EL2 e0 e1
    obtain ⟨nC, hnC⟩ : ∃ z, C.length = z := ⟨_, rfl⟩
    have HNC := Lib.hid hnC
    rw [hnC] at EX F4 ⊢
    have F4' := F4.out
    have r1 : decide ((K2 : Int) < 0) = false := decide_eq_false (by omega)
    have r2 : decide ((nC : Int) < (K2 : Int)) = false := decide_eq_false (by omega)
    have r3 : decide (nC < K2) = false := decide_eq_false (by omega)
    clear hnC
    obtain ⟨pz, hpz⟩ : ∃ z, z = decide (0 < K2) := ⟨_, rfl⟩
    by_cases hz : K2 = 0
    · have x1 : decide ((0 : Int) < (K2 : Int)) = false := decide_eq_false (by omega)
      have x2 : decide (0 < K2) = false := decide_eq_false (by omega)
      clear hpz hz
      go_upto_region 22 with fail
      by_cases hend : K2 = nC
      · have y1 : ((K2 : Int) == (nC : Int)) = true := by simp; omega
        have y2 : decide ((K2 : Int) = (nC : Int)) = true := decide_eq_true (by omega)
        have y3 : (K2 == nC) = true := by simp; omega
        clear F5 F6 CP
        go_wp2
        go_ret
        exact ⟨rfl, BX.out⟩
      have y1 : ((K2 : Int) == (nC : Int)) = false := by simp; omega
      have y2 : decide ((K2 : Int) = (nC : Int)) = false := decide_eq_false (by omega)
      have y3 : (K2 == nC) = false := by simp; omega
      have hi : K2 < C.length := by have := HNC.out; omega
      have z1 : (0 : Int) ≤ (K2 : Int) := by omega
      have z2 : (K2 : Int) < (nC : Int) := by omega
      obtain ⟨gb2, go2, gv, ge, glt, gru, g0, g1, g2, g3⟩ := el_at (EX.out w10 Z10.out) K2 hi
      subst ge
      have CQ := Lib.hid (CP.out w10 _ _ _ _ (PX.out w10 Z10.out) gru)
      obtain ⟨c2, hc2⟩ : ∃ z, cmp MP ((C[K2]'hi).pl) = z := ⟨_, rfl⟩
      have r7 : decide (c2 ≤ 0) = true := by rw [← hc2]; exact decide_eq_true (F6.out _ (List.getElem?_eq_getElem hi))
      rw [hc2] at CQ
      clear F5 F6 CP hc2 gru glt g0 g1 g3
      go_wp2_with fail
      refine CQ.out.mono ?_
      rintro e w12 ⟨rfl, b12⟩
      have BZ := Lib.hid (bt BX.out b12)
      clear b12 CQ g2
      go_wp2
      go_ret
      exact ⟨rfl, BZ.out⟩
    have x1 : decide ((0 : Int) < (K2 : Int)) = true := decide_eq_true (by omega)
    have x2 : decide (0 < K2) = true := decide_eq_true (by omega)
    obtain ⟨J, hJ⟩ : ∃ J, J + 1 = K2 := ⟨K2 - 1, by omega⟩
    have v1 : (K2 : Int) - 1 = (J : Int) := by omega
    have v2 : IntKind.i64.wrap (J : Int) = (J : Int) := IntWalk.i64_in _ (by have h1 := (EX.out w10 Z10.out); have h2 := h1.cap; omega)
    have hi : J < C.length := by have := HNC.out; omega
    have z1 : (0 : Int) ≤ (J : Int) := by omega
    have z2 : (J : Int) < (nC : Int) := by omega
    obtain ⟨gb, go, gv, ge, glt, gru, g0, g1, g2, g3⟩ := el_at (EX.out w10 Z10.out) J hi
    subst ge
    have CQ := Lib.hid (CP.out w10 _ _ _ _ gru (PX.out w10 Z10.out))
    obtain ⟨c1, hc1⟩ : ∃ z, cmp ((C[J]'hi).pl) MP = z := ⟨_, rfl⟩
    have r6 : decide (0 ≤ c1) = false := by rw [← hc1]; exact decide_eq_false (by have := F5.out J _ (List.getElem?_eq_getElem hi) hJ; omega)
    rw [hc1] at CQ
    clear hc1 gru glt g0 g1 g3 hJ hpz F5
    go_wp2_with fail
    refine CQ.out.mono ?_
    rintro e w11 ⟨rfl, b11⟩
    have BY := Lib.hid (bt BX.out b11)
    have Z11 := Lib.hid b11
    clear b11 CQ g2 v1 v2 z1 z2 hi
    go_upto_region 22 with fail
    clear r6 hz
    by_cases hend : K2 = nC
    · have y1 : ((K2 : Int) == (nC : Int)) = true := by simp; omega
      have y2 : decide ((K2 : Int) = (nC : Int)) = true := decide_eq_true (by omega)
      have y3 : (K2 == nC) = true := by simp; omega
      clear F6 CP
      go_wp2
      go_ret
      exact ⟨rfl, BY.out⟩
    have y1 : ((K2 : Int) == (nC : Int)) = false := by simp; omega
    have y2 : decide ((K2 : Int) = (nC : Int)) = false := decide_eq_false (by omega)
    have y3 : (K2 == nC) = false := by simp; omega
    have hi : K2 < C.length := by have := HNC.out; omega
    have z1 : (0 : Int) ≤ (K2 : Int) := by omega
    have z2 : (K2 : Int) < (nC : Int) := by omega
    obtain ⟨gb2, go2, gv, ge, glt, gru, g0, g1, g2, g3⟩ := el_at (EX.out w11 Z11.out) K2 hi
    obtain ⟨rfl, rfl⟩ : gb = gb2 ∧ go = go2 := by injection ge with ge; injection ge with e1 e2; exact ⟨e1, e2⟩
    have CQ := Lib.hid (CP.out w11 _ _ _ _ (PX.out w11 Z11.out) gru)
    obtain ⟨c2, hc2⟩ : ∃ z, cmp MP ((C[K2]'hi).pl) = z := ⟨_, rfl⟩
    have r7 : decide (c2 ≤ 0) = true := by rw [← hc2]; exact decide_eq_true (F6.out _ (List.getElem?_eq_getElem hi))
    rw [hc2] at CQ
    clear F6 CP hc2 gru glt g0 g1 g3
    go_wp2_with fail
    refine CQ.out.mono ?_
    rintro e w12 ⟨rfl, b12⟩
    have BZ := Lib.hid (bt BY.out b12)
    clear b12 CQ g2
    go_wp2
    go_ret
    exact ⟨rfl, BZ.out⟩
end Go.Proofs.YtmiepnnpccpicaaGreat.Anchors
