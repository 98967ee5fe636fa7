/- octavo/view.Offset: its closure, and the search. Conditions: elements in order, a place that may be, or the beginning. octavoref15.At: what it answers. Conditions: the slice's cells are operations; the number is one. octavo/view.Text, Offset, At: what each answers. Conditions: the slice's cells are operations. -/
import Derived.Test.YtmiepnnpccpicaaChecked
import Derived.WalkKit
import Derived.WalkSpells
import Derived.WalkLawsBesides
import Derived.Laws.BytesArg
import Derived.Lib.Hide
import Derived.Deep.LoopGhost
import Derived.Laws.AppendOwnNone
import Derived.Laws.OwnMore
import Derived.WideShapes
import Derived.Maps.AppendAt
import Derived.RegionTactic
import Derived.Deep.RegionHeld3
import Derived.Deep.DrawnRows
import Derived.Deep.QuietTactic
import Derived.BigQuiet
import Derived.IntWalk
import Derived.Deep.DeepCutAuto
import Derived.ScopeJumps
import Derived.Test.YtmiepnnpccpicaaProg
import Derived.LoopTactic
import Derived.Laws.EntriesVeiled
import Derived.RowKit
import Derived.Lib.DecodeN
import Derived.Lib.RuneBytes
import Derived.Shelf.Abstract
import Derived.Maps.Own
import Derived.Maps.OwnOps
import Derived.Maps.OwnSet
import Derived.Maps.Views
import Derived.DeepKeys4
import Derived.Shelf.SlSortCmp.InsertionK
import Derived.Calls
import Derived.StepT
import Derived.Below
import Derived.Sort.Grow
import Derived.Deep.Draws
import Derived.Shelf.SlLaysF0
import Derived.Shelf.SlSortCmp.NoneTotal
import Derived.Scope
import Derived.RangeFuncBox
import Derived.RangeFuncLeaves
import Derived.RangeFuncNested
import Derived.RangeFuncBound
import Derived.RangeFuncCalls
import Derived.OwnWalkIn
import Derived.TacticsInMore
import Derived.LoopNIn
import Derived.LoopIn
import Derived.Lib.Tables
import Derived.Laws.Bits64
import Derived.Test.YtmiepnnpccpicaaShelf
import Derived.Lib.OthersKept
import Derived.BigCall
import Derived.Test.YtmiepnnpccpicaaPk05
import Derived.Test.YtmiepnnpccpicaaPk04
import Derived.Test.YtmiepnnpccpicaaPk03
import Derived.Test.YtmiepnnpccpicaaPk02
import Derived.Test.YtmiepnnpccpicaaPk01
import Derived.Test.YtmiepnnpccpicaaPk09
import Derived.Test.YtmiepnnpccpicaaPk08
import Derived.Test.YtmiepnnpccpicaaPk06
import Derived.Test.YtmiepnnpccpicaaPk07

namespace Go.Proofs.Ytmiepnnpccpicaa.Views
open Go.RowKit Go.WideShapes Stamp Go.Proofs.Ytmiepnnpccpicaa.Place Ops Codes Bags Marks Homes Covers
attribute [local go_sem ↓] Go.wp_at_zero Go.wp_at_succ
attribute [local go_sem] yielded_undef
theorem befM_cons (x : Opn) (c : List Opn) (p : List Run) : befM (x :: c) p = (if Go.Proofs.Ytmiepnnpccpicaa.Place.hold (all x.pl) (all p) < 0 then 1 else 0) + befM c p := by
  unfold befM
  rw [List.filter_cons]
  by_cases h : Go.Proofs.Ytmiepnnpccpicaa.Place.hold (all x.pl) (all p) < 0
  · rw [if_pos (by simpa using h), if_pos h, List.length_cons]; omega
  · rw [if_neg (by simpa using h), if_neg h]; omega
theorem befM_le (c : List Opn) (p : List Run) : befM c p ≤ c.length := List.length_filter_le _ _
theorem bef_iff {p : List Run} : ∀ {c : List Opn}, (∀ o ∈ c, mayO o = true) → c.Pairwise pre → ∀ (i : Nat) (hi : i < c.length), Go.Proofs.Ytmiepnnpccpicaa.Place.hold (all (c[i]'hi).pl) (all p) < 0 ↔ i < befM c p
  | [], _, _, i, hi => by simp at hi
  | a :: c, hm, hs, i, hi => by
    have hs' := List.pairwise_cons.1 hs
    have ih := bef_iff (p := p) (c := c) (fun o ho => hm o (by simp [ho])) hs'.2
    rw [befM_cons]
    by_cases ha : Go.Proofs.Ytmiepnnpccpicaa.Place.hold (all a.pl) (all p) < 0
    · rw [if_pos ha]
      cases i with
      | zero => rw [List.getElem_cons_zero]; exact ⟨fun _ => by omega, fun _ => ha⟩
      | succ i =>
        rw [List.getElem_cons_succ, ih i (by simpa using hi)]
        omega
    · rw [if_neg ha]
      have hn : ∀ y ∈ c, ¬ Go.Proofs.Ytmiepnnpccpicaa.Place.hold (all y.pl) (all p) < 0 := fun y hy h => by
        apply ha
        have h1 := (pre_iff (hm a (by simp)) (hm y (by simp [hy]))).1 (hs'.1 y hy)
        have r1 := hold_range (all a.pl) (all y.pl)
        have r2 := hold_range (all y.pl) (all p)
        have := hold_trans (all a.pl) (all y.pl) (all p) (by omega) (by omega)
        omega
      have h0 : befM c p = 0 := by
        unfold befM
        rw [List.length_eq_zero_iff, List.filter_eq_nil_iff]
        intro y hy
        simpa using hn y hy
      rw [h0]
      cases i with
      | zero => rw [List.getElem_cons_zero]; exact ⟨fun h => absurd h ha, fun h => by omega⟩
      | succ i =>
        rw [List.getElem_cons_succ]
        exact ⟨fun h => absurd h (hn _ (List.getElem_mem _)), fun h => by omega⟩
theorem cmp_hold {x : Opn} {p : List Run} (hx : mayO x = true) (hp : anyB p = true) : cmp x.pl p = Go.Proofs.Ytmiepnnpccpicaa.Place.hold (all x.pl) (all p) := by
  unfold cmp
  exact if_pos ⟨anyB_may (mayO_parts hx).2.1, hp⟩
set_option maxRecDepth 100000 in
set_option maxHeartbeats 4000000 in
theorem vOff1_any {u v : Value} {x : Opn} {p : List Run} {w : World} (hu : Runs w u x.pl) (hv : Runs w v p) :
    Calls Try.prog 26 #[elv x u, v] w fun e w' => e = .returned (.int .i64 (cmp x.pl p)) ∧ Below w.heap.size w w' := by
  have PC : Hid (∀ W : World, Below w.heap.size w W → Calls Try.prog 21 #[u, v] W fun e w' => e = .returned (.int .i64 (cmp x.pl p)) ∧ Below W.heap.size W w') := fun W h => pCompare_any (hu.keeps h) (hv.keeps h)
  have B0 : Hid (Below w.heap.size w (w.alloc (.cells #[.int .u32 (x.t : Int), .int .u8 (x.r : Int), u, .int .i64 x.p] 38))) := (Below.refl _ _).alloc (Nat.le_refl _) _
  obtain ⟨q, hq⟩ : ∃ q, cmp x.pl p = q := ⟨_, rfl⟩
  rw [hq] at PC ⊢
  obtain ⟨uo, uc, rfl⟩ := hu.shape
  obtain ⟨vo, vc, rfl⟩ := hv.shape
  obtain ⟨nu, hnu⟩ : ∃ n, x.pl.length = n := ⟨_, rfl⟩
  obtain ⟨nv, hnv⟩ : ∃ n, p.length = n := ⟨_, rfl⟩
  rw [hnu] at PC B0 ⊢
  rw [hnv] at PC ⊢
  clear hq hu hv hnu hnv
  obtain ⟨k1, t1, r1, l1, p1, hk1, ht1, hr1, hp1⟩ := x
  unfold elv
  simp only at B0 ⊢
  clear hk1 ht1 hr1 hp1
  go_enter Try.func26, Try.ntmps26
  go_wp2_with fail
  refine (PC.out _ B0.out).mono ?_
  rintro e w1 ⟨rfl, b1⟩
  have B1 := Lib.hid (bt B0.out b1)
  clear b1 PC B0
  go_wp2
  go_ret
  exact ⟨rfl, B1.out⟩
set_option maxRecDepth 100000 in
set_option maxHeartbeats 16000000 in
theorem vBin_any {v u : Value} {live : List Opn} {p : List Run} {w : World} (hv : ElL w v live) (hu : Runs w u p) (hl : live.length ≤ 1000000) (hM : ∀ o ∈ live, mayO o = true) (hL : live.Pairwise pre) (hp : anyB p = true) :
    Calls Try.prog 25 #[v, u, .func (.func 26) #[] #[]] w fun e w' => (∃ q : Bool, e = .returned (.tuple #[.int .i64 (befM live p : Int), .bool q])) ∧ Below w.heap.size w w' := by
  obtain ⟨ao, cap, rfl⟩ := hv.shape
  obtain ⟨uo, uc, rfl⟩ := hu.shape
  obtain ⟨n, hn⟩ : ∃ n, n = live.length := ⟨_, rfl⟩
  have HV : Hid (∀ W : World, Below w.heap.size w W → ElL W (.slice ao live.length cap) live) := fun W h => hv.keeps h
  have HN := Lib.hid hn
  have S1 : Hid (∀ (x : Opn) (y : Value) (W : World), x ∈ live → Runs W y x.pl → Below w.heap.size w W → Calls Try.prog 26 #[elv x y, .slice uo p.length uc] W fun e w' => e = .returned (.int .i64 (cmp x.pl p)) ∧ Below W.heap.size W w') := fun x y W hm hy h => vOff1_any hy (hu.keeps h)
  have HLT : Hid (∀ (j : Nat) (h : j < live.length), cmp (live[j]'h).pl p < 0 → j < befM live p) := fun j h hc => by
    rw [cmp_hold (hM _ (List.getElem_mem h)) hp] at hc
    exact (bef_iff hM hL j h).1 hc
  have HGE : Hid (∀ (j : Nat) (h : j < live.length), ¬ cmp (live[j]'h).pl p < 0 → befM live p ≤ j) := fun j h hc => by
    rw [cmp_hold (hM _ (List.getElem_mem h)) hp] at hc
    exact Nat.le_of_not_lt fun h2 => hc ((bef_iff hM hL j h).2 h2)
  have HK := befM_le live p
  obtain ⟨K, hK⟩ : ∃ K, befM live p = K := ⟨_, rfl⟩
  rw [hK] at HLT HGE HK ⊢
  obtain ⟨np, hnp⟩ : ∃ n, p.length = n := ⟨_, rfl⟩
  rw [hnp] at S1 ⊢
  rw [← hn] at hl HK ⊢
  clear hv hn hu hL hM hp hK hnp
  have eg := enters_of Try.func26 (by kernel_rfl) rfl
  have B0 : Hid (Below w.heap.size w w) := Below.refl _ _
  go_enter Try.func25, Try.ntmps25
  go_wp2
  go_loopw [9, 10] (fun x y wr => ∃ lo hi : Nat, x = .int .i64 (lo : Int) ∧ y = .int .i64 (hi : Int) ∧ lo ≤ hi ∧ hi ≤ n ∧ lo ≤ K ∧ K ≤ hi ∧ Hid (Below w.heap.size w wr)) (fun x y _ => (intOf y - intOf x).toNat)
  case atStart => exact ⟨0, n, rfl, rfl, by omega, by omega, by omega, HK, B0⟩
  case round =>
    clear B0
    obtain ⟨lo, hi, rfl, rfl, hlh, hhn, hlow, hhigh, hbel⟩ := hrel
    by_cases hlt : lo < hi
    · obtain ⟨m, hm⟩ : ∃ m, m = (lo + hi) / 2 := ⟨_, rfl⟩
      have em : ((lo : Int) + (hi : Int)) / 2 = (m : Int) := by omega
      have m1 : lo ≤ m := by omega
      have m2 : m < hi := by omega
      have q4 : (0 : Int) ≤ (m : Int) := by omega
      have q5 : (m : Int) < (n : Int) := by omega
      have hml : m < live.length := by rw [← HN.out]; omega
      clear hm
      obtain ⟨bb, oo, u, e, hbb, hru, h0, h1, h2, h3⟩ := el_at (HV.out wr hbel.out) m hml
      cases e
      obtain ⟨x, hx⟩ : ∃ x, x = live[m]'hml := ⟨_, rfl⟩
      rw [← hx] at hru h0 h1 h3
      have HO : Hid (∀ v : Value, elv x v = .agg #[.int .u32 (x.t : Int), .int .u8 (x.r : Int), v, .int .i64 x.p]) := fun v => rfl
      obtain ⟨uo, uc, rfl⟩ := hru.shape
      obtain ⟨nu, hnu⟩ : ∃ n, n = x.pl.length := ⟨_, rfl⟩
      have HNU := Lib.hid hnu
      rw [← hnu] at hru h2
      clear hnu
      have hxm : x ∈ live := by rw [hx]; exact List.getElem_mem _
      have SX := Lib.hid (S1.out x _ wr hxm hru hbel.out)
      obtain ⟨c, hc⟩ : ∃ c, cmp x.pl p = c := ⟨_, rfl⟩
      rw [hc] at SX
      have HLO : Hid (c < 0 → m + 1 ≤ K) := fun h => HLT.out m hml (by rw [← hx, hc]; exact h)
      have HHI : Hid (¬ c < 0 → K ≤ m) := fun h => HGE.out m hml (by rw [← hx, hc]; omega)
      clear hru hx hc hxm
      obtain ⟨t, ht⟩ : ∃ z, x.t = z := ⟨_, rfl⟩
      obtain ⟨r, hr⟩ : ∃ z, x.r = z := ⟨_, rfl⟩
      obtain ⟨p, hp⟩ : ∃ z, x.p = z := ⟨_, rfl⟩
      rw [ht, hr, hp] at HO
      rw [ht] at h0
      rw [hr] at h1
      rw [hp] at h3
      simp only [HO.out] at SX
      clear ht hr hp HO S1 HLT HGE HV hbb
      by_cases hc0 : c < 0
      · have d1 : decide (c < 0) = true := decide_eq_true hc0
        have HN2 := HLO.out hc0
        clear HLO HHI
        go_wp2_with fail
        refine SX.out.mono ?_
        rintro e w1 ⟨rfl, b1⟩
        have BW := Lib.hid (bt hbel.out b1)
        clear b1 SX h0 h1 h2 h3
        go_wp2
        go_roundw
        case rel => exact ⟨m + 1, hi, by go_num, rfl, by omega, hhn, HN2, hhigh, BW⟩
        case measure => simp [intOf]; omega
      · have d1 : decide (c < 0) = false := decide_eq_false hc0
        have HN2 := HHI.out hc0
        clear HLO HHI
        go_wp2_with fail
        refine SX.out.mono ?_
        rintro e w1 ⟨rfl, b1⟩
        have BW := Lib.hid (bt hbel.out b1)
        clear b1 SX h0 h1 h2 h3
        go_wp2
        go_roundw
        case rel => exact ⟨lo, m, rfl, rfl, by omega, by omega, hlow, HN2, BW⟩
        case measure => simp [intOf]; omega
    · obtain rfl : hi = lo := by omega
      obtain rfl : K = hi := by omega
      by_cases hkn : K < n
      rotate_left
      · have q8 : decide (K < n) = false := by simpa using hkn
        clear S1 HLT HGE HV
        go_wp2
        go_ret2
        exact ⟨⟨_, rfl⟩, hbel.out⟩
      have q8 : decide (K < n) = true := by simpa using hkn
      have q4 : (0 : Int) ≤ (K : Int) := by omega
      have q5 : (K : Int) < (n : Int) := by omega
      have hml : K < live.length := by rw [← HN.out]; exact hkn
      obtain ⟨bb, oo, u, e, hbb, hru, h0, h1, h2, h3⟩ := el_at (HV.out wr hbel.out) K hml
      cases e
      obtain ⟨x, hx⟩ : ∃ x, x = live[K]'hml := ⟨_, rfl⟩
      rw [← hx] at hru h0 h1 h3
      have HO : Hid (∀ v : Value, elv x v = .agg #[.int .u32 (x.t : Int), .int .u8 (x.r : Int), v, .int .i64 x.p]) := fun v => rfl
      obtain ⟨uo, uc, rfl⟩ := hru.shape
      obtain ⟨nu, hnu⟩ : ∃ n, n = x.pl.length := ⟨_, rfl⟩
      have HNU := Lib.hid hnu
      rw [← hnu] at hru h2
      clear hnu
      have hxm : x ∈ live := by rw [hx]; exact List.getElem_mem _
      have SX := Lib.hid (S1.out x _ wr hxm hru hbel.out)
      obtain ⟨c, hc⟩ : ∃ c, cmp x.pl p = c := ⟨_, rfl⟩
      rw [hc] at SX
      clear hru hx hc hxm
      obtain ⟨t, ht⟩ : ∃ z, x.t = z := ⟨_, rfl⟩
      obtain ⟨r, hr⟩ : ∃ z, x.r = z := ⟨_, rfl⟩
      obtain ⟨p, hp⟩ : ∃ z, x.p = z := ⟨_, rfl⟩
      rw [ht, hr, hp] at HO
      rw [ht] at h0
      rw [hr] at h1
      rw [hp] at h3
      simp only [HO.out] at SX
      clear ht hr hp HO S1 HLT HGE HV hbb
      by_cases hc0 : c = 0
      · subst hc0
        go_wp2_with fail
        refine SX.out.mono ?_
        rintro e w1 ⟨rfl, b1⟩
        have BW := Lib.hid (bt hbel.out b1)
        clear b1 SX h0 h1 h2 h3
        go_wp2
        go_ret2
        exact ⟨⟨_, rfl⟩, BW.out⟩
      · have d1 : (c == 0) = false := by simpa using hc0
        have d2 : ¬ c = 0 := hc0
        have d3 : decide (c = 0) = false := decide_eq_false hc0
        go_wp2_with fail
        refine SX.out.mono ?_
        rintro e w1 ⟨rfl, b1⟩
        have BW := Lib.hid (bt hbel.out b1)
        clear b1 SX h0 h1 h2 h3
        go_wp2
        go_ret2
        exact ⟨⟨_, rfl⟩, BW.out⟩
end Go.Proofs.Ytmiepnnpccpicaa.Views

namespace Go.Proofs.Ytmiepnnpccpicaa.Views
open Go.RowKit Go.WideShapes Stamp Go.Proofs.Ytmiepnnpccpicaa.Place Ops Codes Bags Marks Homes Covers
attribute [local go_sem ↓] Go.wp_at_zero Go.wp_at_succ
attribute [local go_sem] yielded_undef
def put4 (X : World) (g : Nat) (d0 d1 d2 d3 : Value) : World := (((X.setCell ⟨g, 0, none⟩ d0).setCell ⟨g, 1, none⟩ d1).setCell ⟨g, 2, none⟩ d2).setCell ⟨g, 3, none⟩ d3
theorem put4_same {X : World} {g : Nat} {c0 c1 c2 c3 : Value} (d0 d1 d2 d3 : Value) {e : TypeId} (h : X.heap[g]? = some (.cells #[c0, c1, c2, c3] e)) : (put4 X g d0 d1 d2 d3).heap[g]? = some (.cells #[d0, d1, d2, d3] e) := by
  have h0 := heap_setCell_same X g 0 _ _ d0 h
  have h1 := heap_setCell_same _ g 1 _ _ d1 h0
  have h2 := heap_setCell_same _ g 2 _ _ d2 h1
  have h3 := heap_setCell_same _ g 3 _ _ d3 h2
  exact h3
theorem put4_other {X : World} {g k : Nat} (d0 d1 d2 d3 : Value) {o : Obj} (hk : k ≠ g) (h : X.heap[k]? = some o) : (put4 X g d0 d1 d2 d3).heap[k]? = some o := by
  unfold put4
  rw [heap_setCell_other _ _ _ _ hk, heap_setCell_other _ _ _ _ hk, heap_setCell_other _ _ _ _ hk, heap_setCell_other _ _ _ _ hk]
  exact h
theorem put4_below {B g : Nat} {W X : World} (d0 d1 d2 d3 : Value) (hg : B ≤ g) (h : Below B W X) : Below B W (put4 X g d0 d1 d2 d3) :=
  (((h.setCell (p := ⟨g, 0, none⟩) hg _).setCell (p := ⟨g, 1, none⟩) hg _).setCell (p := ⟨g, 2, none⟩) hg _).setCell (p := ⟨g, 3, none⟩) hg _
theorem free4 {X : World} {g : Nat} {cs : Array Value} {e : TypeId} (h : X.heap[g]? = some (.cells cs e)) (o : Nat) : X.frozen? ⟨g, o, none⟩ = false := by simp [World.frozen?, h]
end Go.Proofs.Ytmiepnnpccpicaa.Views

namespace Go.Proofs.Ytmiepnnpccpicaa.Views
open Go.RowKit Go.WideShapes Stamp Go.Proofs.Ytmiepnnpccpicaa.Place Ops Codes Bags Marks Homes Covers
attribute [local go_sem ↓] Go.wp_at_zero Go.wp_at_succ
attribute [local go_sem] yielded_undef
set_option maxRecDepth 100000 in
set_option maxHeartbeats 8000000 in
theorem vOffset_any {v u : Value} {l : List Opn} {p : List Run} (s : Id) {w : World} (hv : OpL w v l) (hu : Runs w u p) : Calls Try.prog 14 #[v, .agg #[.int .u32 (s.t : Int), .int .u8 (s.r : Int)], u] w fun e w' => e = .returned (.tuple #[.int .i64 ((offN l s p : Nat) : Int), .int .i64 (offE l s p)]) ∧ Below w.heap.size w w' := by
  obtain ⟨wl, hwl⟩ : ∃ x, x = w.alloc (.cells #[.int .u32 (s.t : Int), .int .u8 (s.r : Int)] 30) := ⟨_, rfl⟩
  have B0 : Hid (Below w.heap.size w wl) := by rw [hwl]; exact (Below.refl _ _).alloc (Nat.le_refl _) _
  have Y0 : Hid (wl.heap[w.heap.size]? = some (.cells #[.int .u32 (s.t : Int), .int .u8 (s.r : Int)] 30)) := by rw [hwl]; exact blk_new rfl
  have HW := Lib.hid hwl
  have EL : Hid (Calls Try.prog 17 #[v, .agg #[.int .u32 (s.t : Int), .int .u8 (s.r : Int)]] wl (DoneOE (elmL l s) (spanE l s) wl)) := vElements_any s (hv.keeps B0.out)
  have CK : Hid (∀ W : World, Below w.heap.size w W → Calls Try.prog 13 #[u] W fun e w' => e = .returned (.int .i64 (Go.Proofs.Ytmiepnnpccpicaa.Place.chk p)) ∧ Below W.heap.size W w') := fun W h => Go.Proofs.Ytmiepnnpccpicaa.Place.check_any (hu.keeps h)
  have BN : Hid (anyB p = true → ∀ (W : World) (y : Value), OwnE W w.heap.size y (elmL l s) → Below w.heap.size w W → Calls Try.prog 25 #[y, u, .func (.func 26) #[] #[]] W fun e w' => (∃ q : Bool, e = .returned (.tuple #[.int .i64 (befM (elmL l s) p : Int), .bool q])) ∧ Below W.heap.size W w') := fun hp W y h h2 => vBin_any h.el (hu.keeps h2) (by have := (elm_fits l s).1; omega) (elm_fits l s).2 (elm_sorted l s) hp
  unfold DoneOE at EL
  obtain ⟨L, hL⟩ : ∃ L, elmL l s = L := ⟨_, rfl⟩
  have eN : offN l s p = if spanE l s = 0 ∧ anyB p = true then befM L p else 0 := by unfold offN; rw [hL]
  have eE : offE l s p = if spanE l s = 0 then (if anyB p = true then 0 else 8) else spanE l s := rfl
  rw [hL] at EL BN
  rw [eN, eE]
  obtain ⟨x, hx⟩ : ∃ x, spanE l s = x := ⟨_, rfl⟩
  rw [hx] at EL ⊢
  obtain ⟨uo, uc, rfl⟩ := hu.shape
  have hum := hu.max
  clear hv hu hwl hL eN eE hx
  obtain ⟨ts, rs, hts, hrs⟩ := s
  simp only at Y0 HW EL ⊢
  by_cases h0 : x = 0
  rotate_left
  · rw [if_neg (fun h => h0 h.1), if_neg h0]
    have q0 : (x != 0) = true := by simpa using h0
    have q1 : decide (x = 0) = false := decide_eq_false h0
    generalize p.length = np at *
    have d0 := cell_of_row _ _ 0 _ _ _ Y0.out
    have d1 := cell_of_row _ _ 1 _ _ _ Y0.out
    clear CK BN
    go_enter Try.func14, Try.ntmps14
    go_wp2_with fail
    rw [← HW.out]
    refine EL.out.mono ?_
    rintro e w1 ⟨v1, rfl, o1, b1⟩
    have B1 := Lib.hid (bt B0.out b1)
    clear b1 o1 Y0 B0 HW EL d0 d1
    go_wp2
    exact bodyPost_ret (v := .tuple #[.int .i64 0, .int .i64 x]) (by simp [results, Try.results14, go_sem]) rfl ⟨rfl, B1.out⟩
  subst h0
  have HPA : Hid (anyB p = (decide (p.length = 0) || mayB p)) := rfl
  by_cases hp : anyB p = true
  rotate_left
  · have hp' : anyB p = false := by simpa using hp
    rw [if_neg (fun h => hp h.2), if_pos rfl, if_neg hp]
    have hA := HPA.out
    rw [hp'] at hA
    have hn0 : ¬ p.length = 0 := by
      intro h
      rw [h] at hA
      simp at hA
    have hmb : mayB p = false := by
      rw [decide_eq_false hn0, Bool.false_or] at hA
      exact hA.symm
    have hck : Go.Proofs.Ytmiepnnpccpicaa.Place.chk p = 8 := by unfold Go.Proofs.Ytmiepnnpccpicaa.Place.chk; rw [hmb]; rfl
    rw [hck] at CK
    obtain ⟨np, hnp⟩ : ∃ np, p.length = np := ⟨_, rfl⟩
    rw [hnp] at hn0 hum CK ⊢
    have t1 : decide ((0 : Int) < (np : Int)) = true := decide_eq_true (by omega)
    have t2 : decide (0 < np) = true := decide_eq_true (by omega)
    have d0 := cell_of_row _ _ 0 _ _ _ Y0.out
    have d1 := cell_of_row _ _ 1 _ _ _ Y0.out
    clear BN HPA hp hp' hA hmb hck hnp
    go_enter Try.func14, Try.ntmps14
    go_wp2_with fail
    rw [← HW.out]
    refine EL.out.mono ?_
    rintro e w1 ⟨v1, rfl, o1, b1⟩
    have B1 := Lib.hid (bt B0.out b1)
    clear b1 o1 Y0 B0 HW EL d0 d1
    go_wp2_with fail
    refine (CK.out _ B1.out).mono ?_
    rintro e w2 ⟨rfl, b2⟩
    have B2 := Lib.hid (bt B1.out b2)
    clear b2 CK B1 t1 t2
    go_wp2
    exact bodyPost_ret (v := .tuple #[.int .i64 0, .int .i64 8]) (by simp [results, Try.results14, go_sem]) rfl ⟨rfl, B2.out⟩
  rw [if_pos ⟨rfl, hp⟩, if_pos rfl, if_pos hp]
  have BN2 := Lib.hid (BN.out hp)
  have hk0 : ¬ p.length = 0 → Go.Proofs.Ytmiepnnpccpicaa.Place.chk p = 0 := fun h => by
    have hA := HPA.out
    rw [hp, decide_eq_false h, Bool.false_or] at hA
    unfold Go.Proofs.Ytmiepnnpccpicaa.Place.chk
    rw [← hA]
    rfl
  obtain ⟨c, hc⟩ : ∃ c, Go.Proofs.Ytmiepnnpccpicaa.Place.chk p = c := ⟨_, rfl⟩
  rw [hc] at CK hk0
  obtain ⟨K, hK⟩ : ∃ K, befM L p = K := ⟨_, rfl⟩
  rw [hK] at BN2 ⊢
  obtain ⟨np, hnp⟩ : ∃ np, p.length = np := ⟨_, rfl⟩
  rw [hnp] at hum CK BN2 hk0 ⊢
  clear BN HPA hp hc hK hnp
  have d0 := cell_of_row _ _ 0 _ _ _ Y0.out
  have d1 := cell_of_row _ _ 1 _ _ _ Y0.out
  by_cases hz : np = 0
  · subst hz
    clear CK hk0
    go_enter Try.func14, Try.ntmps14
    go_wp2_with fail
    rw [← HW.out]
    refine EL.out.mono ?_
    rintro e w1 ⟨v1, rfl, o1, b1⟩
    have B1 := Lib.hid (bt B0.out b1)
    have O1 := Lib.hid (o1.base (b' := w.heap.size) B0.out.size)
    clear b1 o1 Y0 B0 HW EL d0 d1
    go_wp2_with fail
    refine (BN2.out _ _ O1.out B1.out).mono ?_
    rintro e w2 ⟨⟨q, rfl⟩, b2⟩
    have B2 := Lib.hid (bt B1.out b2)
    clear b2 B1 O1 BN2
    go_wp2
    exact bodyPost_ret (v := .tuple #[.int .i64 (K : Int), .int .i64 0]) (by simp [results, Try.results14, go_sem]) rfl ⟨rfl, B2.out⟩
  · obtain rfl := hk0 hz
    have t1 : decide ((0 : Int) < (np : Int)) = true := decide_eq_true (by omega)
    have t2 : decide (0 < np) = true := decide_eq_true (by omega)
    clear hk0
    go_enter Try.func14, Try.ntmps14
    go_wp2_with fail
    rw [← HW.out]
    refine EL.out.mono ?_
    rintro e w1 ⟨v1, rfl, o1, b1⟩
    have B1 := Lib.hid (bt B0.out b1)
    have O1 := Lib.hid (o1.base (b' := w.heap.size) B0.out.size)
    clear b1 o1 Y0 B0 HW EL d0 d1
    go_wp2_with fail
    refine (CK.out _ B1.out).mono ?_
    rintro e w2 ⟨rfl, b2⟩
    have B2 := Lib.hid (bt B1.out b2)
    have O2 := Lib.hid (O1.out.keeps b2)
    clear b2 B1 O1 CK t1 t2
    go_wp2_with fail
    refine (BN2.out _ _ O2.out B2.out).mono ?_
    rintro e w3 ⟨⟨q, rfl⟩, b3⟩
    have B3 := Lib.hid (bt B2.out b3)
    clear b3 B2 O2 BN2
    go_wp2
    exact bodyPost_ret (v := .tuple #[.int .i64 (K : Int), .int .i64 0]) (by simp [results, Try.results14, go_sem]) rfl ⟨rfl, B3.out⟩
theorem holdE_at {w : World} {base : Nat} : ∀ {cs : List Value} {l : List Opn}, HoldE w base cs l → ∀ (k : Nat) (h : k < l.length), ∃ y, cs[k * 4 + 2]? = some y ∧ w.ownsRow base 42 3 y (l[k]'h).pl.length (runs (l[k]'h).pl)
  | _, [], _, k, h => by simp at h
  | _, x :: l, ⟨v, d, h1, h2, h3⟩, 0, _ => ⟨v, by rw [h1]; rfl, h2⟩
  | _, x :: l, ⟨v, d, h1, h2, h3⟩, k + 1, h => by
    obtain ⟨y, e1, e2⟩ := holdE_at h3 k (by simpa using h)
    refine ⟨y, ?_, e2⟩
    rw [h1, show (k + 1) * 4 + 2 = k * 4 + 2 + 4 by omega]
    simpa using e1
theorem ownE_place {w : World} {base n cap bb oo : Nat} {v u : Value} {l : List Opn} (hv : OwnE w base v l) (k : Nat) (h : k < l.length) (e : v = .slice (some ⟨bb, oo, none⟩) n cap) (hc : w.cell? ⟨bb, oo + k * 4 + 2, none⟩ = some u) : w.ownsRow base 42 3 u (l[k]'h).pl.length (runs (l[k]'h).pl) := by
  obtain ⟨cs, h1, h2⟩ := hv
  obtain ⟨y, e1, e2⟩ := holdE_at h2 k h
  rcases h1.2 with ⟨_, h0⟩ | ⟨g, c2, cur, rfl, _⟩
  · omega
  · injection e with e _ _
    injection e with e
    injection e with e3 e4 _
    subst e3 e4
    rw [Nat.zero_add, h1.cellAt (k * 4 + 2) (by omega), e1] at hc
    injection hc with hc
    subst hc
    exact e2
theorem own_put4 {X : World} {g base n : Nat} {u : Value} {rs : List Value} {cs : Array Value} (d0 d1 d2 d3 : Value) (h : X.ownsRow base 42 3 u n rs) (hg : X.heap[g]? = some (.cells cs 38)) : (put4 X g d0 d1 d2 d3).ownsRow base 42 3 u n rs := by
  refine ⟨h.1, ?_⟩
  rcases h.2 with h | ⟨b, cap, c, e1, e2, e3, e4⟩
  · exact .inl h
  · refine .inr ⟨b, cap, c, e1, e2, put4_other d0 d1 d2 d3 ?_ e3, e4⟩
    rintro rfl
    rw [hg] at e3
    injection e3 with e3
    injection e3 with _ e3 _
    exact absurd e3 (by decide)
set_option maxRecDepth 100000 in
set_option maxHeartbeats 8000000 in
theorem vAt_any {v : Value} {l : List Opn} (s : Id) (k : Int) {w : World} (hv : OpL w v l) : Calls Try.prog 10 #[v, .agg #[.int .u32 (s.t : Int), .int .u8 (s.r : Int)], .int .i64 k] w (OneE (atL l s k) (atE l s k) w) := by
  obtain ⟨wb, hwb⟩ : ∃ x, x = w.alloc (.cells #[.int .u32 (s.t : Int), .int .u8 (s.r : Int)] 30) := ⟨_, rfl⟩
  obtain ⟨wl, hwl⟩ : ∃ x, x = wb.alloc (.cells #[.int .u32 0, .int .u8 0, .slice none 0 0, .int .i64 0] 38) := ⟨_, rfl⟩
  have hsz : wb.heap.size = w.heap.size + 1 := by rw [hwb]; exact Array.size_push _
  have X0 : Hid (wl.heap[w.heap.size + 1]? = some (.cells #[.int .u32 0, .int .u8 0, .slice none 0 0, .int .i64 0] 38)) := by rw [hwl, ← hsz]; exact blk_new rfl
  have Bb : Below w.heap.size w wb := by rw [hwb]; exact (Below.refl _ _).alloc (Nat.le_refl _) _
  have Y0 : Hid (wl.heap[w.heap.size]? = some (.cells #[.int .u32 (s.t : Int), .int .u8 (s.r : Int)] 30)) := by
    have h1 : wb.heap[w.heap.size]? = some (.cells #[.int .u32 (s.t : Int), .int .u8 (s.r : Int)] 30) := by rw [hwb]; exact blk_new rfl
    rw [hwl]
    exact blk_below ((Below.refl _ _).alloc (Nat.le_refl _) _) h1
  have B0 : Hid (Below w.heap.size w wl) := by rw [hwl]; exact Bb.alloc (by omega) _
  have HW : Hid (wl = (w.alloc (.cells #[.int .u32 (s.t : Int), .int .u8 (s.r : Int)] 30)).alloc (.cells #[.int .u32 0, .int .u8 0, .slice none 0 0, .int .i64 0] 38)) := by rw [hwl, hwb]; rfl
  have EL : Hid (Calls Try.prog 17 #[v, .agg #[.int .u32 (s.t : Int), .int .u8 (s.r : Int)]] wl (DoneOE (elmL l s) (spanE l s) wl)) := vElements_any s (hv.keeps B0.out)
  have hlen := (elm_fits l s).1
  unfold DoneOE at EL
  have eE : atE l s k = if spanE l s = 0 then (if 0 ≤ k ∧ k < ((elmL l s).length : Int) then 0 else 2) else spanE l s := rfl
  have eL : atL l s k = if spanE l s = 0 ∧ 0 ≤ k ∧ k < ((elmL l s).length : Int) then (elmL l s).getD k.toNat Codes.zop else Codes.zop := rfl
  rw [eE, eL]
  obtain ⟨L, hL⟩ : ∃ L, elmL l s = L := ⟨_, rfl⟩
  rw [hL] at EL hlen ⊢
  obtain ⟨x, hx⟩ : ∃ x, spanE l s = x := ⟨_, rfl⟩
  rw [hx] at EL ⊢
  clear hv hwl hwb hsz Bb hL hx eE eL
  obtain ⟨ts, rs, hts, hrs⟩ := s
  simp only at Y0 HW EL ⊢
  by_cases h0 : x = 0
  rotate_left
  · rw [if_neg (fun h => h0 h.1), if_neg h0]
    have q0 : (x != 0) = true := by simpa using h0
    have q1 : decide (x = 0) = false := decide_eq_false h0
    have d0 := cell_of_row _ _ 0 _ _ _ Y0.out
    have d1 := cell_of_row _ _ 1 _ _ _ Y0.out
    go_enter Try.func10, Try.ntmps10
    go_wp2_with fail
    rw [← HW.out]
    refine EL.out.mono ?_
    rintro e w1 ⟨v1, rfl, o1, b1⟩
    obtain ⟨ea, ec, rfl⟩ := o1.el.shape
    have O1 : Hid (OwnE w1 w.heap.size (.slice ea _ ec) L) := o1.base B0.out.size
    have B1 := Lib.hid (bt B0.out b1)
    have X1 := Lib.hid (blk_below b1 X0.out)
    clear b1 o1 Y0 X0 B0 HW EL d0 d1
    obtain ⟨c0, c1, c2, c3⟩ := cells4 X1.out
    have f0 : ∀ o, w1.frozen? ⟨w.heap.size + 1, o, none⟩ = false := fun o => free4 X1.out o
    have HF := Lib.hid (put4_same (.int .u32 0) (.int .u8 0) (.slice none 0 0) (.int .i64 0) X1.out)
    have BF := Lib.hid (put4_below (.int .u32 0) (.int .u8 0) (.slice none 0 0) (.int .i64 0) (Nat.le_add_right w.heap.size 1) B1.out)
    obtain ⟨WF, hWF⟩ : ∃ WF, put4 w1 (w.heap.size + 1) (.int .u32 0) (.int .u8 0) (.slice none 0 0) (.int .i64 0) = WF := ⟨_, rfl⟩
    rw [hWF] at HF BF
    unfold put4 at hWF
    have HX := Lib.hid hWF
    clear hWF X1 B1 O1
    go_wp2
    rw [HX.out]
    obtain ⟨e0, e1, e2, e3⟩ := cells4 HF.out
    exact bodyPost_ret (v := .tuple #[.agg #[.int .u32 0, .int .u8 0, .slice none 0 0, .int .i64 0], .int .i64 x]) (by simp [results, Try.results10, go_sem, e0, e1, e2, e3]) rfl ⟨_, rfl, World.ownsRow_nil _ _ _ _, BF.out⟩
  subst h0
  obtain ⟨n, hn⟩ : ∃ n, L.length = n := ⟨_, rfl⟩
  have HN := Lib.hid hn
  by_cases hk : 0 ≤ k ∧ k < (L.length : Int)
  rotate_left
  · rw [if_neg (fun h => hk h.2), if_pos rfl, if_neg hk]
    rw [hn] at hk hlen
    by_cases hneg : k < 0
    · have q2 : decide (k < 0) = true := decide_eq_true hneg
      have d0 := cell_of_row _ _ 0 _ _ _ Y0.out
      have d1 := cell_of_row _ _ 1 _ _ _ Y0.out
      go_enter Try.func10, Try.ntmps10
      go_wp2_with fail
      rw [← HW.out]
      refine EL.out.mono ?_
      rintro e w1 ⟨v1, rfl, o1, b1⟩
      obtain ⟨ea, ec, rfl⟩ := o1.el.shape
      have O1 : Hid (OwnE w1 w.heap.size (.slice ea _ ec) L) := o1.base B0.out.size
      have B1 := Lib.hid (bt B0.out b1)
      have X1 := Lib.hid (blk_below b1 X0.out)
      clear b1 o1 Y0 X0 B0 HW EL d0 d1
      rw [HN.out]
      obtain ⟨c0, c1, c2, c3⟩ := cells4 X1.out
      have f0 : ∀ o, w1.frozen? ⟨w.heap.size + 1, o, none⟩ = false := fun o => free4 X1.out o
      have HF := Lib.hid (put4_same (.int .u32 0) (.int .u8 0) (.slice none 0 0) (.int .i64 0) X1.out)
      have BF := Lib.hid (put4_below (.int .u32 0) (.int .u8 0) (.slice none 0 0) (.int .i64 0) (Nat.le_add_right w.heap.size 1) B1.out)
      obtain ⟨WF, hWF⟩ : ∃ WF, put4 w1 (w.heap.size + 1) (.int .u32 0) (.int .u8 0) (.slice none 0 0) (.int .i64 0) = WF := ⟨_, rfl⟩
      rw [hWF] at HF BF
      unfold put4 at hWF
      have HX := Lib.hid hWF
      clear hWF X1 B1 O1
      go_wp2
      rw [HX.out]
      obtain ⟨e0, e1, e2, e3⟩ := cells4 HF.out
      exact bodyPost_ret (v := .tuple #[.agg #[.int .u32 0, .int .u8 0, .slice none 0 0, .int .i64 0], .int .i64 2]) (by simp [results, Try.results10, go_sem, e0, e1, e2, e3]) rfl ⟨_, rfl, World.ownsRow_nil _ _ _ _, BF.out⟩
    · have q2 : decide (k < 0) = false := decide_eq_false hneg
      have q3 : decide ((n : Int) ≤ k) = true := decide_eq_true (by omega)
      have d0 := cell_of_row _ _ 0 _ _ _ Y0.out
      have d1 := cell_of_row _ _ 1 _ _ _ Y0.out
      go_enter Try.func10, Try.ntmps10
      go_wp2_with fail
      rw [← HW.out]
      refine EL.out.mono ?_
      rintro e w1 ⟨v1, rfl, o1, b1⟩
      obtain ⟨ea, ec, rfl⟩ := o1.el.shape
      have O1 : Hid (OwnE w1 w.heap.size (.slice ea _ ec) L) := o1.base B0.out.size
      have B1 := Lib.hid (bt B0.out b1)
      have X1 := Lib.hid (blk_below b1 X0.out)
      clear b1 o1 Y0 X0 B0 HW EL d0 d1
      rw [HN.out]
      obtain ⟨c0, c1, c2, c3⟩ := cells4 X1.out
      have f0 : ∀ o, w1.frozen? ⟨w.heap.size + 1, o, none⟩ = false := fun o => free4 X1.out o
      have HF := Lib.hid (put4_same (.int .u32 0) (.int .u8 0) (.slice none 0 0) (.int .i64 0) X1.out)
      have BF := Lib.hid (put4_below (.int .u32 0) (.int .u8 0) (.slice none 0 0) (.int .i64 0) (Nat.le_add_right w.heap.size 1) B1.out)
      obtain ⟨WF, hWF⟩ : ∃ WF, put4 w1 (w.heap.size + 1) (.int .u32 0) (.int .u8 0) (.slice none 0 0) (.int .i64 0) = WF := ⟨_, rfl⟩
      rw [hWF] at HF BF
      unfold put4 at hWF
      have HX := Lib.hid hWF
      clear hWF X1 B1 O1
      go_wp2
      rw [HX.out]
      obtain ⟨e0, e1, e2, e3⟩ := cells4 HF.out
      exact bodyPost_ret (v := .tuple #[.agg #[.int .u32 0, .int .u8 0, .slice none 0 0, .int .i64 0], .int .i64 2]) (by simp [results, Try.results10, go_sem, e0, e1, e2, e3]) rfl ⟨_, rfl, World.ownsRow_nil _ _ _ _, BF.out⟩
  rw [if_pos ⟨rfl, hk⟩, if_pos rfl, if_pos hk]
  obtain ⟨j, rfl⟩ : ∃ j : Nat, k = (j : Int) := ⟨k.toNat, by omega⟩
  rw [Int.toNat_natCast]
  have hjl : j < L.length := by omega
  have hg : L.getD j Codes.zop = L[j]'hjl := by rw [List.getD_eq_getElem?_getD, List.getElem?_eq_getElem hjl]; rfl
  rw [hg]
  obtain ⟨y, hy⟩ : ∃ y, L[j]'hjl = y := ⟨_, rfl⟩
  rw [hn] at hk hlen
  rw [hy]
  have HY := Lib.hid hy
  clear hy
  obtain ⟨yk, t, r, yl, p, hyk, ht, hr, hp⟩ := y
  unfold OneE elv
  simp only
  have q2 : decide ((j : Int) < 0) = false := decide_eq_false (by omega)
  have q3 : decide ((n : Int) ≤ (j : Int)) = false := decide_eq_false (by omega)
  have q3' : decide (n ≤ j) = false := decide_eq_false (by omega)
  have q4 : (0 : Int) ≤ (j : Int) := by omega
  have q5 : (j : Int) < (n : Int) := by omega
  clear hg hn
  have d0 := cell_of_row _ _ 0 _ _ _ Y0.out
  have d1 := cell_of_row _ _ 1 _ _ _ Y0.out
  go_enter Try.func10, Try.ntmps10
  go_wp2_with fail
  rw [← HW.out]
  refine EL.out.mono ?_
  rintro e w1 ⟨v1, rfl, o1, b1⟩
  obtain ⟨ea, ec, rfl⟩ := o1.el.shape
  have O1 : Hid (OwnE w1 w.heap.size (.slice ea _ ec) L) := o1.base B0.out.size
  have B1 := Lib.hid (bt B0.out b1)
  have X1 := Lib.hid (blk_below b1 X0.out)
  clear b1 o1 Y0 X0 B0 HW EL d0 d1
  obtain ⟨bb, oo, u, e, hbb, hru, h0, h1, h2, h3⟩ := el_at O1.out.el j hjl
  have hrow := ownE_place O1.out j hjl (by rw [e]) h2
  cases e
  rw [HY.out] at hru h0 h1 h3 hrow
  simp only at hru h0 h1 h3 hrow
  obtain ⟨uo, uc, rfl⟩ := hru.shape
  have RU := Lib.hid hrow
  rw [HN.out]
  obtain ⟨ny, hny⟩ : ∃ z, yl.length = z := ⟨_, rfl⟩
  have HNY := Lib.hid hny
  rw [hny] at RU h2
  clear hru hrow hny HY hbb
  obtain ⟨c0, c1, c2, c3⟩ := cells4 X1.out
  have f0 : ∀ o, w1.frozen? ⟨w.heap.size + 1, o, none⟩ = false := fun o => free4 X1.out o
  have HF := Lib.hid (put4_same (.int .u32 (t : Int)) (.int .u8 (r : Int)) (.slice uo ny uc) (.int .i64 p) X1.out)
  have BF := Lib.hid (put4_below (.int .u32 (t : Int)) (.int .u8 (r : Int)) (.slice uo ny uc) (.int .i64 p) (Nat.le_add_right w.heap.size 1) B1.out)
  have RF := Lib.hid (own_put4 (.int .u32 (t : Int)) (.int .u8 (r : Int)) (.slice uo ny uc) (.int .i64 p) RU.out X1.out)
  obtain ⟨WF, hWF⟩ : ∃ WF, put4 w1 (w.heap.size + 1) (.int .u32 (t : Int)) (.int .u8 (r : Int)) (.slice uo ny uc) (.int .i64 p) = WF := ⟨_, rfl⟩
  rw [hWF] at HF BF RF
  unfold put4 at hWF
  have HX := Lib.hid hWF
  clear hWF X1 B1 O1
  go_wp2
  rw [HX.out]
  obtain ⟨e0, e1, e2, e3⟩ := cells4 HF.out
  exact bodyPost_ret (v := .tuple #[.agg #[.int .u32 (t : Int), .int .u8 (r : Int), .slice uo ny uc, .int .i64 p], .int .i64 0]) (by simp [results, Try.results10, go_sem, e0, e1, e2, e3]) rfl ⟨_, rfl, by rw [HNY.out]; exact RF.out, BF.out⟩
end Go.Proofs.Ytmiepnnpccpicaa.Views
