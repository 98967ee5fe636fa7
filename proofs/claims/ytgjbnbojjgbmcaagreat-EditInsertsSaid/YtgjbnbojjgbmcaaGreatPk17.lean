/- octavo/bag.search: what it answers. Conditions: the slice's cells are operations whose stamps rise, not more than a million. slices.Insert of one operation into a list of the call's own without room: what it answers. Conditions: at most 1024 operations. octavo/bag.Add: what it answers. Conditions: the slice's cells are operations, the place's are runs. octavolaw11.one, put, alive: what each answers. Conditions: the slices' cells are operations. Arguments of five, six and seven parameters, one by one. Conditions: none. -/
import Derived.Test.YtgjbnbojjgbmcaaGreatChecked
import Derived.WalkKit
import Derived.WalkSpells
import Derived.WalkLawsBesides
import Derived.Laws.BytesArg
import Derived.Lib.Hide
import Derived.Deep.LoopGhost
import Derived.Laws.AppendOwnNone
import Derived.Laws.OwnMore
import Derived.WideShapes
import Derived.Maps.AppendAt
import Derived.RegionTactic
import Derived.Deep.RegionHeld3
import Derived.Deep.DrawnRows
import Derived.Deep.QuietTactic
import Derived.BigQuiet
import Derived.IntWalk
import Derived.Deep.DeepCutAuto
import Derived.ScopeJumps
import Derived.Test.YtgjbnbojjgbmcaaGreatProg
import Derived.LoopTactic
import Derived.Laws.EntriesVeiled
import Derived.RowKit
import Derived.Shelf.Abstract
import Derived.Laws.CopyOwn
import Derived.Deep.AppendSrc
import Derived.Lib.AppendZeros
import Derived.Lib.AppendZerosOnto
import Derived.Laws.NewBlocks
import Derived.Deep.RegionLaw
import Derived.Laws.MakeOwn
import Derived.RangeFuncBox
import Derived.RangeFuncLeaves
import Derived.RangeFuncNested
import Derived.RangeFuncBound
import Derived.RangeFuncCalls
import Derived.OwnWalkIn
import Derived.TacticsInMore
import Derived.LoopNIn
import Derived.LoopIn
import Derived.Maps.Own
import Derived.Maps.OwnOps
import Derived.Maps.Views
import Derived.Lib.Tables
import Derived.Laws.Bits64
import Derived.Scope
import Derived.Test.YtgjbnbojjgbmcaaGreatRows
import Derived.ProofKit
import Derived.SizedLaws
import Derived.Test.YtgjbnbojjgbmcaaGreatRw
import Derived.Test.YtgjbnbojjgbmcaaGreatPk14
import Derived.Test.YtgjbnbojjgbmcaaGreatPk16
import Derived.Test.YtgjbnbojjgbmcaaGreatPk04
import Derived.Test.YtgjbnbojjgbmcaaGreatPk03
import Derived.Test.YtgjbnbojjgbmcaaGreatPk02
import Derived.Test.YtgjbnbojjgbmcaaGreatPk01
import Derived.Test.YtgjbnbojjgbmcaaGreatPk15
import Derived.Test.YtgjbnbojjgbmcaaGreatPk11
import Derived.Test.YtgjbnbojjgbmcaaGreatPk09

namespace Go.Proofs.YtgjbnbojjgbmcaaGreat.Bags
open Go.RowKit Go.WideShapes Stamp Go.Proofs.YtgjbnbojjgbmcaaGreat.Place Ops Codes
attribute [local go_sem ↓] Go.wp_at_zero Go.wp_at_succ
attribute [local go_sem] yielded_undef
def cmpI (x : Opn) (a : Id) : Int := if lessI x a then -1 else if moreI x a then 1 else 0
theorem cmpI_zero {x : Opn} {a : Id} : cmpI x a = 0 ↔ idO x = a := by
  rw [← lessI_eq]
  unfold cmpI
  by_cases h : lessI x a
  · simp [h]
  · by_cases h2 : moreI x a <;> simp [h, h2]
theorem cmpI_neg {x : Opn} {a : Id} : cmpI x a < 0 ↔ lessI x a := by
  unfold cmpI
  by_cases h : lessI x a
  · simp [h]
  · by_cases h2 : moreI x a <;> simp [h, h2]
set_option maxHeartbeats 4000000 in
theorem srch1_any (x : Opn) (a : Id) (uo : Option Addr) (un uc : Nat) (w : World) :
    Calls Tryz.prog 144 #[opv x (.slice uo un uc), .agg #[.int .u32 (a.t : Int), .int .u8 (a.r : Int)]] w fun e w' => e = .returned (.int .i64 (cmpI x a)) ∧ Below w.heap.size w w' := by
  have LX : Hid (∀ W : World, Calls Tryz.prog 110 #[.agg #[.int .u32 (x.t : Int), .int .u8 (x.r : Int)], .agg #[.int .u32 (a.t : Int), .int .u8 (a.r : Int)]] W fun e w' => e = .returned (.bool (decide (lessI x a))) ∧ Below W.heap.size W w') := fun W => by
    have := less_any x.t x.r a.t a.r x.ht x.hr a.ht a.hr W
    rwa [show less x.t x.r a.t a.r = decide (lessI x a) from rfl] at this
  have LY : Hid (∀ W : World, Calls Tryz.prog 110 #[.agg #[.int .u32 (a.t : Int), .int .u8 (a.r : Int)], .agg #[.int .u32 (x.t : Int), .int .u8 (x.r : Int)]] W fun e w' => e = .returned (.bool (decide (moreI x a))) ∧ Below W.heap.size W w') := fun W => by
    have := less_any a.t a.r x.t x.r a.ht a.hr x.ht x.hr W
    rwa [show less a.t a.r x.t x.r = decide (moreI x a) from rfl] at this
  obtain ⟨c, hc⟩ : ∃ c, cmpI x a = c := ⟨_, rfl⟩
  have HC : Hid (cmpI x a = c) := hc
  rw [hc]
  clear hc
  have HO : Hid (∀ v : Value, opv x v = .agg #[.int .u8 (x.k : Int), .int .u32 (x.t : Int), .int .u8 (x.r : Int), v, .int .i64 x.p]) := fun v => rfl
  simp only [HO.out]
  have C1 : Hid (lessI x a → c = -1) := fun h => by rw [← HC.out]; unfold cmpI; rw [if_pos h]
  have C2 : Hid (¬ lessI x a → moreI x a → c = 1) := fun h h2 => by rw [← HC.out]; unfold cmpI; rw [if_neg h, if_pos h2]
  have C3 : Hid (¬ lessI x a → ¬ moreI x a → c = 0) := fun h h2 => by rw [← HC.out]; unfold cmpI; rw [if_neg h, if_neg h2]
  by_cases h1 : lessI x a
  · obtain rfl := C1.out h1
    rw [decide_eq_true h1] at LX
    clear C2 C3 C1 HC LY
    obtain ⟨k, hk⟩ : ∃ z, x.k = z := ⟨_, rfl⟩
    obtain ⟨t, ht⟩ : ∃ z, x.t = z := ⟨_, rfl⟩
    obtain ⟨r, hr⟩ : ∃ z, x.r = z := ⟨_, rfl⟩
    obtain ⟨p, hp⟩ : ∃ z, x.p = z := ⟨_, rfl⟩
    obtain ⟨s, hs⟩ : ∃ z, a.t = z := ⟨_, rfl⟩
    obtain ⟨q, hq⟩ : ∃ z, a.r = z := ⟨_, rfl⟩
    rw [hk, ht, hr, hp, hs, hq]
    rw [ht, hr, hs, hq] at LX
    have B0 : Hid (Below w.heap.size w ((w.alloc (.cells #[.int .u8 (k : Int), .int .u32 (t : Int), .int .u8 (r : Int), .slice uo un uc, .int .i64 p] 38)).alloc (.cells #[.int .u32 (s : Int), .int .u8 (q : Int)] 28))) := ((Below.refl _ _).alloc (Nat.le_refl _) _).alloc (by simp) _
    clear hk ht hr hp hs hq HO
    go_enter Tryz.func144, Tryz.ntmps144
    go_wp2_with fail
    refine (LX.out _).mono ?_
    rintro e w1 ⟨rfl, b1⟩
    have B1 := Lib.hid (bt B0.out b1)
    clear b1
    go_wp2
    go_ret
    exact ⟨rfl, B1.out⟩
  rw [decide_eq_false h1] at LX
  by_cases h2 : moreI x a
  · obtain rfl := C2.out h1 h2
    rw [decide_eq_true h2] at LY
    clear C1 C2 C3 HC
    obtain ⟨k, hk⟩ : ∃ z, x.k = z := ⟨_, rfl⟩
    obtain ⟨t, ht⟩ : ∃ z, x.t = z := ⟨_, rfl⟩
    obtain ⟨r, hr⟩ : ∃ z, x.r = z := ⟨_, rfl⟩
    obtain ⟨p, hp⟩ : ∃ z, x.p = z := ⟨_, rfl⟩
    obtain ⟨s, hs⟩ : ∃ z, a.t = z := ⟨_, rfl⟩
    obtain ⟨q, hq⟩ : ∃ z, a.r = z := ⟨_, rfl⟩
    rw [hk, ht, hr, hp, hs, hq]
    rw [ht, hr, hs, hq] at LX LY
    have B0 : Hid (Below w.heap.size w ((w.alloc (.cells #[.int .u8 (k : Int), .int .u32 (t : Int), .int .u8 (r : Int), .slice uo un uc, .int .i64 p] 38)).alloc (.cells #[.int .u32 (s : Int), .int .u8 (q : Int)] 28))) := ((Below.refl _ _).alloc (Nat.le_refl _) _).alloc (by simp) _
    clear hk ht hr hp hs hq HO
    have CE : Hid (∀ w2 : World, Below ((w.alloc (.cells #[.int .u8 (k : Int), .int .u32 (t : Int), .int .u8 (r : Int), .slice uo un uc, .int .i64 p] 38)).alloc (.cells #[.int .u32 (s : Int), .int .u8 (q : Int)] 28)).heap.size ((w.alloc (.cells #[.int .u8 (k : Int), .int .u32 (t : Int), .int .u8 (r : Int), .slice uo un uc, .int .i64 p] 38)).alloc (.cells #[.int .u32 (s : Int), .int .u8 (q : Int)] 28)) w2 →
        w2.cell? ⟨w.heap.size, 1, none⟩ = some (.int .u32 (t : Int)) ∧ w2.cell? ⟨w.heap.size, 2, none⟩ = some (.int .u8 (r : Int)) ∧ w2.cell? ⟨w.heap.size + 1, 0, none⟩ = some (.int .u32 (s : Int)) ∧ w2.cell? ⟨w.heap.size + 1, 1, none⟩ = some (.int .u8 (q : Int))) := fun w2 h => by
      have g1 : w2.heap[w.heap.size]? = some (.cells #[.int .u8 (k : Int), .int .u32 (t : Int), .int .u8 (r : Int), .slice uo un uc, .int .i64 p] 38) := blk_below h (blk_old (blk_new rfl))
      have g2 : w2.heap[w.heap.size + 1]? = some (.cells #[.int .u32 (s : Int), .int .u8 (q : Int)] 28) := blk_below h (blk_new (by simp))
      exact ⟨(cells5 g1).2.1, (cells5 g1).2.2.1, (cells_blk g2).1, (cells_blk g2).2.1⟩
    go_enter Tryz.func144, Tryz.ntmps144
    go_wp2_with fail
    refine (LX.out _).mono ?_
    rintro e w1 ⟨rfl, b1⟩
    have B1 := Lib.hid (bt B0.out b1)
    obtain ⟨g1, g2, g3, g4⟩ := CE.out _ b1
    clear b1 CE
    go_wp2_with fail
    refine (LY.out _).mono ?_
    rintro e w2 ⟨rfl, b2⟩
    have B2 := Lib.hid (bt B1.out b2)
    clear b2
    go_wp2
    go_ret
    exact ⟨rfl, B2.out⟩
  · obtain rfl := C3.out h1 h2
    rw [decide_eq_false h2] at LY
    clear C1 C2 C3 HC
    obtain ⟨k, hk⟩ : ∃ z, x.k = z := ⟨_, rfl⟩
    obtain ⟨t, ht⟩ : ∃ z, x.t = z := ⟨_, rfl⟩
    obtain ⟨r, hr⟩ : ∃ z, x.r = z := ⟨_, rfl⟩
    obtain ⟨p, hp⟩ : ∃ z, x.p = z := ⟨_, rfl⟩
    obtain ⟨s, hs⟩ : ∃ z, a.t = z := ⟨_, rfl⟩
    obtain ⟨q, hq⟩ : ∃ z, a.r = z := ⟨_, rfl⟩
    rw [hk, ht, hr, hp, hs, hq]
    rw [ht, hr, hs, hq] at LX LY
    have B0 : Hid (Below w.heap.size w ((w.alloc (.cells #[.int .u8 (k : Int), .int .u32 (t : Int), .int .u8 (r : Int), .slice uo un uc, .int .i64 p] 38)).alloc (.cells #[.int .u32 (s : Int), .int .u8 (q : Int)] 28))) := ((Below.refl _ _).alloc (Nat.le_refl _) _).alloc (by simp) _
    clear hk ht hr hp hs hq HO
    have CE : Hid (∀ w2 : World, Below ((w.alloc (.cells #[.int .u8 (k : Int), .int .u32 (t : Int), .int .u8 (r : Int), .slice uo un uc, .int .i64 p] 38)).alloc (.cells #[.int .u32 (s : Int), .int .u8 (q : Int)] 28)).heap.size ((w.alloc (.cells #[.int .u8 (k : Int), .int .u32 (t : Int), .int .u8 (r : Int), .slice uo un uc, .int .i64 p] 38)).alloc (.cells #[.int .u32 (s : Int), .int .u8 (q : Int)] 28)) w2 →
        w2.cell? ⟨w.heap.size, 1, none⟩ = some (.int .u32 (t : Int)) ∧ w2.cell? ⟨w.heap.size, 2, none⟩ = some (.int .u8 (r : Int)) ∧ w2.cell? ⟨w.heap.size + 1, 0, none⟩ = some (.int .u32 (s : Int)) ∧ w2.cell? ⟨w.heap.size + 1, 1, none⟩ = some (.int .u8 (q : Int))) := fun w2 h => by
      have g1 : w2.heap[w.heap.size]? = some (.cells #[.int .u8 (k : Int), .int .u32 (t : Int), .int .u8 (r : Int), .slice uo un uc, .int .i64 p] 38) := blk_below h (blk_old (blk_new rfl))
      have g2 : w2.heap[w.heap.size + 1]? = some (.cells #[.int .u32 (s : Int), .int .u8 (q : Int)] 28) := blk_below h (blk_new (by simp))
      exact ⟨(cells5 g1).2.1, (cells5 g1).2.2.1, (cells_blk g2).1, (cells_blk g2).2.1⟩
    go_enter Tryz.func144, Tryz.ntmps144
    go_wp2_with fail
    refine (LX.out _).mono ?_
    rintro e w1 ⟨rfl, b1⟩
    have B1 := Lib.hid (bt B0.out b1)
    obtain ⟨g1, g2, g3, g4⟩ := CE.out _ b1
    clear b1 CE
    go_wp2_with fail
    refine (LY.out _).mono ?_
    rintro e w2 ⟨rfl, b2⟩
    have B2 := Lib.hid (bt B1.out b2)
    clear b2
    go_wp2
    go_ret
    exact ⟨rfl, B2.out⟩
set_option maxRecDepth 100000 in
set_option maxHeartbeats 16000000 in
theorem bBin_any {v : Value} {l : List Opn} (a : Id) {w : World} (hv : OpL w v l) (hl : l.length ≤ 1000000) (hpw : l.Pairwise lessO) :
    Calls Tryz.prog 143 #[v, .agg #[.int .u32 (a.t : Int), .int .u8 (a.r : Int)], .func (.func 144) #[] #[]] w fun e w' => ∃ k : Nat, e = .returned (.tuple #[.int .i64 (k : Int), .bool (hasO l a)]) ∧ Pos l a k ∧ Below w.heap.size w w' := by
  obtain ⟨ao, cap, rfl⟩ := hv.shape
  obtain ⟨n, hn⟩ : ∃ n, n = l.length := ⟨_, rfl⟩
  have HV : Hid (∀ W : World, Below w.heap.size w W → OpL W (.slice ao l.length cap) l) := fun W h => hv.keeps h
  have HN := Lib.hid hn
  have HPW := Lib.hid hpw
  have S1 : Hid (∀ (x : Opn) (uo : Option Addr) (un uc : Nat) (W : World), Calls Tryz.prog 144 #[opv x (.slice uo un uc), .agg #[.int .u32 (a.t : Int), .int .u8 (a.r : Int)]] W fun e w' => e = .returned (.int .i64 (cmpI x a)) ∧ Below W.heap.size W w') := fun x uo un uc W => srch1_any x a uo un uc W
  have HLT : Hid (∀ (lo hi j : Nat) (h : j < l.length), (∀ t (h : t < l.length), t < lo → lessI (l[t]'h) a) → cmpI (l[j]'h) a < 0 → ∀ t (h : t < l.length), t < j + 1 → lessI (l[t]'h) a) := fun lo hi j h _ hc t h2 h3 => lessI_mono hpw h (by omega) (cmpI_neg.1 hc)
  have HGE : Hid (∀ (j : Nat) (h : j < l.length), ¬ cmpI (l[j]'h) a < 0 → ∀ t (h : t < l.length), j ≤ t → ¬ lessI (l[t]'h) a) := fun j h hc t h2 h3 hk => hc (cmpI_neg.2 (lessI_mono hpw h2 h3 hk))
  have HFI : Hid (∀ (k : Nat), k ≤ l.length → (∀ t (h : t < l.length), t < k → lessI (l[t]'h) a) → (∀ t (h : t < l.length), k ≤ t → ¬ lessI (l[t]'h) a) → Pos l a k) := fun k h1 h2 h3 => ⟨h1, h2, h3⟩
  obtain ⟨q, hq⟩ : ∃ q, hasO l a = q := ⟨_, rfl⟩
  have HQ1 : Hid (∀ k (h : k < l.length), Pos l a k → cmpI (l[k]'h) a = 0 → q = true) := fun k h _ hc => by
    rw [← hq, hasO_iff]; exact ⟨_, List.getElem_mem h, cmpI_zero.1 hc⟩
  have HQ2 : Hid (∀ k, Pos l a k → (∀ h : k < l.length, ¬ cmpI (l[k]'h) a = 0) → q = false) := fun k hp h => by
    rw [← hq]; exact pos_none hpw hp (fun hk e => h hk (cmpI_zero.2 e))
  obtain ⟨P, hP⟩ : ∃ P : Nat → Prop, P = Pos l a := ⟨_, rfl⟩
  have HP : Hid (∀ k, Pos l a k → P k) := fun k h => by rw [hP]; exact h
  rw [hq, ← hn]
  have hPk : ∀ k, Pos l a k = P k := fun k => by rw [hP]
  simp only [hPk]
  rw [← hn] at hl
  clear hv hn hpw hq hP hPk
  obtain ⟨s, hs⟩ : ∃ z, a.t = z := ⟨_, rfl⟩
  obtain ⟨b, hb⟩ : ∃ z, a.r = z := ⟨_, rfl⟩
  rw [hs, hb] at S1 ⊢
  clear hs hb
  have eg := enters_of Tryz.func144 (by kernel_rfl) rfl
  have CE : Hid (∀ w2 : World, Below (w.alloc (.cells #[.int .u32 (s : Int), .int .u8 (b : Int)] 28)).heap.size (w.alloc (.cells #[.int .u32 (s : Int), .int .u8 (b : Int)] 28)) w2 → w2.cell? ⟨w.heap.size, 0, none⟩ = some (.int .u32 (s : Int)) ∧ w2.cell? ⟨w.heap.size, 1, none⟩ = some (.int .u8 (b : Int))) := fun w2 h => by
    have g2 := cells_blk (blk_below h (blk_new rfl))
    exact ⟨g2.1, g2.2.1⟩
  have BZ : Hid (Below w.heap.size w (w.alloc (.cells #[.int .u32 (s : Int), .int .u8 (b : Int)] 28))) := (Below.refl _ _).alloc (Nat.le_refl _) _
  have B0 : Hid (Below (w.alloc (.cells #[.int .u32 (s : Int), .int .u8 (b : Int)] 28)).heap.size (w.alloc (.cells #[.int .u32 (s : Int), .int .u8 (b : Int)] 28)) (w.alloc (.cells #[.int .u32 (s : Int), .int .u8 (b : Int)] 28))) := Below.refl _ _
  go_enter Tryz.func143, Tryz.ntmps143
  go_wp2
  go_loopw [9, 10] (fun x y wr => ∃ lo hi : Nat, x = .int .i64 (lo : Int) ∧ y = .int .i64 (hi : Int) ∧ lo ≤ hi ∧ hi ≤ n ∧ Hid (∀ t (h : t < l.length), t < lo → lessI (l[t]'h) a) ∧ Hid (∀ t (h : t < l.length), hi ≤ t → ¬ lessI (l[t]'h) a) ∧ Hid (Below (w.alloc (.cells #[.int .u32 (s : Int), .int .u8 (b : Int)] 28)).heap.size (w.alloc (.cells #[.int .u32 (s : Int), .int .u8 (b : Int)] 28)) wr)) (fun x y _ => (intOf y - intOf x).toNat)
  case atStart => exact ⟨0, n, rfl, rfl, by omega, by omega, fun t h ht => by omega, fun t h ht => by have := HN.out; omega, B0⟩
  case round =>
    clear B0
    obtain ⟨lo, hi, rfl, rfl, hlh, hhn, hlow, hhigh, hbel⟩ := hrel
    by_cases hlt : lo < hi
    · obtain ⟨m, hm⟩ : ∃ m, m = (lo + hi) / 2 := ⟨_, rfl⟩
      have em : ((lo : Int) + (hi : Int)) / 2 = (m : Int) := by omega
      have m1 : lo ≤ m := by omega
      have m2 : m < hi := by omega
      have q4 : (0 : Int) ≤ (m : Int) := by omega
      have q5 : (m : Int) < (n : Int) := by omega
      have hml : m < l.length := by rw [← HN.out]; omega
      clear hm
      obtain ⟨bb, oo, u, e, hbb, hru, h0, h1, h2, h3, h4⟩ := opl_at (HV.out wr (bt BZ.out hbel.out)) m hml
      subst e
      obtain ⟨x, hx⟩ : ∃ x, x = l[m]'hml := ⟨_, rfl⟩
      rw [← hx] at hru h0 h1 h2 h4
      have HO : Hid (∀ v : Value, opv x v = .agg #[.int .u8 (x.k : Int), .int .u32 (x.t : Int), .int .u8 (x.r : Int), v, .int .i64 x.p]) := fun v => rfl
      obtain ⟨uo, uc, rfl⟩ := hru.shape
      obtain ⟨nu, hnu⟩ : ∃ n, n = x.pl.length := ⟨_, rfl⟩
      have HNU := Lib.hid hnu
      rw [← hnu] at hru h3
      clear hnu
      have SX : Hid (∀ W : World, Calls Tryz.prog 144 #[opv x (.slice uo nu uc), .agg #[.int .u32 (s : Int), .int .u8 (b : Int)]] W fun e w' => e = .returned (.int .i64 (cmpI x a)) ∧ Below W.heap.size W w') := fun W => S1.out x uo nu uc W
      obtain ⟨c, hc⟩ : ∃ c, cmpI x a = c := ⟨_, rfl⟩
      rw [hc] at SX
      have HLO : Hid (c < 0 → ∀ t (h : t < l.length), t < m + 1 → lessI (l[t]'h) a) := fun h => HLT.out lo hi m hml hlow.out (by rw [← hx, hc]; exact h)
      have HHI : Hid (¬ c < 0 → ∀ t (h : t < l.length), m ≤ t → ¬ lessI (l[t]'h) a) := fun h => HGE.out m hml (by rw [← hx, hc]; omega)
      clear hru hx hc
      obtain ⟨k, hk⟩ : ∃ z, x.k = z := ⟨_, rfl⟩
      obtain ⟨t, ht⟩ : ∃ z, x.t = z := ⟨_, rfl⟩
      obtain ⟨r, hr⟩ : ∃ z, x.r = z := ⟨_, rfl⟩
      obtain ⟨p, hp⟩ : ∃ z, x.p = z := ⟨_, rfl⟩
      rw [hk, ht, hr, hp] at HO
      rw [hk] at h0
      rw [ht] at h1
      rw [hr] at h2
      rw [hp] at h4
      simp only [HO.out] at SX
      have F1 : Hid (FiveAt wr bb (oo + m * 5) (.int .u8 (k : Int)) (.int .u32 (t : Int)) (.int .u8 (r : Int)) (.slice uo nu uc) (.int .i64 p)) := ⟨hbb, h0, h1, h2, h3, h4⟩
      have SK : Hid (∀ w' : World, Below wr.heap.size wr w' → Below wr.heap.size wr w' ∧ w'.cell? ⟨bb, oo + m * 5, none⟩ = some (.int .u8 (k : Int)) ∧ w'.cell? ⟨bb, oo + m * 5 + 1, none⟩ = some (.int .u32 (t : Int)) ∧ w'.cell? ⟨bb, oo + m * 5 + 2, none⟩ = some (.int .u8 (r : Int)) ∧ w'.cell? ⟨bb, oo + m * 5 + 3, none⟩ = some (.slice uo nu uc) ∧ w'.cell? ⟨bb, oo + m * 5 + 4, none⟩ = some (.int .i64 p) ∧ w'.cell? ⟨w.heap.size, 0, none⟩ = some (.int .u32 (s : Int)) ∧ w'.cell? ⟨w.heap.size, 1, none⟩ = some (.int .u8 (b : Int))) := fun W h => by
        have a1 := (F1.out.keeps h).2
        have a2 := CE.out W (bt hbel.out h)
        exact ⟨h, a1.1, a1.2.1, a1.2.2.1, a1.2.2.2.1, a1.2.2.2.2, a2.1, a2.2⟩
      clear hk ht hr hp h0 h1 h2 h3 h4 HO S1 HLT HGE HFI HQ1 HQ2 HP HPW F1
      by_cases hc0 : c < 0
      · have d1 : decide (c < 0) = true := decide_eq_true hc0
        have HN2 := Lib.hid (HLO.out hc0)
        clear HLO HHI
        go_wp2
        refine wp_region_held_drew (S := fun w' => Below wr.heap.size wr w' ∧ w'.cell? ⟨bb, oo + m * 5, none⟩ = some (.int .u8 (k : Int)) ∧ w'.cell? ⟨bb, oo + m * 5 + 1, none⟩ = some (.int .u32 (t : Int)) ∧ w'.cell? ⟨bb, oo + m * 5 + 2, none⟩ = some (.int .u8 (r : Int)) ∧ w'.cell? ⟨bb, oo + m * 5 + 3, none⟩ = some (.slice uo nu uc) ∧ w'.cell? ⟨bb, oo + m * 5 + 4, none⟩ = some (.int .i64 p) ∧ w'.cell? ⟨w.heap.size, 0, none⟩ = some (.int .u32 (s : Int)) ∧ w'.cell? ⟨w.heap.size, 1, none⟩ = some (.int .u8 (b : Int))) (by kernel_rfl) (SK.out _ (drew1 _)) (fun hHeld => ?_)
        refine rN 0 ?_
        refine rN 1 ?_
        refine rN 2 ?_
        refine rN 3 ?_
        refine rN 4 ?_
        refine rN 5 ?_
        refine wpAnyH_ready (rs := [6]) (by kernel_rfl) (by simp) ?_
        refine AllReadyH.cons rfl (fun K hK => ?_) ?za6
        case za6 => exact AllReadyH.nil
        go_simp
        refine (SX.out _).mono ?_
        rintro e w9a6 ⟨rfl, b9⟩
        refine hK.out _ _ (SK.out _ (bt hHeld.1 b9)) (fun hNew => ?_)
        clear hHeld
        have hHeld := hNew
        clear hNew hK K
        refine rX ?_
        refine rN 7 ?_
        refine wpAnyH_done (by kernel_rfl) ?_ _
        go_wp2
        go_roundw
        case rel => exact ⟨m + 1, hi, by go_num, rfl, by omega, hhn, HN2, hhigh, Lib.hid (bt hbel.out hHeld.1)⟩
        case measure => simp [intOf]; omega
      · have d1 : decide (c < 0) = false := decide_eq_false hc0
        have HN2 := Lib.hid (HHI.out hc0)
        clear HLO HHI
        go_wp2
        refine wp_region_held_drew (S := fun w' => Below wr.heap.size wr w' ∧ w'.cell? ⟨bb, oo + m * 5, none⟩ = some (.int .u8 (k : Int)) ∧ w'.cell? ⟨bb, oo + m * 5 + 1, none⟩ = some (.int .u32 (t : Int)) ∧ w'.cell? ⟨bb, oo + m * 5 + 2, none⟩ = some (.int .u8 (r : Int)) ∧ w'.cell? ⟨bb, oo + m * 5 + 3, none⟩ = some (.slice uo nu uc) ∧ w'.cell? ⟨bb, oo + m * 5 + 4, none⟩ = some (.int .i64 p) ∧ w'.cell? ⟨w.heap.size, 0, none⟩ = some (.int .u32 (s : Int)) ∧ w'.cell? ⟨w.heap.size, 1, none⟩ = some (.int .u8 (b : Int))) (by kernel_rfl) (SK.out _ (drew1 _)) (fun hHeld => ?_)
        refine rN 0 ?_
        refine rN 1 ?_
        refine rN 2 ?_
        refine rN 3 ?_
        refine rN 4 ?_
        refine rN 5 ?_
        refine wpAnyH_ready (rs := [6]) (by kernel_rfl) (by simp) ?_
        refine AllReadyH.cons rfl (fun K hK => ?_) ?zb6
        case zb6 => exact AllReadyH.nil
        go_simp
        refine (SX.out _).mono ?_
        rintro e w9b6 ⟨rfl, b9⟩
        refine hK.out _ _ (SK.out _ (bt hHeld.1 b9)) (fun hNew => ?_)
        clear hHeld
        have hHeld := hNew
        clear hNew hK K
        refine rX ?_
        refine rN 7 ?_
        refine wpAnyH_done (by kernel_rfl) ?_ _
        go_wp2
        go_roundw
        case rel => exact ⟨lo, m, rfl, rfl, by omega, by omega, hlow, HN2, Lib.hid (bt hbel.out hHeld.1)⟩
        case measure => simp [intOf]; omega
    · obtain rfl : hi = lo := by omega
      have HPK := Lib.hid (HFI.out hi (by rw [← HN.out]; omega) hlow.out hhigh.out)
      by_cases hkn : hi < n
      rotate_left
      · have q8 : decide (hi < n) = false := by simpa using hkn
        obtain rfl : q = false := HQ2.out hi HPK.out (fun h => by have := HN.out; omega)
        go_wp2
        have SK0 : Hid (∀ w' : World, Below wr.heap.size wr w' → Below wr.heap.size wr w') := fun _ h => h
        refine wp_region_held_drew (S := fun w' => Below wr.heap.size wr w') (by kernel_rfl) (SK0.out _ (drew1 _)) (fun hHeld => ?_)
        refine rN 0 ?_
        refine rN 1 ?_
        refine rN 2 ?_
        refine rN 3 ?_
        refine rN 4 ?_
        refine rV 5 ?_
        refine rV 6 ?_
        refine rV 7 ?_
        refine rV 8 ?_
        refine rV 9 ?_
        refine rV 10 ?_
        refine rV 11 ?_
        refine rV 12 ?_
        refine rN 13 ?_
        refine rN 14 ?_
        refine rN 15 ?_
        refine wpAnyH_done (by kernel_rfl) ?_ _
        go_wp2
        go_ret2
        exact ⟨hi, rfl, HP.out _ HPK.out, bt BZ.out (bt hbel.out hHeld)⟩
      have q8 : decide (hi < n) = true := by simpa using hkn
      have q4 : (0 : Int) ≤ (hi : Int) := by omega
      have q5 : (hi : Int) < (n : Int) := by omega
      have hml : hi < l.length := by rw [← HN.out]; exact hkn
      obtain ⟨bb, oo, u, e, hbb, hru, h0, h1, h2, h3, h4⟩ := opl_at (HV.out wr (bt BZ.out hbel.out)) hi hml
      subst e
      obtain ⟨x, hx⟩ : ∃ x, x = l[hi]'hml := ⟨_, rfl⟩
      rw [← hx] at hru h0 h1 h2 h4
      have HO : Hid (∀ v : Value, opv x v = .agg #[.int .u8 (x.k : Int), .int .u32 (x.t : Int), .int .u8 (x.r : Int), v, .int .i64 x.p]) := fun v => rfl
      obtain ⟨uo, uc, rfl⟩ := hru.shape
      obtain ⟨nu, hnu⟩ : ∃ n, n = x.pl.length := ⟨_, rfl⟩
      have HNU := Lib.hid hnu
      rw [← hnu] at hru h3
      clear hnu
      have SX : Hid (∀ W : World, Calls Tryz.prog 144 #[opv x (.slice uo nu uc), .agg #[.int .u32 (s : Int), .int .u8 (b : Int)]] W fun e w' => e = .returned (.int .i64 (cmpI x a)) ∧ Below W.heap.size W w') := fun W => S1.out x uo nu uc W
      obtain ⟨c, hc⟩ : ∃ c, cmpI x a = c := ⟨_, rfl⟩
      rw [hc] at SX
      have HQ : Hid ((c == 0) = q) := by
        by_cases h : c = 0
        · obtain rfl : q = true := HQ1.out hi hml HPK.out (by rw [← hx, hc]; exact h)
          exact beq_iff_eq.2 h
        · obtain rfl : q = false := HQ2.out hi HPK.out (fun _ e => h (by rw [← hc, hx]; exact e))
          exact beq_eq_false_iff_ne.2 h
      clear hru hx hc HQ1 HQ2
      obtain ⟨k, hk⟩ : ∃ z, x.k = z := ⟨_, rfl⟩
      obtain ⟨t, ht⟩ : ∃ z, x.t = z := ⟨_, rfl⟩
      obtain ⟨r, hr⟩ : ∃ z, x.r = z := ⟨_, rfl⟩
      obtain ⟨p, hp⟩ : ∃ z, x.p = z := ⟨_, rfl⟩
      rw [hk, ht, hr, hp] at HO
      rw [hk] at h0
      rw [ht] at h1
      rw [hr] at h2
      rw [hp] at h4
      simp only [HO.out] at SX
      have F1 : Hid (FiveAt wr bb (oo + hi * 5) (.int .u8 (k : Int)) (.int .u32 (t : Int)) (.int .u8 (r : Int)) (.slice uo nu uc) (.int .i64 p)) := ⟨hbb, h0, h1, h2, h3, h4⟩
      have SK : Hid (∀ w' : World, Below wr.heap.size wr w' → Below wr.heap.size wr w' ∧ w'.cell? ⟨bb, oo + hi * 5, none⟩ = some (.int .u8 (k : Int)) ∧ w'.cell? ⟨bb, oo + hi * 5 + 1, none⟩ = some (.int .u32 (t : Int)) ∧ w'.cell? ⟨bb, oo + hi * 5 + 2, none⟩ = some (.int .u8 (r : Int)) ∧ w'.cell? ⟨bb, oo + hi * 5 + 3, none⟩ = some (.slice uo nu uc) ∧ w'.cell? ⟨bb, oo + hi * 5 + 4, none⟩ = some (.int .i64 p) ∧ w'.cell? ⟨w.heap.size, 0, none⟩ = some (.int .u32 (s : Int)) ∧ w'.cell? ⟨w.heap.size, 1, none⟩ = some (.int .u8 (b : Int))) := fun W h => by
        have a1 := (F1.out.keeps h).2
        have a2 := CE.out W (bt hbel.out h)
        exact ⟨h, a1.1, a1.2.1, a1.2.2.1, a1.2.2.2.1, a1.2.2.2.2, a2.1, a2.2⟩
      clear hk ht hr hp h0 h1 h2 h3 h4 HO S1 HLT HGE HFI HPW F1
      have d1 := HQ.out
      go_wp2
      refine wp_region_held_drew (S := fun w' => Below wr.heap.size wr w' ∧ w'.cell? ⟨bb, oo + hi * 5, none⟩ = some (.int .u8 (k : Int)) ∧ w'.cell? ⟨bb, oo + hi * 5 + 1, none⟩ = some (.int .u32 (t : Int)) ∧ w'.cell? ⟨bb, oo + hi * 5 + 2, none⟩ = some (.int .u8 (r : Int)) ∧ w'.cell? ⟨bb, oo + hi * 5 + 3, none⟩ = some (.slice uo nu uc) ∧ w'.cell? ⟨bb, oo + hi * 5 + 4, none⟩ = some (.int .i64 p) ∧ w'.cell? ⟨w.heap.size, 0, none⟩ = some (.int .u32 (s : Int)) ∧ w'.cell? ⟨w.heap.size, 1, none⟩ = some (.int .u8 (b : Int))) (by kernel_rfl) (SK.out _ (drew1 _)) (fun hHeld => ?_)
      refine rN 0 ?_
      refine rN 1 ?_
      refine rN 2 ?_
      refine rN 3 ?_
      refine rN 4 ?_
      refine rN 5 ?_
      refine rN 6 ?_
      refine rN 7 ?_
      refine rN 8 ?_
      refine rN 9 ?_
      refine rN 10 ?_
      refine wpAnyH_ready (rs := [11]) (by kernel_rfl) (by simp) ?_
      refine AllReadyH.cons rfl (fun K hK => ?_) ?zd11
      case zd11 => exact AllReadyH.nil
      go_simp
      refine (SX.out _).mono ?_
      rintro e w9d11 ⟨rfl, b9⟩
      refine hK.out _ _ (SK.out _ (bt hHeld.1 b9)) (fun hNew => ?_)
      clear hHeld
      have hHeld := hNew
      clear hNew hK K
      refine rX ?_
      refine rN 12 ?_
      refine rN 13 ?_
      refine rN 14 ?_
      refine rN 15 ?_
      refine wpAnyH_done (by kernel_rfl) ?_ _
      go_wp2
      go_ret2
      exact ⟨hi, rfl, HP.out _ HPK.out, bt BZ.out (bt hbel.out hHeld.1)⟩
theorem bSearch_any {v : Value} {l : List Opn} (a : Id) {w : World} (hv : OpL w v l) (hl : l.length ≤ 1000000) (hpw : l.Pairwise lessO) :
    Calls Tryz.prog 102 #[v, .agg #[.int .u32 (a.t : Int), .int .u8 (a.r : Int)]] w fun e w' => ∃ k : Nat, e = .returned (.tuple #[.int .i64 (k : Int), .bool (hasO l a)]) ∧ Pos l a k ∧ Below w.heap.size w w' := by
  have C : Hid (∀ W : World, Below w.heap.size w W → _) := fun W h => bBin_any a (hv.keeps h) hl hpw
  obtain ⟨q, hq⟩ : ∃ q, hasO l a = q := ⟨_, rfl⟩
  rw [hq] at C ⊢
  obtain ⟨P, hP⟩ : ∃ P : Nat → Prop, P = Pos l a := ⟨_, rfl⟩
  have hPk : ∀ k, Pos l a k = P k := fun k => by rw [hP]
  simp only [hPk] at C ⊢
  obtain ⟨ao, cap, rfl⟩ := hv.shape
  obtain ⟨n, hn⟩ : ∃ n, n = l.length := ⟨_, rfl⟩
  rw [← hn] at C ⊢
  clear hv hl hpw hq hP hPk hn
  obtain ⟨s, hs⟩ : ∃ z, a.t = z := ⟨_, rfl⟩
  obtain ⟨b, hb⟩ : ∃ z, a.r = z := ⟨_, rfl⟩
  rw [hs, hb] at C ⊢
  clear hs hb
  have B0 : Hid (Below w.heap.size w (w.alloc (.cells #[.int .u32 (s : Int), .int .u8 (b : Int)] 28))) := (Below.refl _ _).alloc (Nat.le_refl _) _
  go_enter Tryz.func102, Tryz.ntmps102
  go_wp2_with fail
  refine (C.out _ B0.out).mono ?_
  rintro e w1 ⟨k, rfl, hk, b1⟩
  have B1 := Lib.hid (bt B0.out b1)
  have HK := Lib.hid hk
  clear b1 hk
  go_wp2
  go_ret2
  exact ⟨k, rfl, HK.out, B1.out⟩
end Go.Proofs.YtgjbnbojjgbmcaaGreat.Bags

namespace Go.Proofs.YtgjbnbojjgbmcaaGreat.Bags
open Go.RowKit Go.WideShapes Stamp Go.Proofs.YtgjbnbojjgbmcaaGreat.Place Ops Codes
attribute [local go_sem ↓] Go.wp_at_zero Go.wp_at_succ
theorem holdp_take {w : World} {base : Nat} : ∀ {cs : List Value} {l : List Opn} (k : Nat), HoldP w base cs l → HoldP w base (cs.take (k * 5)) (l.take k)
  | _, _, 0, _ => by simp [HoldP]
  | cs, [], k + 1, h => by rw [show cs = [] from h]; simp [HoldP]
  | cs, o :: l, k + 1, ⟨v, d, h1, h2, h3⟩ => by
    refine ⟨v, d.take (k * 5), ?_, h2, holdp_take k h3⟩
    rw [h1, show (k + 1) * 5 = k * 5 + 1 + 1 + 1 + 1 + 1 by omega]
    rfl
theorem holdp_drop {w : World} {base : Nat} : ∀ {cs : List Value} {l : List Opn} (k : Nat), HoldP w base cs l → HoldP w base (cs.drop (k * 5)) (l.drop k)
  | cs, l, 0, h => by simpa using h
  | cs, [], k + 1, h => by rw [show cs = [] from h]; simp [HoldP]
  | cs, o :: l, k + 1, ⟨v, d, h1, h2, h3⟩ => by
    have := holdp_drop k h3
    rw [h1, show (k + 1) * 5 = k * 5 + 1 + 1 + 1 + 1 + 1 by omega]
    exact this
theorem sees_blk5 {X : World} {g : Nat} {c0 c1 c2 c3 c4 : Value} {e : TypeId} (h : X.heap[g]? = some (.cells #[c0, c1, c2, c3, c4] e)) : Sees X (.slice (some ⟨g, 0, none⟩) 1 1) 5 1 [c0, c1, c2, c3, c4] := by
  refine ⟨rfl, _, _, rfl, Nat.le_refl _, by decide, by simp, .inr ⟨g, 0, rfl, (Array.getElem?_eq_some_iff.1 h).1, fun j u hj => ?_⟩⟩
  rw [cell_of_row X g (0 + j) _ e _ h, Nat.zero_add]
  simpa using hj
theorem splice_ins {α : Type} (A B F R Z : List α) (k : Nat) (hA : A.length = k * 5) (hF : F.length = 5) (hZ : Z.length = 5 + B.length + R.length) :
    ∃ R', splice (splice (A ++ Z) (k * 5) F) ((k + 1) * 5) B = A ++ F ++ B ++ R' ∧ R'.length = R.length := by
  refine ⟨Z.drop (5 + B.length), ?_, by simp; omega⟩
  unfold splice
  have e1 : (A ++ Z).take (k * 5) = A := by rw [← hA]; simp
  have e2 : (A ++ Z).drop (k * 5 + F.length) = Z.drop 5 := by rw [List.drop_append, List.drop_eq_nil_of_le (by omega), List.nil_append, hA, hF]; congr 1; omega
  rw [e1, e2]
  have e3 : (A ++ (F ++ Z.drop 5)).take ((k + 1) * 5) = A ++ F := by
    rw [← List.append_assoc, List.take_append_of_le_length (by simp; omega), List.take_of_length_le (by simp; omega)]
  have e4 : (A ++ (F ++ Z.drop 5)).drop ((k + 1) * 5 + B.length) = Z.drop (5 + B.length) := by
    rw [← List.append_assoc, List.drop_append, List.drop_eq_nil_of_le (by simp; omega), List.nil_append, List.drop_drop]
    congr 1
    simp; omega
  rw [e3, e4]
  simp
set_option maxRecDepth 100000 in
set_option maxHeartbeats 8000000 in
theorem bIns_any {base G V n k : Nat} {l : List Opn} {o : Opn} {u : Value} {w : World} (hs : OwnL w base (.slice (some ⟨G, 0, none⟩) n n) l) (hk : k ≤ n) (hn2 : n ≤ 1024)
    (hV : w.heap[V]? = some (.cells #[.int .u8 (o.k : Int), .int .u32 (o.t : Int), .int .u8 (o.r : Int), u, .int .i64 o.p] 38)) (hu : w.ownsRow base 32 3 u o.pl.length (runs o.pl)) (hb : base ≤ w.heap.size) :
    Calls Tryz.prog 104 #[.slice (some ⟨G, 0, none⟩) n n, .int .i64 (k : Int), .slice (some ⟨V, 0, none⟩) 1 1] w fun e w' => ∃ v', e = .returned v' ∧ OwnL w' base v' (l.take k ++ o :: l.drop k) ∧ Below base w w' := by
  obtain ⟨cs, ho, hh⟩ := hs
  have hcase := ho.2
  have hcl := ho.1
  obtain ⟨hGb, hGr, hnl⟩ : base ≤ G ∧ w.heap[G]? = some (.cells cs.toArray 38 (0, 0)) ∧ n = l.length := by
    rcases hcase with ⟨h0, _⟩ | ⟨g, cap, cur, he, h1, h2, h3, h4, h5, h6⟩
    · cases h0
    · obtain ⟨ha, hb2, hc2⟩ := Value.slice.inj he
      obtain rfl : G = g := by cases ha; rfl
      subst hc2
      refine ⟨h1, ?_, hb2⟩
      rw [h2, ← h6, List.take_of_length_le (by rw [Array.length_toList, h5, hb2]; exact Nat.le_refl _)]
  rw [← hnl] at hcl
  have FO : Hid (∀ z ∈ ([.int .u8 (o.k : Int), .int .u32 (o.t : Int), .int .u8 (o.r : Int), u, .int .i64 o.p] : List Value), z.oneCell' = true) := five_one o u (by obtain ⟨ao, cap, e⟩ := Sees.shape (Sees.own hu); exact ⟨ao, _, cap, e⟩)
  have SV : Hid (Sees w (.slice (some ⟨V, 0, none⟩) 1 1) 5 1 [.int .u8 (o.k : Int), .int .u32 (o.t : Int), .int .u8 (o.r : Int), u, .int .i64 o.p]) := sees_blk5 hV
  by_cases hkn : k = n
  · subst hkn
    have OA : Hid (w.ownsRow base 38 5 (.slice (some ⟨G, 0, none⟩) k k) k cs) := by rw [hnl] at ho ⊢; exact ho
    have RS : Hid (∀ (v5 : Value) (w5 : World), w.grownBy w5 (Value.slice (some ⟨G, 0, none⟩) k k).ownBlock → w5.ownsRow base 38 5 v5 (k + 1) (cs ++ [.int .u8 (o.k : Int), .int .u32 (o.t : Int), .int .u8 (o.r : Int), u, .int .i64 o.p]) → OwnL w5 base v5 (l.take k ++ o :: l.drop k)) := fun v5 w5 g5 o5 => by
      rw [List.take_of_length_le (by omega), List.drop_eq_nil_of_le (by omega)]
      exact OwnL.snoc ho hh (Below.refl _ _) hu g5 o5 (by rw [hnl])
    have t1 : ((k : Int) == (k : Int)) = true := by simp
    clear ho hh hcase hGb hGr hV hu hcl hnl
    go_enter Tryz.func104, Tryz.ntmps104
    go_wp2_with (at_builtin; refine wpList_append_sees rfl (.tmp 23) (.tmp 24) 22 38 rfl Tryz.underlying22 op_info rfl (by decide) base _ k cs rfl OA.out _ 1 _ rfl SV.out FO.out ?k1 ?k2 ?k3 ?_)
    case k1 => omega
    case k2 => omega
    case k3 => exact hb
    rintro v6 w6 o6 g6 b6
    have R6 := Lib.hid (RS.out _ _ g6 o6)
    have B6 := Lib.hid b6
    obtain ⟨va, vc, rfl⟩ : ∃ ao cap, v6 = .slice ao (k + 1) cap := Sees.shape (Sees.own o6)
    clear o6 g6 b6
    go_wp2
    go_ret
    exact ⟨_, rfl, R6.out, B6.out⟩
  have hlt : k < n := by omega
  obtain ⟨i0, hi0, hz0, hzs, hzb⟩ := info_parts op_info
  obtain ⟨zz, hzz⟩ : ∃ zz, zz = Value.agg #[.int .u8 0, .int .u32 0, .int .u8 0, .slice none 0 0, .int .i64 0] := ⟨_, rfl⟩
  have hzc : zz.cells.size = 5 := by rw [hzz]; rfl
  rw [← hzz] at hz0
  clear hzz
  have hold : (Builtin.firstCells i0.size k (.slice (some ⟨G, 0, none⟩) k n)).run Tryz.prog w.drew = .ok (cs.take (k * 5)).toArray w.drew := by
    rw [hzs]
    refine run_firstCells_some w.drew 5 k ⟨G, 0, none⟩ k n (cs.take (k * 5)) (by rw [List.length_take, hcl]; omega) (fun j v hj => ?_)
    rw [add_plain]
    have hj2 : cs[j]? = some v := by
      rw [List.getElem?_take] at hj
      split at hj
      · exact hj
      · cases hj
    show w.cell? ⟨G, 0 + j, none⟩ = some v
    rw [cell_of_row w G (0 + j) _ _ _ hGr, Nat.zero_add]
    simpa using hj2
  have hgc := grownCap_ge w (n + 1) n 38
  have hgm := grownCap_le_maxLen w (n + 1) n 38 (by unfold maxLen; omega)
  obtain ⟨C, hC⟩ : ∃ C, C = grownCap w (n + 1) n 38 := ⟨_, rfl⟩
  have hrz : ∀ ty, (Builtin.append_ #[22, 3] ty #[.slice (some ⟨G, 0, none⟩) k n, .int .i64 ((n : Int) + 1 - (k : Int))]).run Tryz.prog w =
      .ok (.slice (some ⟨w.heap.size, 0, none⟩) (n + 1) C) (w.drew.alloc (.cells ((cs.take (k * 5)).toArray ++ Builtin.zeroCells zz.cells (n + 1 - k) ++ Builtin.zeroCells zz.cells (C - (n + 1))) 38)) := fun ty => by
    have h := Lib.run_append_grow_zeros w 22 3 ty 38 i0 _ .i64 .i64 Tryz.underlying22 Tryz.underlying3 hi0 hz0 (some ⟨G, 0, none⟩) k n _ hold (n + 1 - k) (by omega) (by omega) (by omega) (by omega) (by rw [hzb]; omega) (by rw [hzb, show k + (n + 1 - k) = n + 1 by omega]; exact growslice_fits (by omega) (by omega))
    rw [show k + (n + 1 - k) = n + 1 by omega, ← hC] at h
    rw [show (n : Int) + 1 - (k : Int) = ((n + 1 - k : Nat) : Int) by omega]
    exact h
  rw [← hC] at hgc hgm
  obtain ⟨Z, hZ⟩ : ∃ Z : List Value, Z = (Builtin.zeroCells zz.cells (n + 1 - k) ++ Builtin.zeroCells zz.cells (C - (n + 1))).toList := ⟨_, rfl⟩
  have hZl : Z.length = (C - k) * 5 := by
    rw [hZ]
    simp [Builtin.zeroCells, hzc]
    omega
  have hrow : (cs.take (k * 5)).toArray ++ Builtin.zeroCells zz.cells (n + 1 - k) ++ Builtin.zeroCells zz.cells (C - (n + 1)) = (cs.take (k * 5) ++ Z).toArray := by
    rw [hZ]
    apply Array.ext'
    simp
  simp only [hrow] at hrz
  obtain ⟨W1, hW1⟩ : ∃ W1, W1 = w.drew.alloc (.cells (cs.take (k * 5) ++ Z).toArray 38) := ⟨_, rfl⟩
  rw [← hW1] at hrz
  have BW1 : Below w.heap.size w W1 := by rw [hW1]; exact (drew1 w).alloc (Nat.le_refl _) _
  have G1 : Hid (W1.heap[w.heap.size]? = some (.cells (cs.take (k * 5) ++ Z).toArray 38)) := by rw [hW1]; exact blk_new (by rfl)
  have SV1 : Hid (Sees W1 (.slice (some ⟨V, 0, none⟩) 1 1) 5 1 [.int .u8 (o.k : Int), .int .u32 (o.t : Int), .int .u8 (o.r : Int), u, .int .i64 o.p]) := SV.out.keeps BW1
  have hVc : Hid (∀ j v, ([.int .u8 (o.k : Int), .int .u32 (o.t : Int), .int .u8 (o.r : Int), u, .int .i64 o.p] : List Value)[j]? = some v → W1.cell? ((⟨V, 0, none⟩ : Addr).add j) = some v) := fun j v hj => SV1.out.cells j v hj
  have hAl : (cs.take (k * 5)).length = k * 5 := by rw [List.length_take, hcl]; omega
  have HAl := Lib.hid hAl
  have HZl := Lib.hid hZl
  have HCL := Lib.hid hcl
  have hdl : Hid ((cs.drop (k * 5)).length = (n - k) * 5) := by unfold Hid; rw [List.length_drop, hcl]; omega
  have hdo : Hid (∀ v ∈ cs.drop (k * 5), v.oneCell' = true) := fun v hv => Enc.rows_one hh.rows v (List.mem_of_mem_drop hv)
  have hGlt : G < w.heap.size := (Array.getElem?_eq_some_iff.1 hGr).1
  have GW : Hid (W1.heap[G]? = some (.cells cs.toArray 38 (0, 0))) := blk_below BW1 hGr
  -- what comes out
  have FIN : Hid (∀ w2 w3 : World, Copied W1 w.heap.size (cs.take (k * 5) ++ Z) (k * 5) [.int .u8 (o.k : Int), .int .u32 (o.t : Int), .int .u8 (o.r : Int), u, .int .i64 o.p] 38 w2 →
      Copied w2.drew w.heap.size (splice (cs.take (k * 5) ++ Z) (k * 5) [.int .u8 (o.k : Int), .int .u32 (o.t : Int), .int .u8 (o.r : Int), u, .int .i64 o.p]) ((k + 1) * 5) (cs.drop (k * 5)) 38 w3 →
      OwnL w3 base (.slice (some ⟨w.heap.size, 0, none⟩) (n + 1) C) (l.take k ++ o :: l.drop k) ∧ Below base w w3) := fun w2 w3 c2 c3 => by
    have g2 : w2.drew.heap[w.heap.size]? = some (.cells (splice (cs.take (k * 5) ++ Z) (k * 5) [.int .u8 (o.k : Int), .int .u32 (o.t : Int), .int .u8 (o.r : Int), u, .int .i64 o.p]).toArray 38 (0, 0)) := c2.1
    have d2 : Below w2.heap.size w2 w2.drew := drew1 w2
    have hz1 : HoldP w3 base cs l := HoldP.copied g2 c3 (HoldP.keeps d2 (HoldP.copied G1.out c2 (hh.keeps BW1)))
    have hu1 : w3.ownsRow base 32 3 u o.pl.length (runs o.pl) := own_copied (own_stays (own_copied (own_stays hu BW1) G1.out (by decide) c2) d2) g2 (by decide) c3
    obtain ⟨R, hR, hRl⟩ := splice_ins (cs.take (k * 5)) (cs.drop (k * 5)) [Value.int .u8 (o.k : Int), .int .u32 (o.t : Int), .int .u8 (o.r : Int), u, .int .i64 o.p] (List.replicate ((C - (n + 1)) * 5) undef) Z k HAl.out rfl (by rw [HZl.out, hdl.out, List.length_replicate]; omega)
    refine ⟨?_, ?_⟩
    · refine ownl_row (cs := cs.take (k * 5) ++ ([Value.int .u8 (o.k : Int), .int .u32 (o.t : Int), .int .u8 (o.r : Int), u, .int .i64 o.p] ++ cs.drop (k * 5))) (d := R) (by rw [c3.1, hR]; simp) hb ?_ ?_ ?_ hgm
      · exact HoldP.append (holdp_take k hz1) ⟨u, _, rfl, hu1, holdp_drop k hz1⟩
      · rw [List.length_append, List.length_cons, List.length_take, List.length_drop]; omega
      · rw [List.length_append, hRl, List.length_replicate, List.length_append, List.length_append, HAl.out, hdl.out]
        simp
        omega
    · exact ((BW1.mono hb).trans (c2.2.2.2 _ hb)).trans ((d2.mono (by rw [c2.2.2.1]; exact Nat.le_trans hb BW1.size)).trans (c3.2.2.2 _ hb))
  have hC1 : ¬ (C = k) := by omega
  have hC2 : ¬ (C = k + 1) := by omega
  have hnk : ¬ (n = k) := by omega
  have hkn2 : ¬ ((k : Int) = (n : Int)) := by omega
  have t1 : ((k : Int) == (n : Int)) = false := by simp; omega
  have t2 : (n : Int) < (n : Int) + 1 := by omega
  have hw1 : IntKind.i64.wrap ((k : Int) + 1) = (k : Int) + 1 := by rw [IntKind.wrap_i64]; omega
  have hw2 : IntKind.i64.wrap ((n : Int) + 1) = (n : Int) + 1 := by rw [IntKind.wrap_i64]; omega
  have hb1 : (0 : Int) ≤ (k : Int) + 1 := by omega
  have hb2 : (k : Int) + 1 ≤ (n : Int) + 1 := by omega
  have hb3 : (k : Int) ≤ (n : Int) := by omega
  have hb4 : (k : Int) ≤ (n : Int) + 1 := by omega
  have htn : ((k : Int) + 1).toNat = k + 1 := by omega
  clear ho hh hcase hGr hV hu hcl hZ hrow hC hi0 hz0 hzs hzb hold hAl hZl SV hnl hGb
  clear hW1
  go_enter Tryz.func104, Tryz.ntmps104
  go_wp2_with (first
    | (at_builtin; refine Lib.wpList_append_run _ rfl _ _ _ _ rfl _ _ rfl rfl _ _ (hrz _) ?_)
    | (refine wpList_copy_any rfl (.tmp 43) (.tmp 44) 22 22 rfl 38 Tryz.underlying22 (sz := 5) (by kernel_rfl) (some ⟨w.heap.size, k * 5, none⟩) (some ⟨V, 0, none⟩) (n + 1 - k) (C - k) 1 1 1 rfl rfl w.heap.size (k * 5) (cs.take (k * 5) ++ Z) 38 G1.out (Nat.min_eq_left (by omega)) [.int .u8 (o.k : Int), .int .u32 (o.t : Int), .int .u8 (o.r : Int), u, .int .i64 o.p] rfl (fun _ => ⟨rfl, _, rfl, hVc.out⟩) (by rw [List.length_append, HAl.out, HZl.out]; show _ + 5 ≤ _; omega) FO.out ?_))
  rintro w2 hc2
  have c2 := hc2
  obtain ⟨g2, hoth, -, -⟩ := c2.out
  have GD : Hid (w2.drew.heap[w.heap.size]? = some (.cells (splice (cs.take (k * 5) ++ Z) (k * 5) [.int .u8 (o.k : Int), .int .u32 (o.t : Int), .int .u8 (o.r : Int), u, .int .i64 o.p]).toArray 38 (0, 0))) := g2
  have SD : Hid (∀ j v, (cs.drop (k * 5))[j]? = some v → w2.drew.cell? ((⟨G, k * 5, none⟩ : Addr).add j) = some v) := fun j v hj => by
    rw [add_plain]
    have e1 : w2.drew.heap[G]? = some (.cells cs.toArray 38 (0, 0)) := (hoth G (by omega)).trans GW.out
    rw [cell_of_row _ G (k * 5 + j) _ _ _ e1]
    rw [List.getElem?_drop] at hj
    simpa using hj
  have FN := Lib.hid (fun w3 h => FIN.out w2 w3 hc2.out h)
  have SPL : Hid ((splice (cs.take (k * 5) ++ Z) (k * 5) [.int .u8 (o.k : Int), .int .u32 (o.t : Int), .int .u8 (o.r : Int), u, .int .i64 o.p]).length = C * 5) := by
    unfold Hid
    rw [length_splice _ _ _ (by rw [List.length_append, HAl.out, HZl.out]; show _ + 5 ≤ _; omega), List.length_append, HAl.out, HZl.out]; omega
  obtain ⟨L2, hL2⟩ : ∃ L2, L2 = splice (cs.take (k * 5) ++ Z) (k * 5) [.int .u8 (o.k : Int), .int .u32 (o.t : Int), .int .u8 (o.r : Int), u, .int .i64 o.p] := ⟨_, rfl⟩
  rw [← hL2] at GD FN SPL
  clear hc2 c2 g2 hoth hL2 FIN hrz GW G1 SV1 hVc FO
  go_wp2
  go_region_law (refine step_copy_any rfl (.tmp 50) (.tmp 53) 22 22 rfl 38 Tryz.underlying22 (sz := 5) (by kernel_rfl) (some ⟨w.heap.size, (k + 1) * 5, none⟩) (some ⟨G, k * 5, none⟩) (n + 1 - (k + 1)) (C - (k + 1)) (n - k) (n - k) (n - k) (by simp [Act.eval, Act.put]) (by simp [Act.eval, Act.put]) w.heap.size ((k + 1) * 5) L2 38 GD.out (by rw [show n + 1 - (k + 1) = n - k by omega]; exact Nat.min_self _) (cs.drop (k * 5)) hdl.out (fun _ => ⟨rfl, _, rfl, SD.out⟩) (by rw [hdl.out, SPL.out]; omega) hdo.out ?_; intro w3 hc3)
  have F3 := FN.out w3 hc3.out
  have O3 := Lib.hid F3.1
  have B3 := Lib.hid F3.2
  clear F3 hc3
  go_wp2
  go_ret
  exact ⟨_, rfl, O3.out, B3.out⟩
end Go.Proofs.YtgjbnbojjgbmcaaGreat.Bags

namespace Go.Proofs.YtgjbnbojjgbmcaaGreat.Bags
open Go.RowKit Go.WideShapes Stamp Go.Proofs.YtgjbnbojjgbmcaaGreat.Place Ops Codes
attribute [local go_sem ↓] Go.wp_at_zero Go.wp_at_succ
theorem alloc_bo {wl W : World} (h : Below wl.heap.size wl W) (o : Obj) : Below wl.heap.size wl (W.alloc o) := h.alloc h.size o
set_option maxRecDepth 100000 in
set_option maxHeartbeats 16000000 in
theorem bAdd_any {v u0 : Value} {l : List Opn} {o : Opn} {w : World} (hv : OpL w v l) (hu : Runs w u0 o.pl) :
    Calls Tryz.prog 55 #[v, opv o u0] w (DoneN (addL l o) (addE l o) w) := by
  have CK : Hid (∀ W : World, Below w.heap.size w W → Calls Tryz.prog 78 #[v] W fun e w' => e = .returned (.int .i64 (chkL l)) ∧ Below W.heap.size W w') := fun W h => bCheck_any (hv.keeps h)
  have SR : Hid (Bag l → ∀ W : World, Below w.heap.size w W → Calls Tryz.prog 102 #[v, .agg #[.int .u32 (o.t : Int), .int .u8 (o.r : Int)]] W fun e w' => ∃ k : Nat, e = .returned (.tuple #[.int .i64 (k : Int), .bool (hasO l (idO o))]) ∧ Pos l (idO o) k ∧ Below W.heap.size W w') := fun hb W h => bSearch_any (idO o) (hv.keeps h) (by have := hb.1; omega) hb.2.2
  have TWL : Hid (Bag l → ∀ (WB W : World), WB.heap.size ≤ W.heap.size → Below w.heap.size w W → Calls Tryz.prog 103 #[v] W fun e w' => ∃ G, e = .returned (.slice (some ⟨G, 0, none⟩) l.length l.length) ∧ OwnL w' WB.heap.size (.slice (some ⟨G, 0, none⟩) l.length l.length) l ∧ Below W.heap.size W w') := fun hb WB W h1 h2 => by
    refine (bTwinX_any (hv.keeps h2) (by have := hb.1; omega) (bag_fits hb).2).mono ?_
    rintro e w' ⟨rfl, ho, hb⟩
    exact ⟨_, rfl, ho.base h1, hb⟩
  obtain ⟨uo, uc, rfl⟩ := hu.shape
  obtain ⟨nu, hnu⟩ : ∃ n, n = o.pl.length := ⟨_, rfl⟩
  have OC : Hid (∀ W : World, Below w.heap.size w W → Calls Tryz.prog 101 #[opv o (.slice uo o.pl.length uc)] W fun e w' => e = .returned (.int .i64 (chkO o)) ∧ Below W.heap.size W w') := fun W h => oCheck_any (hu.keeps h)
  have TWO : Hid (mayO o = true → ∀ (WB W : World), WB.heap.size ≤ W.heap.size → Below w.heap.size w W → Calls Tryz.prog 81 #[opv o (.slice uo o.pl.length uc)] W fun e w' => ∃ ao cap, e = .returned (opv o (.slice ao o.pl.length cap)) ∧ w'.ownsRow WB.heap.size 32 3 (.slice ao o.pl.length cap) o.pl.length (runs o.pl) ∧ Below W.heap.size W w') := fun hm WB W h1 h2 => by
    refine (oTwin_any (hu.keeps h2) (by have := mayO_fits hm; omega)).mono ?_
    rintro e w' ⟨v', rfl, ho, hb⟩
    obtain ⟨ao', cap', rfl⟩ : ∃ ao cap, v' = .slice ao o.pl.length cap := Sees.shape (Sees.own ho)
    exact ⟨ao', cap', rfl, op_base ho h1, hb⟩
  obtain ⟨ao, cap, rfl⟩ := hv.shape
  obtain ⟨n, hn⟩ : ∃ n, n = l.length := ⟨_, rfl⟩
  have HN := Lib.hid hn
  have INS : Hid (Bag l → ∀ (WB W9 X : World) (G V k : Nat) (a : Option Addr) (c : Nat), OwnL W9 WB.heap.size (.slice (some ⟨G, 0, none⟩) n n) l → Below W9.heap.size W9 X → X.heap[V]? = some (.cells #[.int .u8 (o.k : Int), .int .u32 (o.t : Int), .int .u8 (o.r : Int), .slice a o.pl.length c, .int .i64 o.p] 38) →
      X.ownsRow WB.heap.size 32 3 (.slice a o.pl.length c) o.pl.length (runs o.pl) → WB.heap.size ≤ X.heap.size → Pos l (idO o) k → hasO l (idO o) = false →
      Calls Tryz.prog 104 #[.slice (some ⟨G, 0, none⟩) n n, .int .i64 (k : Int), .slice (some ⟨V, 0, none⟩) 1 1] X fun e w' => ∃ v', e = .returned v' ∧ OwnL w' WB.heap.size v' (withO l o) ∧ Below WB.heap.size X w') := fun hb WB W9 X G V k a c h1 h2 h3 h4 h5 h6 h7 => by
    rw [pos_with h6 h7]
    exact bIns_any (h1.keeps h2) (by rw [hn]; exact h6.1) (by rw [hn]; exact hb.1) h3 h4 h5
  rw [← hn] at CK SR TWL ⊢
  rw [← hnu] at OC TWO INS ⊢
  have HO : Hid (∀ v : Value, opv o v = .agg #[.int .u8 (o.k : Int), .int .u32 (o.t : Int), .int .u8 (o.r : Int), v, .int .i64 o.p]) := fun v => rfl
  have AB : Hid (¬ (Bag l ∧ mayO o = true) → addL l o = [] ∧ addE l o = 8) := fun h => by
    have e : addE l o = 8 := by unfold addE; rw [if_pos (by rw [bagB_iff]; exact h)]
    exact ⟨by unfold addL; rw [e]; rfl, e⟩
  have AT : Hid (Bag l → mayO o = true → hasO l (idO o) = true → addL l o = l ∧ addE l o = 0) := fun h1 h2 h3 => by
    have e : addE l o = 0 := by unfold addE; rw [if_neg (by rw [bagB_iff]; exact fun h => h ⟨h1, h2⟩), if_neg (by rw [withO_len, if_pos h3]; have := h1.1; omega)]
    exact ⟨by unfold addL withO; rw [e, if_pos rfl, if_pos h3], e⟩
  have AF : Hid (Bag l → mayO o = true → hasO l (idO o) = false → n = 1024 → addL l o = [] ∧ addE l o = 9) := fun h1 h2 h3 h4 => by
    have e : addE l o = 9 := by unfold addE; rw [if_neg (by rw [bagB_iff]; exact fun h => h ⟨h1, h2⟩), if_pos (by rw [withO_len, if_neg (by rw [h3]; decide)]; omega)]
    exact ⟨by unfold addL; rw [e]; rfl, e⟩
  have AW : Hid (Bag l → mayO o = true → hasO l (idO o) = false → n ≠ 1024 → addL l o = withO l o ∧ addE l o = 0) := fun h1 h2 h3 h4 => by
    have e : addE l o = 0 := by unfold addE; rw [if_neg (by rw [bagB_iff]; exact fun h => h ⟨h1, h2⟩), if_neg (by rw [withO_len, if_neg (by rw [h3]; decide)]; have := h1.1; omega)]
    exact ⟨by unfold addL; rw [e, if_pos rfl], e⟩
  obtain ⟨RL, hRL⟩ : ∃ z, addL l o = z := ⟨_, rfl⟩
  obtain ⟨RE, hRE⟩ : ∃ z, addE l o = z := ⟨_, rfl⟩
  obtain ⟨RW, hRW⟩ : ∃ z, withO l o = z := ⟨_, rfl⟩
  rw [hRL, hRE] at AB AT AF AW ⊢
  rw [hRW] at AW INS
  obtain ⟨P, hP⟩ : ∃ P : Nat → Prop, P = Pos l (idO o) := ⟨_, rfl⟩
  have hPk : ∀ k, Pos l (idO o) k = P k := fun k => by rw [hP]
  simp only [hPk] at SR INS
  obtain ⟨q, hq⟩ : ∃ q, hasO l (idO o) = q := ⟨_, rfl⟩
  rw [hq] at SR INS AT AF AW
  unfold chkO at OC
  obtain ⟨my, hmy⟩ : ∃ b, mayO o = b := ⟨_, rfl⟩
  rw [hmy] at OC TWO AB AT AF AW
  clear hRL hRE hRW hP hPk hq hmy hv hu
  obtain ⟨L, hL⟩ : ∃ L, L = runs o.pl := ⟨_, rfl⟩
  rw [← hL] at TWO INS
  clear hnu hL
  obtain ⟨k0, hk0⟩ : ∃ z, o.k = z := ⟨_, rfl⟩
  obtain ⟨t0, ht0⟩ : ∃ z, o.t = z := ⟨_, rfl⟩
  obtain ⟨r0, hr0⟩ : ∃ z, o.r = z := ⟨_, rfl⟩
  obtain ⟨p0, hp0⟩ : ∃ z, o.p = z := ⟨_, rfl⟩
  rw [hk0, ht0, hr0, hp0] at HO INS
  rw [ht0, hr0] at SR
  simp only [HO.out] at OC TWO ⊢
  have BL : Hid (Below w.heap.size w (w.alloc (.cells #[.int .u8 (k0 : Int), .int .u32 (t0 : Int), .int .u8 (r0 : Int), .slice uo nu uc, .int .i64 p0] 38))) := (Below.refl _ _).alloc (Nat.le_refl _) _
  have CE : Hid (∀ W : World, Below (w.alloc (.cells #[.int .u8 (k0 : Int), .int .u32 (t0 : Int), .int .u8 (r0 : Int), .slice uo nu uc, .int .i64 p0] 38)).heap.size (w.alloc (.cells #[.int .u8 (k0 : Int), .int .u32 (t0 : Int), .int .u8 (r0 : Int), .slice uo nu uc, .int .i64 p0] 38)) W → W.cell? ⟨w.heap.size, 0, none⟩ = some (.int .u8 (k0 : Int)) ∧ W.cell? ⟨w.heap.size, 1, none⟩ = some (.int .u32 (t0 : Int)) ∧ W.cell? ⟨w.heap.size, 2, none⟩ = some (.int .u8 (r0 : Int)) ∧ W.cell? ⟨w.heap.size, 3, none⟩ = some (.slice uo nu uc) ∧ W.cell? ⟨w.heap.size, 4, none⟩ = some (.int .i64 p0)) := fun W h => five_cells h
  clear hn hk0 ht0 hr0 hp0 HO
  by_cases hbag : Bag l
  rotate_left
  · rw [chkL_no hbag] at CK
    obtain ⟨rfl, rfl⟩ := AB.out (fun h => hbag h.1)
    clear AB AT AF AW INS TWO TWL OC SR CE
    go_enter Tryz.func55, Tryz.ntmps55
    go_wp2_with fail
    refine (CK.out _ BL.out).mono ?_
    rintro e w1 ⟨rfl, b1⟩
    have B1 := Lib.hid (bt BL.out b1)
    clear b1
    go_wp2
    go_ret2
    exact ⟨_, rfl, OwnL.nil _ _, B1.out⟩
  rw [chkL_yes hbag] at CK
  cases my
  · obtain ⟨rfl, rfl⟩ := AB.out (fun h => by cases h.2)
    rw [if_neg (by simp)] at OC
    clear AB AT AF AW INS TWO TWL SR
    go_enter Tryz.func55, Tryz.ntmps55
    go_wp2_with fail
    refine (CK.out _ BL.out).mono ?_
    rintro e w1 ⟨rfl, b1⟩
    have B1 := Lib.hid (bt BL.out b1)
    obtain ⟨g0, g1, g2, g3, g4⟩ := CE.out _ b1
    clear b1 CE
    go_wp2_with fail
    refine (OC.out _ B1.out).mono ?_
    rintro e w2 ⟨rfl, b2⟩
    have B2 := Lib.hid (bt B1.out b2)
    clear b2
    go_wp2
    go_ret2
    exact ⟨_, rfl, OwnL.nil _ _, B2.out⟩
  rw [if_pos rfl] at OC
  have SR2 := Lib.hid (SR.out hbag)
  have TL2 := Lib.hid (TWL.out hbag)
  have TO2 := Lib.hid (TWO.out rfl)
  have IN2 := Lib.hid (INS.out hbag)
  have AT2 := Lib.hid (AT.out hbag rfl)
  have AF2 := Lib.hid (AF.out hbag rfl)
  have AW2 := Lib.hid (AW.out hbag rfl)
  have hnm : n ≤ 1024 := by rw [HN.out]; exact hbag.1
  clear AB AT AF AW INS TWO TWL SR hbag
  go_enter Tryz.func55, Tryz.ntmps55
  go_wp2_with fail
  refine (CK.out _ BL.out).mono ?_
  rintro e w1 ⟨rfl, b1⟩
  have B1 := Lib.hid (bt BL.out b1)
  have K1 := Lib.hid b1
  obtain ⟨g0, g1, g2, g3, g4⟩ := CE.out _ b1
  clear b1 CK
  go_wp2_with fail
  refine (OC.out _ B1.out).mono ?_
  rintro e w2 ⟨rfl, b2⟩
  have B2 := Lib.hid (bt B1.out b2)
  have K2 := Lib.hid (bt K1.out b2)
  clear b2 g0 g1 g2 g3 g4 OC K1
  obtain ⟨g0, g1, g2, g3, g4⟩ := CE.out _ K2.out
  go_wp2_with fail
  refine (SR2.out _ B2.out).mono ?_
  rintro e w3 ⟨k, rfl, hk, b3⟩
  have B3 := Lib.hid (bt B2.out b3)
  have K3 := Lib.hid (bt K2.out b3)
  have HK := Lib.hid hk
  clear b3 hk g0 g1 g2 g3 g4 SR2 K2 B2 B1
  cases q
  rotate_left
  · obtain ⟨rfl, rfl⟩ := AT2.out rfl
    clear AF2 AW2 IN2 TO2 CE K3
    go_wp2_with fail
    refine (TL2.out w w3 B3.out.size B3.out).mono ?_
    rintro e w4 ⟨G4, rfl, o4, b4⟩
    have B4 := Lib.hid (bt B3.out b4)
    have O4 := Lib.hid o4
    clear o4 b4
    go_wp2
    go_ret2
    exact ⟨_, rfl, O4.out, B4.out⟩
  by_cases hfull : n = 1024
  · have d1 : decide (n = 1024) = true := decide_eq_true hfull
    have d2 : ((n : Int) == 1024) = true := by simp; omega
    obtain ⟨rfl, rfl⟩ := AF2.out rfl hfull
    clear AT2 AW2 IN2 TO2 TL2 CE K3
    go_wp2
    go_ret2
    exact ⟨_, rfl, OwnL.nil _ _, B3.out⟩
  have d1 : decide (n = 1024) = false := decide_eq_false hfull
  have d2 : ((n : Int) == 1024) = false := by simp; omega
  obtain ⟨rfl, rfl⟩ := AW2.out rfl hfull
  have SK : Hid (∀ w' : World, Below w3.heap.size w3 w' → Below w3.heap.size w3 w' ∧ w'.cell? ⟨w.heap.size, 0, none⟩ = some (.int .u8 (k0 : Int)) ∧ w'.cell? ⟨w.heap.size, 1, none⟩ = some (.int .u32 (t0 : Int)) ∧ w'.cell? ⟨w.heap.size, 2, none⟩ = some (.int .u8 (r0 : Int)) ∧ w'.cell? ⟨w.heap.size, 3, none⟩ = some (.slice uo nu uc) ∧ w'.cell? ⟨w.heap.size, 4, none⟩ = some (.int .i64 p0)) := fun W h => ⟨h, CE.out W (bt K3.out h)⟩
  have TL3 : Hid (∀ W : World, Below w3.heap.size w3 W → Calls Tryz.prog 103 #[.slice ao n cap] W fun e w' => ∃ G, e = .returned (.slice (some ⟨G, 0, none⟩) n n) ∧ OwnL w' w3.heap.size (.slice (some ⟨G, 0, none⟩) n n) l ∧ Below w3.heap.size w3 w') := fun W h => by
    refine (TL2.out w3 W h.size (bt B3.out h)).mono ?_
    rintro e w' ⟨G, rfl, ho, hb⟩
    exact ⟨G, rfl, ho, bt h hb⟩
  have TO3 : Hid (∀ W : World, Below w3.heap.size w3 W → Calls Tryz.prog 81 #[.agg #[.int .u8 (k0 : Int), .int .u32 (t0 : Int), .int .u8 (r0 : Int), .slice uo nu uc, .int .i64 p0]] W fun e w' => ∃ ao cap, e = .returned (.agg #[.int .u8 (k0 : Int), .int .u32 (t0 : Int), .int .u8 (r0 : Int), .slice ao nu cap, .int .i64 p0]) ∧ w'.ownsRow w3.heap.size 32 3 (.slice ao nu cap) nu L ∧ Below w3.heap.size w3 w' ∧ Below W.heap.size W w') := fun W h => by
    refine (TO2.out w3 W h.size (bt B3.out h)).mono ?_
    rintro e w' ⟨ao, cap, rfl, ho, hb⟩
    exact ⟨ao, cap, rfl, ho, bt h hb, hb⟩
  have IN3 : Hid (∀ (W9 w10 : World) (G : Nat) (a : Option Addr) (c : Nat), OwnL W9 w3.heap.size (.slice (some ⟨G, 0, none⟩) n n) l → Below W9.heap.size W9 w10 → w10.ownsRow w3.heap.size 32 3 (.slice a nu c) nu L → Below w3.heap.size w3 w10 →
      Calls Tryz.prog 104 #[.slice (some ⟨G, 0, none⟩) n n, .int .i64 (k : Int), .slice (some ⟨w10.heap.size, 0, none⟩) 1 1] (w10.alloc (.cells #[.int .u8 (k0 : Int), .int .u32 (t0 : Int), .int .u8 (r0 : Int), .slice a nu c, .int .i64 p0] 38)) fun e w' => ∃ v', e = .returned v' ∧ OwnL w' w3.heap.size v' RL ∧ Below w3.heap.size w3 w') := fun W9 w10 G a c h1 h2 h3 h4 => by
    have bA : Below w10.heap.size w10 (w10.alloc (.cells #[.int .u8 (k0 : Int), .int .u32 (t0 : Int), .int .u8 (r0 : Int), .slice a nu c, .int .i64 p0] 38)) := (Below.refl _ _).alloc (Nat.le_refl _) _
    refine (IN2.out w3 W9 _ G w10.heap.size k a c h1 (bt h2 bA) (blk_new rfl) (own_stays h3 bA) (bt h4 bA).size HK.out rfl).mono ?_
    rintro e w' ⟨v', rfl, ho, hb⟩
    exact ⟨v', rfl, ho, (bt h4 bA).trans hb⟩
  clear AT2 AF2 AW2 IN2 TO2 TL2 CE K3
  go_wp2
  go_region_held3 (fun w' => Below w3.heap.size w3 w' ∧ w'.cell? ⟨w.heap.size, 0, none⟩ = some (.int .u8 (k0 : Int)) ∧ w'.cell? ⟨w.heap.size, 1, none⟩ = some (.int .u32 (t0 : Int)) ∧ w'.cell? ⟨w.heap.size, 2, none⟩ = some (.int .u8 (r0 : Int)) ∧ w'.cell? ⟨w.heap.size, 3, none⟩ = some (.slice uo nu uc) ∧ w'.cell? ⟨w.heap.size, 4, none⟩ = some (.int .i64 p0))
    (first | exact SK.out _ (drew1 _) | (go_split_ands; refine SK.out _ ?_; repeat' (first | assumption | (with_reducible refine Below.drew ?_) | (with_reducible refine below_draw ?_ _) | (with_reducible refine alloc_bo ?_ _) | fail)))
    ((first
      | (go_at_call 103; (with_reducible refine (TL3.out _ ?hw).mono ?_)
         case hw => go_split_ands; repeat' (first | assumption | (with_reducible refine Below.drew ?_) | (with_reducible refine below_draw ?_ _) | (with_reducible refine alloc_bo ?_ _) | fail)
         rintro e w9 ⟨G9, rfl, o9, b9⟩)
      | (go_at_call 81; (with_reducible refine (TO3.out _ ?hw).mono ?_)
         case hw => go_split_ands; repeat' (first | assumption | (with_reducible refine Below.drew ?_) | (with_reducible refine below_draw ?_ _) | (with_reducible refine alloc_bo ?_ _) | fail)
         rintro e w10 ⟨a10, c10, rfl, o10, b10, k10⟩)
      | (go_at_call 104; (with_reducible refine (IN3.out w9 w10 G9 a10 c10 o9 ?h1 o10 b10).mono ?_)
         case h1 => repeat' (first | assumption | (with_reducible refine Below.drew ?_) | (with_reducible refine below_draw ?_ _) | fail)
         rintro e w11 ⟨v11, rfl, o11, b11⟩)))
  have O11 : Hid (OwnL w11 w.heap.size v11 RL) := OwnL.base o11 B3.out.size
  have B11 := Lib.hid (bt B3.out b11)
  clear o11 b11 o10 b10 k10 o9 b9
  go_wp2
  go_ret2
  exact ⟨_, rfl, O11.out, B11.out⟩
end Go.Proofs.YtgjbnbojjgbmcaaGreat.Bags

namespace Go.Proofs.YtgjbnbojjgbmcaaGreat.Bags
open Go.RowKit Go.WideShapes Stamp Go.Proofs.YtgjbnbojjgbmcaaGreat.Place Ops Codes
attribute [local go_sem ↓] Go.wp_at_zero Go.wp_at_succ
attribute [local go_sem] yielded_undef
/-- A mark's operation. -/
def oneO (t r : Nat) (h : t < 4294967296 ∧ r < 256) : Opn := ⟨2, t, r, [⟨t, r, 1, h.1, h.2, by decide⟩], 0, by decide, h.1, h.2, by decide⟩
def o11 : Opn := oneO 1 1 (by decide)
end Go.Proofs.YtgjbnbojjgbmcaaGreat.Bags

namespace Go.Proofs.YtgjbnbojjgbmcaaGreat
open Go Go.ChangeShapes Go.WideShapes Go.ChangeAt Go.RowKit
section
variable {H : Type} {enc : TypeId × Value → H} {P : Program} {w : World} {base : Nat} {spare : Nat → Bool} {held : Bool}
theorem trodAll_six {t0 t1 t2 t3 t4 t5 : TypeId} {args : Array Value} {ds : List (DataW H)} {ps : List MemPlace} (h : DataW.TrodAll enc P w base spare held [t0, t1, t2, t3, t4, t5] args.toList ds ps) :
    ∃ v0 v1 v2 v3 v4 v5 d0 d1 d2 d3 d4 d5 p0 p1 p2 p3 p4 p5, args = #[v0, v1, v2, v3, v4, v5] ∧ ds = [d0, d1, d2, d3, d4, d5] ∧ ps = p0 ++ p1 ++ p2 ++ p3 ++ p4 ++ p5 ∧ DataW.Trod enc P w base spare held t0 v0 d0 p0 ∧ DataW.Trod enc P w base spare held t1 v1 d1 p1 ∧ DataW.Trod enc P w base spare held t2 v2 d2 p2 ∧ DataW.Trod enc P w base spare held t3 v3 d3 p3 ∧ DataW.Trod enc P w base spare held t4 v4 d4 p4 ∧ DataW.Trod enc P w base spare held t5 v5 d5 p5 := by
  obtain ⟨v0, vs0, d0, ds0, p0, q0, hargs, rfl, rfl, h0, k0⟩ := trodAll_cons h
  obtain ⟨v1, vs1, d1, ds1, p1, q1, rfl, rfl, rfl, h1, k1⟩ := trodAll_cons k0
  obtain ⟨v2, vs2, d2, ds2, p2, q2, rfl, rfl, rfl, h2, k2⟩ := trodAll_cons k1
  obtain ⟨v3, vs3, d3, ds3, p3, q3, rfl, rfl, rfl, h3, k3⟩ := trodAll_cons k2
  obtain ⟨v4, vs4, d4, ds4, p4, q4, rfl, rfl, rfl, h4, k4⟩ := trodAll_cons k3
  obtain ⟨v5, vs5, d5, ds5, p5, q5, rfl, rfl, rfl, h5, k5⟩ := trodAll_cons k4
  obtain ⟨rfl, rfl, rfl⟩ := trodAll_nil k5
  exact ⟨v0, v1, v2, v3, v4, v5, d0, d1, d2, d3, d4, d5, p0, p1, p2, p3, p4, p5, by cases args; simp_all, rfl, by simp, h0, h1, h2, h3, h4, h5⟩
end
end Go.Proofs.YtgjbnbojjgbmcaaGreat
