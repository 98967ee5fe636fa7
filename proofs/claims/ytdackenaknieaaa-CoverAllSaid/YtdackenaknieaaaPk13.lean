/- octavo/bag.search: what it answers. Conditions: the slice's cells are operations whose stamps rise, not more than a million. -/
import Derived.Shelf.Abstract
import Derived.Deep.DrawnRows
import Derived.Deep.RegionHeld3
import Derived.Lib.AppendZerosOnto
import Derived.Laws.NewBlocks
import Derived.Deep.RegionLaw
import Derived.Scope
import Derived.Test.YtdackenaknieaaaPk12
import Derived.Test.YtdackenaknieaaaPk02
import Derived.Test.YtdackenaknieaaaPk03
import Derived.Test.YtdackenaknieaaaPk10
import Derived.Test.YtdackenaknieaaaPk06
import Derived.Test.YtdackenaknieaaaPk08

namespace Go.Proofs.Ytdackenaknieaaa.Bags
open Go.RowKit Go.WideShapes Stamp Go.Proofs.Ytdackenaknieaaa.Place Ops Codes
attribute [local go_sem ↓] Go.wp_at_zero Go.wp_at_succ
attribute [local go_sem] yielded_undef

def cmpI (x : Opn) (a : Id) : Int := if lessI x a then -1 else if moreI x a then 1 else 0
theorem cmpI_zero {x : Opn} {a : Id} : cmpI x a = 0 ↔ idO x = a := by
  rw [← lessI_eq]
  unfold cmpI
  by_cases h : lessI x a
  · simp [h]
  · by_cases h2 : moreI x a <;> simp [h, h2]
theorem cmpI_neg {x : Opn} {a : Id} : cmpI x a < 0 ↔ lessI x a := by
  unfold cmpI
  by_cases h : lessI x a
  · simp [h]
  · by_cases h2 : moreI x a <;> simp [h, h2]

set_option maxHeartbeats 4000000 in
theorem srch1_any (x : Opn) (a : Id) (uo : Option Addr) (un uc : Nat) (w : World) :
    Calls Try.prog 48 #[opv x (.slice uo un uc), .agg #[.int .u32 (a.t : Int), .int .u8 (a.r : Int)]] w fun e w' => e = .returned (.int .i64 (cmpI x a)) ∧ Below w.heap.size w w' := by
  have LX : Hid (∀ W : World, Calls Try.prog 44 #[.agg #[.int .u32 (x.t : Int), .int .u8 (x.r : Int)], .agg #[.int .u32 (a.t : Int), .int .u8 (a.r : Int)]] W fun e w' => e = .returned (.bool (decide (lessI x a))) ∧ Below W.heap.size W w') := fun W => by
    have := less_any x.t x.r a.t a.r x.ht x.hr a.ht a.hr W
    rwa [show less x.t x.r a.t a.r = decide (lessI x a) from rfl] at this
  have LY : Hid (∀ W : World, Calls Try.prog 44 #[.agg #[.int .u32 (a.t : Int), .int .u8 (a.r : Int)], .agg #[.int .u32 (x.t : Int), .int .u8 (x.r : Int)]] W fun e w' => e = .returned (.bool (decide (moreI x a))) ∧ Below W.heap.size W w') := fun W => by
    have := less_any a.t a.r x.t x.r a.ht a.hr x.ht x.hr W
    rwa [show less a.t a.r x.t x.r = decide (moreI x a) from rfl] at this
  obtain ⟨c, hc⟩ : ∃ c, cmpI x a = c := ⟨_, rfl⟩
  have HC : Hid (cmpI x a = c) := hc
  rw [hc]
  clear hc
  have HO : Hid (∀ v : Value, opv x v = .agg #[.int .u8 (x.k : Int), .int .u32 (x.t : Int), .int .u8 (x.r : Int), v, .int .i64 x.p]) := fun v => rfl
  simp only [HO.out]
  have C1 : Hid (lessI x a → c = -1) := fun h => by rw [← HC.out]; unfold cmpI; rw [if_pos h]
  have C2 : Hid (¬ lessI x a → moreI x a → c = 1) := fun h h2 => by rw [← HC.out]; unfold cmpI; rw [if_neg h, if_pos h2]
  have C3 : Hid (¬ lessI x a → ¬ moreI x a → c = 0) := fun h h2 => by rw [← HC.out]; unfold cmpI; rw [if_neg h, if_neg h2]
  by_cases h1 : lessI x a
  · obtain rfl := C1.out h1
    rw [decide_eq_true h1] at LX
    clear C2 C3 C1 HC LY
    obtain ⟨k, hk⟩ : ∃ z, x.k = z := ⟨_, rfl⟩
    obtain ⟨t, ht⟩ : ∃ z, x.t = z := ⟨_, rfl⟩
    obtain ⟨r, hr⟩ : ∃ z, x.r = z := ⟨_, rfl⟩
    obtain ⟨p, hp⟩ : ∃ z, x.p = z := ⟨_, rfl⟩
    obtain ⟨s, hs⟩ : ∃ z, a.t = z := ⟨_, rfl⟩
    obtain ⟨q, hq⟩ : ∃ z, a.r = z := ⟨_, rfl⟩
    rw [hk, ht, hr, hp, hs, hq]
    rw [ht, hr, hs, hq] at LX
    have B0 : Hid (Below w.heap.size w ((w.alloc (.cells #[.int .u8 (k : Int), .int .u32 (t : Int), .int .u8 (r : Int), .slice uo un uc, .int .i64 p] 35)).alloc (.cells #[.int .u32 (s : Int), .int .u8 (q : Int)] 32))) := ((Below.refl _ _).alloc (Nat.le_refl _) _).alloc (by simp) _
    clear hk ht hr hp hs hq HO
    go_enter Try.func48, Try.ntmps48
    go_wp2_with fail
    refine (LX.out _).mono ?_
    rintro e w1 ⟨rfl, b1⟩
    have B1 := Lib.hid (bt B0.out b1)
    clear b1
    go_wp2
    go_ret
    exact ⟨rfl, B1.out⟩
  rw [decide_eq_false h1] at LX
  by_cases h2 : moreI x a
  · obtain rfl := C2.out h1 h2
    rw [decide_eq_true h2] at LY
    clear C1 C2 C3 HC
    obtain ⟨k, hk⟩ : ∃ z, x.k = z := ⟨_, rfl⟩
    obtain ⟨t, ht⟩ : ∃ z, x.t = z := ⟨_, rfl⟩
    obtain ⟨r, hr⟩ : ∃ z, x.r = z := ⟨_, rfl⟩
    obtain ⟨p, hp⟩ : ∃ z, x.p = z := ⟨_, rfl⟩
    obtain ⟨s, hs⟩ : ∃ z, a.t = z := ⟨_, rfl⟩
    obtain ⟨q, hq⟩ : ∃ z, a.r = z := ⟨_, rfl⟩
    rw [hk, ht, hr, hp, hs, hq]
    rw [ht, hr, hs, hq] at LX LY
    have B0 : Hid (Below w.heap.size w ((w.alloc (.cells #[.int .u8 (k : Int), .int .u32 (t : Int), .int .u8 (r : Int), .slice uo un uc, .int .i64 p] 35)).alloc (.cells #[.int .u32 (s : Int), .int .u8 (q : Int)] 32))) := ((Below.refl _ _).alloc (Nat.le_refl _) _).alloc (by simp) _
    clear hk ht hr hp hs hq HO
    have CE : Hid (∀ w2 : World, Below ((w.alloc (.cells #[.int .u8 (k : Int), .int .u32 (t : Int), .int .u8 (r : Int), .slice uo un uc, .int .i64 p] 35)).alloc (.cells #[.int .u32 (s : Int), .int .u8 (q : Int)] 32)).heap.size ((w.alloc (.cells #[.int .u8 (k : Int), .int .u32 (t : Int), .int .u8 (r : Int), .slice uo un uc, .int .i64 p] 35)).alloc (.cells #[.int .u32 (s : Int), .int .u8 (q : Int)] 32)) w2 →
        w2.cell? ⟨w.heap.size, 1, none⟩ = some (.int .u32 (t : Int)) ∧ w2.cell? ⟨w.heap.size, 2, none⟩ = some (.int .u8 (r : Int)) ∧ w2.cell? ⟨w.heap.size + 1, 0, none⟩ = some (.int .u32 (s : Int)) ∧ w2.cell? ⟨w.heap.size + 1, 1, none⟩ = some (.int .u8 (q : Int))) := fun w2 h => by
      have g1 : w2.heap[w.heap.size]? = some (.cells #[.int .u8 (k : Int), .int .u32 (t : Int), .int .u8 (r : Int), .slice uo un uc, .int .i64 p] 35) := blk_below h (blk_old (blk_new rfl))
      have g2 : w2.heap[w.heap.size + 1]? = some (.cells #[.int .u32 (s : Int), .int .u8 (q : Int)] 32) := blk_below h (blk_new (by simp))
      exact ⟨(cells5 g1).2.1, (cells5 g1).2.2.1, (cells_blk g2).1, (cells_blk g2).2.1⟩
    go_enter Try.func48, Try.ntmps48
    go_wp2_with fail
    refine (LX.out _).mono ?_
    rintro e w1 ⟨rfl, b1⟩
    have B1 := Lib.hid (bt B0.out b1)
    obtain ⟨g1, g2, g3, g4⟩ := CE.out _ b1
    clear b1 CE
    go_wp2_with fail
    refine (LY.out _).mono ?_
    rintro e w2 ⟨rfl, b2⟩
    have B2 := Lib.hid (bt B1.out b2)
    clear b2
    go_wp2
    go_ret
    exact ⟨rfl, B2.out⟩
  · obtain rfl := C3.out h1 h2
    rw [decide_eq_false h2] at LY
    clear C1 C2 C3 HC
    obtain ⟨k, hk⟩ : ∃ z, x.k = z := ⟨_, rfl⟩
    obtain ⟨t, ht⟩ : ∃ z, x.t = z := ⟨_, rfl⟩
    obtain ⟨r, hr⟩ : ∃ z, x.r = z := ⟨_, rfl⟩
    obtain ⟨p, hp⟩ : ∃ z, x.p = z := ⟨_, rfl⟩
    obtain ⟨s, hs⟩ : ∃ z, a.t = z := ⟨_, rfl⟩
    obtain ⟨q, hq⟩ : ∃ z, a.r = z := ⟨_, rfl⟩
    rw [hk, ht, hr, hp, hs, hq]
    rw [ht, hr, hs, hq] at LX LY
    have B0 : Hid (Below w.heap.size w ((w.alloc (.cells #[.int .u8 (k : Int), .int .u32 (t : Int), .int .u8 (r : Int), .slice uo un uc, .int .i64 p] 35)).alloc (.cells #[.int .u32 (s : Int), .int .u8 (q : Int)] 32))) := ((Below.refl _ _).alloc (Nat.le_refl _) _).alloc (by simp) _
    clear hk ht hr hp hs hq HO
    have CE : Hid (∀ w2 : World, Below ((w.alloc (.cells #[.int .u8 (k : Int), .int .u32 (t : Int), .int .u8 (r : Int), .slice uo un uc, .int .i64 p] 35)).alloc (.cells #[.int .u32 (s : Int), .int .u8 (q : Int)] 32)).heap.size ((w.alloc (.cells #[.int .u8 (k : Int), .int .u32 (t : Int), .int .u8 (r : Int), .slice uo un uc, .int .i64 p] 35)).alloc (.cells #[.int .u32 (s : Int), .int .u8 (q : Int)] 32)) w2 →
        w2.cell? ⟨w.heap.size, 1, none⟩ = some (.int .u32 (t : Int)) ∧ w2.cell? ⟨w.heap.size, 2, none⟩ = some (.int .u8 (r : Int)) ∧ w2.cell? ⟨w.heap.size + 1, 0, none⟩ = some (.int .u32 (s : Int)) ∧ w2.cell? ⟨w.heap.size + 1, 1, none⟩ = some (.int .u8 (q : Int))) := fun w2 h => by
      have g1 : w2.heap[w.heap.size]? = some (.cells #[.int .u8 (k : Int), .int .u32 (t : Int), .int .u8 (r : Int), .slice uo un uc, .int .i64 p] 35) := blk_below h (blk_old (blk_new rfl))
      have g2 : w2.heap[w.heap.size + 1]? = some (.cells #[.int .u32 (s : Int), .int .u8 (q : Int)] 32) := blk_below h (blk_new (by simp))
      exact ⟨(cells5 g1).2.1, (cells5 g1).2.2.1, (cells_blk g2).1, (cells_blk g2).2.1⟩
    go_enter Try.func48, Try.ntmps48
    go_wp2_with fail
    refine (LX.out _).mono ?_
    rintro e w1 ⟨rfl, b1⟩
    have B1 := Lib.hid (bt B0.out b1)
    obtain ⟨g1, g2, g3, g4⟩ := CE.out _ b1
    clear b1 CE
    go_wp2_with fail
    refine (LY.out _).mono ?_
    rintro e w2 ⟨rfl, b2⟩
    have B2 := Lib.hid (bt B1.out b2)
    clear b2
    go_wp2
    go_ret
    exact ⟨rfl, B2.out⟩

set_option maxRecDepth 100000 in
set_option maxHeartbeats 16000000 in
theorem bBin_any {v : Value} {l : List Opn} (a : Id) {w : World} (hv : OpL w v l) (hl : l.length ≤ 1000000) (hpw : l.Pairwise lessO) :
    Calls Try.prog 47 #[v, .agg #[.int .u32 (a.t : Int), .int .u8 (a.r : Int)], .func (.func 48) #[] #[]] w fun e w' => ∃ k : Nat, e = .returned (.tuple #[.int .i64 (k : Int), .bool (hasO l a)]) ∧ Pos l a k ∧ Below w.heap.size w w' := by
  obtain ⟨ao, cap, rfl⟩ := hv.shape
  obtain ⟨n, hn⟩ : ∃ n, n = l.length := ⟨_, rfl⟩
  have HV : Hid (∀ W : World, Below w.heap.size w W → OpL W (.slice ao l.length cap) l) := fun W h => hv.keeps h
  have HN := Lib.hid hn
  have HPW := Lib.hid hpw
  have S1 : Hid (∀ (x : Opn) (uo : Option Addr) (un uc : Nat) (W : World), Calls Try.prog 48 #[opv x (.slice uo un uc), .agg #[.int .u32 (a.t : Int), .int .u8 (a.r : Int)]] W fun e w' => e = .returned (.int .i64 (cmpI x a)) ∧ Below W.heap.size W w') := fun x uo un uc W => srch1_any x a uo un uc W
  have HLT : Hid (∀ (lo hi j : Nat) (h : j < l.length), (∀ t (h : t < l.length), t < lo → lessI (l[t]'h) a) → cmpI (l[j]'h) a < 0 → ∀ t (h : t < l.length), t < j + 1 → lessI (l[t]'h) a) := fun lo hi j h _ hc t h2 h3 => lessI_mono hpw h (by omega) (cmpI_neg.1 hc)
  have HGE : Hid (∀ (j : Nat) (h : j < l.length), ¬ cmpI (l[j]'h) a < 0 → ∀ t (h : t < l.length), j ≤ t → ¬ lessI (l[t]'h) a) := fun j h hc t h2 h3 hk => hc (cmpI_neg.2 (lessI_mono hpw h2 h3 hk))
  have HFI : Hid (∀ (k : Nat), k ≤ l.length → (∀ t (h : t < l.length), t < k → lessI (l[t]'h) a) → (∀ t (h : t < l.length), k ≤ t → ¬ lessI (l[t]'h) a) → Pos l a k) := fun k h1 h2 h3 => ⟨h1, h2, h3⟩
  obtain ⟨q, hq⟩ : ∃ q, hasO l a = q := ⟨_, rfl⟩
  have HQ1 : Hid (∀ k (h : k < l.length), Pos l a k → cmpI (l[k]'h) a = 0 → q = true) := fun k h _ hc => by
    rw [← hq, hasO_iff]; exact ⟨_, List.getElem_mem h, cmpI_zero.1 hc⟩
  have HQ2 : Hid (∀ k, Pos l a k → (∀ h : k < l.length, ¬ cmpI (l[k]'h) a = 0) → q = false) := fun k hp h => by
    rw [← hq]; exact pos_none hpw hp (fun hk e => h hk (cmpI_zero.2 e))
  obtain ⟨P, hP⟩ : ∃ P : Nat → Prop, P = Pos l a := ⟨_, rfl⟩
  have HP : Hid (∀ k, Pos l a k → P k) := fun k h => by rw [hP]; exact h
  rw [hq, ← hn]
  have hPk : ∀ k, Pos l a k = P k := fun k => by rw [hP]
  simp only [hPk]
  rw [← hn] at hl
  clear hv hn hpw hq hP hPk
  obtain ⟨s, hs⟩ : ∃ z, a.t = z := ⟨_, rfl⟩
  obtain ⟨b, hb⟩ : ∃ z, a.r = z := ⟨_, rfl⟩
  rw [hs, hb] at S1 ⊢
  clear hs hb
  have eg := enters_of Try.func48 (by kernel_rfl) rfl
  have CE : Hid (∀ w2 : World, Below (w.alloc (.cells #[.int .u32 (s : Int), .int .u8 (b : Int)] 32)).heap.size (w.alloc (.cells #[.int .u32 (s : Int), .int .u8 (b : Int)] 32)) w2 → w2.cell? ⟨w.heap.size, 0, none⟩ = some (.int .u32 (s : Int)) ∧ w2.cell? ⟨w.heap.size, 1, none⟩ = some (.int .u8 (b : Int))) := fun w2 h => by
    have g2 := cells_blk (blk_below h (blk_new rfl))
    exact ⟨g2.1, g2.2.1⟩
  have BZ : Hid (Below w.heap.size w (w.alloc (.cells #[.int .u32 (s : Int), .int .u8 (b : Int)] 32))) := (Below.refl _ _).alloc (Nat.le_refl _) _
  have B0 : Hid (Below (w.alloc (.cells #[.int .u32 (s : Int), .int .u8 (b : Int)] 32)).heap.size (w.alloc (.cells #[.int .u32 (s : Int), .int .u8 (b : Int)] 32)) (w.alloc (.cells #[.int .u32 (s : Int), .int .u8 (b : Int)] 32))) := Below.refl _ _
  go_enter Try.func47, Try.ntmps47
  go_wp2
  go_loopw [9, 10] (fun x y wr => ∃ lo hi : Nat, x = .int .i64 (lo : Int) ∧ y = .int .i64 (hi : Int) ∧ lo ≤ hi ∧ hi ≤ n ∧ Hid (∀ t (h : t < l.length), t < lo → lessI (l[t]'h) a) ∧ Hid (∀ t (h : t < l.length), hi ≤ t → ¬ lessI (l[t]'h) a) ∧ Hid (Below (w.alloc (.cells #[.int .u32 (s : Int), .int .u8 (b : Int)] 32)).heap.size (w.alloc (.cells #[.int .u32 (s : Int), .int .u8 (b : Int)] 32)) wr)) (fun x y _ => (intOf y - intOf x).toNat)
  case atStart => exact ⟨0, n, rfl, rfl, by omega, by omega, fun t h ht => by omega, fun t h ht => by have := HN.out; omega, B0⟩
  case round =>
    clear B0
    obtain ⟨lo, hi, rfl, rfl, hlh, hhn, hlow, hhigh, hbel⟩ := hrel
    by_cases hlt : lo < hi
    · obtain ⟨m, hm⟩ : ∃ m, m = (lo + hi) / 2 := ⟨_, rfl⟩
      have em : ((lo : Int) + (hi : Int)) / 2 = (m : Int) := by omega
      have m1 : lo ≤ m := by omega
      have m2 : m < hi := by omega
      have q4 : (0 : Int) ≤ (m : Int) := by omega
      have q5 : (m : Int) < (n : Int) := by omega
      have hml : m < l.length := by rw [← HN.out]; omega
      clear hm
      obtain ⟨bb, oo, u, e, hbb, hru, h0, h1, h2, h3, h4⟩ := opl_at (HV.out wr (bt BZ.out hbel.out)) m hml
      subst e
      obtain ⟨x, hx⟩ : ∃ x, x = l[m]'hml := ⟨_, rfl⟩
      rw [← hx] at hru h0 h1 h2 h4
      have HO : Hid (∀ v : Value, opv x v = .agg #[.int .u8 (x.k : Int), .int .u32 (x.t : Int), .int .u8 (x.r : Int), v, .int .i64 x.p]) := fun v => rfl
      obtain ⟨uo, uc, rfl⟩ := hru.shape
      obtain ⟨nu, hnu⟩ : ∃ n, n = x.pl.length := ⟨_, rfl⟩
      have HNU := Lib.hid hnu
      rw [← hnu] at hru h3
      clear hnu
      have SX : Hid (∀ W : World, Calls Try.prog 48 #[opv x (.slice uo nu uc), .agg #[.int .u32 (s : Int), .int .u8 (b : Int)]] W fun e w' => e = .returned (.int .i64 (cmpI x a)) ∧ Below W.heap.size W w') := fun W => S1.out x uo nu uc W
      obtain ⟨c, hc⟩ : ∃ c, cmpI x a = c := ⟨_, rfl⟩
      rw [hc] at SX
      have HLO : Hid (c < 0 → ∀ t (h : t < l.length), t < m + 1 → lessI (l[t]'h) a) := fun h => HLT.out lo hi m hml hlow.out (by rw [← hx, hc]; exact h)
      have HHI : Hid (¬ c < 0 → ∀ t (h : t < l.length), m ≤ t → ¬ lessI (l[t]'h) a) := fun h => HGE.out m hml (by rw [← hx, hc]; omega)
      clear hru hx hc
      obtain ⟨k, hk⟩ : ∃ z, x.k = z := ⟨_, rfl⟩
      obtain ⟨t, ht⟩ : ∃ z, x.t = z := ⟨_, rfl⟩
      obtain ⟨r, hr⟩ : ∃ z, x.r = z := ⟨_, rfl⟩
      obtain ⟨p, hp⟩ : ∃ z, x.p = z := ⟨_, rfl⟩
      rw [hk, ht, hr, hp] at HO
      rw [hk] at h0
      rw [ht] at h1
      rw [hr] at h2
      rw [hp] at h4
      simp only [HO.out] at SX
      have F1 : Hid (FiveAt wr bb (oo + m * 5) (.int .u8 (k : Int)) (.int .u32 (t : Int)) (.int .u8 (r : Int)) (.slice uo nu uc) (.int .i64 p)) := ⟨hbb, h0, h1, h2, h3, h4⟩
      have SK : Hid (∀ w' : World, Below wr.heap.size wr w' → Below wr.heap.size wr w' ∧ w'.cell? ⟨bb, oo + m * 5, none⟩ = some (.int .u8 (k : Int)) ∧ w'.cell? ⟨bb, oo + m * 5 + 1, none⟩ = some (.int .u32 (t : Int)) ∧ w'.cell? ⟨bb, oo + m * 5 + 2, none⟩ = some (.int .u8 (r : Int)) ∧ w'.cell? ⟨bb, oo + m * 5 + 3, none⟩ = some (.slice uo nu uc) ∧ w'.cell? ⟨bb, oo + m * 5 + 4, none⟩ = some (.int .i64 p) ∧ w'.cell? ⟨w.heap.size, 0, none⟩ = some (.int .u32 (s : Int)) ∧ w'.cell? ⟨w.heap.size, 1, none⟩ = some (.int .u8 (b : Int))) := fun W h => by
        have a1 := (F1.out.keeps h).2
        have a2 := CE.out W (bt hbel.out h)
        exact ⟨h, a1.1, a1.2.1, a1.2.2.1, a1.2.2.2.1, a1.2.2.2.2, a2.1, a2.2⟩
      clear hk ht hr hp h0 h1 h2 h3 h4 HO S1 HLT HGE HFI HQ1 HQ2 HP HPW F1
      by_cases hc0 : c < 0
      · have d1 : decide (c < 0) = true := decide_eq_true hc0
        have HN2 := Lib.hid (HLO.out hc0)
        clear HLO HHI
        go_wp2
        refine wp_region_held_drew (S := fun w' => Below wr.heap.size wr w' ∧ w'.cell? ⟨bb, oo + m * 5, none⟩ = some (.int .u8 (k : Int)) ∧ w'.cell? ⟨bb, oo + m * 5 + 1, none⟩ = some (.int .u32 (t : Int)) ∧ w'.cell? ⟨bb, oo + m * 5 + 2, none⟩ = some (.int .u8 (r : Int)) ∧ w'.cell? ⟨bb, oo + m * 5 + 3, none⟩ = some (.slice uo nu uc) ∧ w'.cell? ⟨bb, oo + m * 5 + 4, none⟩ = some (.int .i64 p) ∧ w'.cell? ⟨w.heap.size, 0, none⟩ = some (.int .u32 (s : Int)) ∧ w'.cell? ⟨w.heap.size, 1, none⟩ = some (.int .u8 (b : Int))) (by kernel_rfl) (SK.out _ (drew1 _)) (fun hHeld => ?_)
        refine wpAnyH_take (i := 0) (v := ?va0) rfl (by kernel_rfl) (by kernel_rfl) (by kernel_rfl) (fun _ _ _ h => h) (Or.inl ⟨by rfl, ?ya0⟩) (by assumption) ?_
        case ya0 => intro w hSw; (try dsimp only at hSw); go_simp <;> with_reducible rfl
        try simp only [List.getElem_toArray, List.getElem_cons_zero, Act.put, List.setIfInBounds_toArray, List.set_cons_zero, List.set_cons_succ]
        refine wpAnyH_take (i := 1) (v := ?va1) rfl (by kernel_rfl) (by kernel_rfl) (by kernel_rfl) (fun _ _ _ h => h) (Or.inl ⟨by rfl, ?ya1⟩) (by assumption) ?_
        case ya1 => intro w hSw; (try dsimp only at hSw); go_simp <;> with_reducible rfl
        try simp only [List.getElem_toArray, List.getElem_cons_succ, List.getElem_cons_zero, Act.put, List.setIfInBounds_toArray, List.set_cons_zero, List.set_cons_succ]
        refine wpAnyH_take (i := 2) (v := ?va2) rfl (by kernel_rfl) (by kernel_rfl) (by kernel_rfl) (fun _ _ _ h => h) (Or.inl ⟨by rfl, ?ya2⟩) (by assumption) ?_
        case ya2 => intro w hSw; (try dsimp only at hSw); go_simp <;> with_reducible rfl
        try simp only [List.getElem_toArray, List.getElem_cons_succ, List.getElem_cons_zero, Act.put, List.setIfInBounds_toArray, List.set_cons_zero, List.set_cons_succ]
        refine wpAnyH_take (i := 3) (v := ?va3) rfl (by kernel_rfl) (by kernel_rfl) (by kernel_rfl) (fun _ _ _ h => h) (Or.inl ⟨by rfl, ?ya3⟩) (by assumption) ?_
        case ya3 => intro w hSw; (try dsimp only at hSw); go_simp <;> with_reducible rfl
        try simp only [List.getElem_toArray, List.getElem_cons_succ, List.getElem_cons_zero, Act.put, List.setIfInBounds_toArray, List.set_cons_zero, List.set_cons_succ]
        refine wpAnyH_take (i := 4) (v := ?va4) rfl (by kernel_rfl) (by kernel_rfl) (by kernel_rfl) (fun _ _ _ h => h) (Or.inl ⟨by rfl, ?ya4⟩) (by assumption) ?_
        case ya4 => intro w hSw; (try dsimp only at hSw); go_simp <;> with_reducible rfl
        try simp only [List.getElem_toArray, List.getElem_cons_succ, List.getElem_cons_zero, Act.put, List.setIfInBounds_toArray, List.set_cons_zero, List.set_cons_succ]
        refine wpAnyH_take (i := 5) (v := ?va5) rfl (by kernel_rfl) (by kernel_rfl) (by kernel_rfl) (fun _ _ _ h => h) (Or.inl ⟨by rfl, ?ya5⟩) (by assumption) ?_
        case ya5 => intro w hSw; (try dsimp only at hSw); go_simp <;> with_reducible rfl
        try simp only [List.getElem_toArray, List.getElem_cons_succ, List.getElem_cons_zero, Act.put, List.setIfInBounds_toArray, List.set_cons_zero, List.set_cons_succ]
        refine wpAnyH_ready (rs := [6]) (by kernel_rfl) (by simp) ?_
        refine AllReadyH.cons rfl (fun K hK => ?_) ?za6
        case za6 => exact AllReadyH.nil
        go_simp
        refine (SX.out _).mono ?_
        rintro e w9a6 ⟨rfl, b9⟩
        refine hK.out _ _ (SK.out _ (bt hHeld.1 b9)) (fun hNew => ?_)
        clear hHeld
        have hHeld := hNew
        clear hNew hK K
        try simp only [List.getElem_toArray, List.getElem_cons_succ, List.getElem_cons_zero, Act.put, List.setIfInBounds_toArray, List.set_cons_zero, List.set_cons_succ]
        refine wpAnyH_take (i := 7) (v := ?va7) rfl (by kernel_rfl) (by kernel_rfl) (by kernel_rfl) (fun _ _ _ h => h) (Or.inl ⟨by rfl, ?ya7⟩) (by assumption) ?_
        case ya7 => intro w hSw; (try dsimp only at hSw); go_simp <;> with_reducible rfl
        try simp only [List.getElem_toArray, List.getElem_cons_succ, List.getElem_cons_zero, Act.put, List.setIfInBounds_toArray, List.set_cons_zero, List.set_cons_succ]
        refine wpAnyH_done (by kernel_rfl) ?_ _
        go_wp2
        go_roundw
        case rel => exact ⟨m + 1, hi, by go_num, rfl, by omega, hhn, HN2, hhigh, Lib.hid (bt hbel.out hHeld.1)⟩
        case measure => simp [intOf]; omega
      · have d1 : decide (c < 0) = false := decide_eq_false hc0
        have HN2 := Lib.hid (HHI.out hc0)
        clear HLO HHI
        go_wp2
        refine wp_region_held_drew (S := fun w' => Below wr.heap.size wr w' ∧ w'.cell? ⟨bb, oo + m * 5, none⟩ = some (.int .u8 (k : Int)) ∧ w'.cell? ⟨bb, oo + m * 5 + 1, none⟩ = some (.int .u32 (t : Int)) ∧ w'.cell? ⟨bb, oo + m * 5 + 2, none⟩ = some (.int .u8 (r : Int)) ∧ w'.cell? ⟨bb, oo + m * 5 + 3, none⟩ = some (.slice uo nu uc) ∧ w'.cell? ⟨bb, oo + m * 5 + 4, none⟩ = some (.int .i64 p) ∧ w'.cell? ⟨w.heap.size, 0, none⟩ = some (.int .u32 (s : Int)) ∧ w'.cell? ⟨w.heap.size, 1, none⟩ = some (.int .u8 (b : Int))) (by kernel_rfl) (SK.out _ (drew1 _)) (fun hHeld => ?_)
        refine wpAnyH_take (i := 0) (v := ?vb0) rfl (by kernel_rfl) (by kernel_rfl) (by kernel_rfl) (fun _ _ _ h => h) (Or.inl ⟨by rfl, ?yb0⟩) (by assumption) ?_
        case yb0 => intro w hSw; (try dsimp only at hSw); go_simp <;> with_reducible rfl
        try simp only [List.getElem_toArray, List.getElem_cons_zero, Act.put, List.setIfInBounds_toArray, List.set_cons_zero, List.set_cons_succ]
        refine wpAnyH_take (i := 1) (v := ?vb1) rfl (by kernel_rfl) (by kernel_rfl) (by kernel_rfl) (fun _ _ _ h => h) (Or.inl ⟨by rfl, ?yb1⟩) (by assumption) ?_
        case yb1 => intro w hSw; (try dsimp only at hSw); go_simp <;> with_reducible rfl
        try simp only [List.getElem_toArray, List.getElem_cons_succ, List.getElem_cons_zero, Act.put, List.setIfInBounds_toArray, List.set_cons_zero, List.set_cons_succ]
        refine wpAnyH_take (i := 2) (v := ?vb2) rfl (by kernel_rfl) (by kernel_rfl) (by kernel_rfl) (fun _ _ _ h => h) (Or.inl ⟨by rfl, ?yb2⟩) (by assumption) ?_
        case yb2 => intro w hSw; (try dsimp only at hSw); go_simp <;> with_reducible rfl
        try simp only [List.getElem_toArray, List.getElem_cons_succ, List.getElem_cons_zero, Act.put, List.setIfInBounds_toArray, List.set_cons_zero, List.set_cons_succ]
        refine wpAnyH_take (i := 3) (v := ?vb3) rfl (by kernel_rfl) (by kernel_rfl) (by kernel_rfl) (fun _ _ _ h => h) (Or.inl ⟨by rfl, ?yb3⟩) (by assumption) ?_
        case yb3 => intro w hSw; (try dsimp only at hSw); go_simp <;> with_reducible rfl
        try simp only [List.getElem_toArray, List.getElem_cons_succ, List.getElem_cons_zero, Act.put, List.setIfInBounds_toArray, List.set_cons_zero, List.set_cons_succ]
        refine wpAnyH_take (i := 4) (v := ?vb4) rfl (by kernel_rfl) (by kernel_rfl) (by kernel_rfl) (fun _ _ _ h => h) (Or.inl ⟨by rfl, ?yb4⟩) (by assumption) ?_
        case yb4 => intro w hSw; (try dsimp only at hSw); go_simp <;> with_reducible rfl
        try simp only [List.getElem_toArray, List.getElem_cons_succ, List.getElem_cons_zero, Act.put, List.setIfInBounds_toArray, List.set_cons_zero, List.set_cons_succ]
        refine wpAnyH_take (i := 5) (v := ?vb5) rfl (by kernel_rfl) (by kernel_rfl) (by kernel_rfl) (fun _ _ _ h => h) (Or.inl ⟨by rfl, ?yb5⟩) (by assumption) ?_
        case yb5 => intro w hSw; (try dsimp only at hSw); go_simp <;> with_reducible rfl
        try simp only [List.getElem_toArray, List.getElem_cons_succ, List.getElem_cons_zero, Act.put, List.setIfInBounds_toArray, List.set_cons_zero, List.set_cons_succ]
        refine wpAnyH_ready (rs := [6]) (by kernel_rfl) (by simp) ?_
        refine AllReadyH.cons rfl (fun K hK => ?_) ?zb6
        case zb6 => exact AllReadyH.nil
        go_simp
        refine (SX.out _).mono ?_
        rintro e w9b6 ⟨rfl, b9⟩
        refine hK.out _ _ (SK.out _ (bt hHeld.1 b9)) (fun hNew => ?_)
        clear hHeld
        have hHeld := hNew
        clear hNew hK K
        try simp only [List.getElem_toArray, List.getElem_cons_succ, List.getElem_cons_zero, Act.put, List.setIfInBounds_toArray, List.set_cons_zero, List.set_cons_succ]
        refine wpAnyH_take (i := 7) (v := ?vb7) rfl (by kernel_rfl) (by kernel_rfl) (by kernel_rfl) (fun _ _ _ h => h) (Or.inl ⟨by rfl, ?yb7⟩) (by assumption) ?_
        case yb7 => intro w hSw; (try dsimp only at hSw); go_simp <;> with_reducible rfl
        try simp only [List.getElem_toArray, List.getElem_cons_succ, List.getElem_cons_zero, Act.put, List.setIfInBounds_toArray, List.set_cons_zero, List.set_cons_succ]
        refine wpAnyH_done (by kernel_rfl) ?_ _
        go_wp2
        go_roundw
        case rel => exact ⟨lo, m, rfl, rfl, by omega, by omega, hlow, HN2, Lib.hid (bt hbel.out hHeld.1)⟩
        case measure => simp [intOf]; omega
    · obtain rfl : hi = lo := by omega
      have HPK := Lib.hid (HFI.out hi (by rw [← HN.out]; omega) hlow.out hhigh.out)
      by_cases hkn : hi < n
      rotate_left
      · have q8 : decide (hi < n) = false := by simpa using hkn
        obtain rfl : q = false := HQ2.out hi HPK.out (fun h => by have := HN.out; omega)
        go_wp2
        have SK0 : Hid (∀ w' : World, Below wr.heap.size wr w' → Below wr.heap.size wr w') := fun _ h => h
        refine wp_region_held_drew (S := fun w' => Below wr.heap.size wr w') (by kernel_rfl) (SK0.out _ (drew1 _)) (fun hHeld => ?_)
        refine wpAnyH_take (i := 0) (v := ?vc0) rfl (by kernel_rfl) (by kernel_rfl) (by kernel_rfl) (fun _ _ _ h => h) (Or.inl ⟨by rfl, ?yc0⟩) (by assumption) ?_
        case yc0 => intro w hSw; (try dsimp only at hSw); go_simp <;> with_reducible rfl
        try simp only [List.getElem_toArray, List.getElem_cons_zero, Act.put, List.setIfInBounds_toArray, List.set_cons_zero, List.set_cons_succ]
        refine wpAnyH_take (i := 1) (v := ?vc1) rfl (by kernel_rfl) (by kernel_rfl) (by kernel_rfl) (fun _ _ _ h => h) (Or.inl ⟨by rfl, ?yc1⟩) (by assumption) ?_
        case yc1 => intro w hSw; (try dsimp only at hSw); go_simp <;> with_reducible rfl
        try simp only [List.getElem_toArray, List.getElem_cons_succ, List.getElem_cons_zero, Act.put, List.setIfInBounds_toArray, List.set_cons_zero, List.set_cons_succ]
        refine wpAnyH_take (i := 2) (v := ?vc2) rfl (by kernel_rfl) (by kernel_rfl) (by kernel_rfl) (fun _ _ _ h => h) (Or.inl ⟨by rfl, ?yc2⟩) (by assumption) ?_
        case yc2 => intro w hSw; (try dsimp only at hSw); go_simp <;> with_reducible rfl
        try simp only [List.getElem_toArray, List.getElem_cons_succ, List.getElem_cons_zero, Act.put, List.setIfInBounds_toArray, List.set_cons_zero, List.set_cons_succ]
        refine wpAnyH_take (i := 3) (v := ?vc3) rfl (by kernel_rfl) (by kernel_rfl) (by kernel_rfl) (fun _ _ _ h => h) (Or.inl ⟨by rfl, ?yc3⟩) (by assumption) ?_
        case yc3 => intro w hSw; (try dsimp only at hSw); go_simp <;> with_reducible rfl
        try simp only [List.getElem_toArray, List.getElem_cons_succ, List.getElem_cons_zero, Act.put, List.setIfInBounds_toArray, List.set_cons_zero, List.set_cons_succ]
        refine wpAnyH_take (i := 4) (v := ?vc4) rfl (by kernel_rfl) (by kernel_rfl) (by kernel_rfl) (fun _ _ _ h => h) (Or.inl ⟨by rfl, ?yc4⟩) (by assumption) ?_
        case yc4 => intro w hSw; (try dsimp only at hSw); go_simp <;> with_reducible rfl
        try simp only [List.getElem_toArray, List.getElem_cons_succ, List.getElem_cons_zero, Act.put, List.setIfInBounds_toArray, List.set_cons_zero, List.set_cons_succ]
        refine wpAnyH_take (i := 5) (v := undef) rfl (by kernel_rfl) (by kernel_rfl) (by kernel_rfl) (fun _ _ _ h => h) (Or.inr ⟨by rfl, rfl⟩) (by assumption) ?_
        try simp only [List.getElem_toArray, List.getElem_cons_succ, List.getElem_cons_zero, Act.put, List.setIfInBounds_toArray, List.set_cons_zero, List.set_cons_succ]
        refine wpAnyH_take (i := 6) (v := undef) rfl (by kernel_rfl) (by kernel_rfl) (by kernel_rfl) (fun _ _ _ h => h) (Or.inr ⟨by rfl, rfl⟩) (by assumption) ?_
        try simp only [List.getElem_toArray, List.getElem_cons_succ, List.getElem_cons_zero, Act.put, List.setIfInBounds_toArray, List.set_cons_zero, List.set_cons_succ]
        refine wpAnyH_take (i := 7) (v := undef) rfl (by kernel_rfl) (by kernel_rfl) (by kernel_rfl) (fun _ _ _ h => h) (Or.inr ⟨by rfl, rfl⟩) (by assumption) ?_
        try simp only [List.getElem_toArray, List.getElem_cons_succ, List.getElem_cons_zero, Act.put, List.setIfInBounds_toArray, List.set_cons_zero, List.set_cons_succ]
        refine wpAnyH_take (i := 8) (v := undef) rfl (by kernel_rfl) (by kernel_rfl) (by kernel_rfl) (fun _ _ _ h => h) (Or.inr ⟨by rfl, rfl⟩) (by assumption) ?_
        try simp only [List.getElem_toArray, List.getElem_cons_succ, List.getElem_cons_zero, Act.put, List.setIfInBounds_toArray, List.set_cons_zero, List.set_cons_succ]
        refine wpAnyH_take (i := 9) (v := undef) rfl (by kernel_rfl) (by kernel_rfl) (by kernel_rfl) (fun _ _ _ h => h) (Or.inr ⟨by rfl, rfl⟩) (by assumption) ?_
        try simp only [List.getElem_toArray, List.getElem_cons_succ, List.getElem_cons_zero, Act.put, List.setIfInBounds_toArray, List.set_cons_zero, List.set_cons_succ]
        refine wpAnyH_take (i := 10) (v := undef) rfl (by kernel_rfl) (by kernel_rfl) (by kernel_rfl) (fun _ _ _ h => h) (Or.inr ⟨by rfl, rfl⟩) (by assumption) ?_
        try simp only [List.getElem_toArray, List.getElem_cons_succ, List.getElem_cons_zero, Act.put, List.setIfInBounds_toArray, List.set_cons_zero, List.set_cons_succ]
        refine wpAnyH_take (i := 11) (v := undef) rfl (by kernel_rfl) (by kernel_rfl) (by kernel_rfl) (fun _ _ _ h => h) (Or.inr ⟨by rfl, rfl⟩) (by assumption) ?_
        try simp only [List.getElem_toArray, List.getElem_cons_succ, List.getElem_cons_zero, Act.put, List.setIfInBounds_toArray, List.set_cons_zero, List.set_cons_succ]
        refine wpAnyH_take (i := 12) (v := undef) rfl (by kernel_rfl) (by kernel_rfl) (by kernel_rfl) (fun _ _ _ h => h) (Or.inr ⟨by rfl, rfl⟩) (by assumption) ?_
        try simp only [List.getElem_toArray, List.getElem_cons_succ, List.getElem_cons_zero, Act.put, List.setIfInBounds_toArray, List.set_cons_zero, List.set_cons_succ]
        refine wpAnyH_take (i := 13) (v := ?vc13) rfl (by kernel_rfl) (by kernel_rfl) (by kernel_rfl) (fun _ _ _ h => h) (Or.inl ⟨by rfl, ?yc13⟩) (by assumption) ?_
        case yc13 => intro w hSw; (try dsimp only at hSw); go_simp <;> with_reducible rfl
        try simp only [List.getElem_toArray, List.getElem_cons_succ, List.getElem_cons_zero, Act.put, List.setIfInBounds_toArray, List.set_cons_zero, List.set_cons_succ]
        refine wpAnyH_take (i := 14) (v := ?vc14) rfl (by kernel_rfl) (by kernel_rfl) (by kernel_rfl) (fun _ _ _ h => h) (Or.inl ⟨by rfl, ?yc14⟩) (by assumption) ?_
        case yc14 => intro w hSw; (try dsimp only at hSw); go_simp <;> with_reducible rfl
        try simp only [List.getElem_toArray, List.getElem_cons_succ, List.getElem_cons_zero, Act.put, List.setIfInBounds_toArray, List.set_cons_zero, List.set_cons_succ]
        refine wpAnyH_take (i := 15) (v := ?vc15) rfl (by kernel_rfl) (by kernel_rfl) (by kernel_rfl) (fun _ _ _ h => h) (Or.inl ⟨by rfl, ?yc15⟩) (by assumption) ?_
        case yc15 => intro w hSw; (try dsimp only at hSw); go_simp <;> with_reducible rfl
        try simp only [List.getElem_toArray, List.getElem_cons_succ, List.getElem_cons_zero, Act.put, List.setIfInBounds_toArray, List.set_cons_zero, List.set_cons_succ]
        refine wpAnyH_done (by kernel_rfl) ?_ _
        go_wp2
        go_ret2
        exact ⟨hi, rfl, HP.out _ HPK.out, bt BZ.out (bt hbel.out hHeld)⟩
      have q8 : decide (hi < n) = true := by simpa using hkn
      have q4 : (0 : Int) ≤ (hi : Int) := by omega
      have q5 : (hi : Int) < (n : Int) := by omega
      have hml : hi < l.length := by rw [← HN.out]; exact hkn
      obtain ⟨bb, oo, u, e, hbb, hru, h0, h1, h2, h3, h4⟩ := opl_at (HV.out wr (bt BZ.out hbel.out)) hi hml
      subst e
      obtain ⟨x, hx⟩ : ∃ x, x = l[hi]'hml := ⟨_, rfl⟩
      rw [← hx] at hru h0 h1 h2 h4
      have HO : Hid (∀ v : Value, opv x v = .agg #[.int .u8 (x.k : Int), .int .u32 (x.t : Int), .int .u8 (x.r : Int), v, .int .i64 x.p]) := fun v => rfl
      obtain ⟨uo, uc, rfl⟩ := hru.shape
      obtain ⟨nu, hnu⟩ : ∃ n, n = x.pl.length := ⟨_, rfl⟩
      have HNU := Lib.hid hnu
      rw [← hnu] at hru h3
      clear hnu
      have SX : Hid (∀ W : World, Calls Try.prog 48 #[opv x (.slice uo nu uc), .agg #[.int .u32 (s : Int), .int .u8 (b : Int)]] W fun e w' => e = .returned (.int .i64 (cmpI x a)) ∧ Below W.heap.size W w') := fun W => S1.out x uo nu uc W
      obtain ⟨c, hc⟩ : ∃ c, cmpI x a = c := ⟨_, rfl⟩
      rw [hc] at SX
      have HQ : Hid ((c == 0) = q) := by
        by_cases h : c = 0
        · obtain rfl : q = true := HQ1.out hi hml HPK.out (by rw [← hx, hc]; exact h)
          exact beq_iff_eq.2 h
        · obtain rfl : q = false := HQ2.out hi HPK.out (fun _ e => h (by rw [← hc, hx]; exact e))
          exact beq_eq_false_iff_ne.2 h
      clear hru hx hc HQ1 HQ2
      obtain ⟨k, hk⟩ : ∃ z, x.k = z := ⟨_, rfl⟩
      obtain ⟨t, ht⟩ : ∃ z, x.t = z := ⟨_, rfl⟩
      obtain ⟨r, hr⟩ : ∃ z, x.r = z := ⟨_, rfl⟩
      obtain ⟨p, hp⟩ : ∃ z, x.p = z := ⟨_, rfl⟩
      rw [hk, ht, hr, hp] at HO
      rw [hk] at h0
      rw [ht] at h1
      rw [hr] at h2
      rw [hp] at h4
      simp only [HO.out] at SX
      have F1 : Hid (FiveAt wr bb (oo + hi * 5) (.int .u8 (k : Int)) (.int .u32 (t : Int)) (.int .u8 (r : Int)) (.slice uo nu uc) (.int .i64 p)) := ⟨hbb, h0, h1, h2, h3, h4⟩
      have SK : Hid (∀ w' : World, Below wr.heap.size wr w' → Below wr.heap.size wr w' ∧ w'.cell? ⟨bb, oo + hi * 5, none⟩ = some (.int .u8 (k : Int)) ∧ w'.cell? ⟨bb, oo + hi * 5 + 1, none⟩ = some (.int .u32 (t : Int)) ∧ w'.cell? ⟨bb, oo + hi * 5 + 2, none⟩ = some (.int .u8 (r : Int)) ∧ w'.cell? ⟨bb, oo + hi * 5 + 3, none⟩ = some (.slice uo nu uc) ∧ w'.cell? ⟨bb, oo + hi * 5 + 4, none⟩ = some (.int .i64 p) ∧ w'.cell? ⟨w.heap.size, 0, none⟩ = some (.int .u32 (s : Int)) ∧ w'.cell? ⟨w.heap.size, 1, none⟩ = some (.int .u8 (b : Int))) := fun W h => by
        have a1 := (F1.out.keeps h).2
        have a2 := CE.out W (bt hbel.out h)
        exact ⟨h, a1.1, a1.2.1, a1.2.2.1, a1.2.2.2.1, a1.2.2.2.2, a2.1, a2.2⟩
      clear hk ht hr hp h0 h1 h2 h3 h4 HO S1 HLT HGE HFI HPW F1
      have d1 := HQ.out
      go_wp2
      refine wp_region_held_drew (S := fun w' => Below wr.heap.size wr w' ∧ w'.cell? ⟨bb, oo + hi * 5, none⟩ = some (.int .u8 (k : Int)) ∧ w'.cell? ⟨bb, oo + hi * 5 + 1, none⟩ = some (.int .u32 (t : Int)) ∧ w'.cell? ⟨bb, oo + hi * 5 + 2, none⟩ = some (.int .u8 (r : Int)) ∧ w'.cell? ⟨bb, oo + hi * 5 + 3, none⟩ = some (.slice uo nu uc) ∧ w'.cell? ⟨bb, oo + hi * 5 + 4, none⟩ = some (.int .i64 p) ∧ w'.cell? ⟨w.heap.size, 0, none⟩ = some (.int .u32 (s : Int)) ∧ w'.cell? ⟨w.heap.size, 1, none⟩ = some (.int .u8 (b : Int))) (by kernel_rfl) (SK.out _ (drew1 _)) (fun hHeld => ?_)
      refine wpAnyH_take (i := 0) (v := ?vd0) rfl (by kernel_rfl) (by kernel_rfl) (by kernel_rfl) (fun _ _ _ h => h) (Or.inl ⟨by rfl, ?yd0⟩) (by assumption) ?_
      case yd0 => intro w hSw; (try dsimp only at hSw); go_simp <;> with_reducible rfl
      try simp only [List.getElem_toArray, List.getElem_cons_zero, Act.put, List.setIfInBounds_toArray, List.set_cons_zero, List.set_cons_succ]
      refine wpAnyH_take (i := 1) (v := ?vd1) rfl (by kernel_rfl) (by kernel_rfl) (by kernel_rfl) (fun _ _ _ h => h) (Or.inl ⟨by rfl, ?yd1⟩) (by assumption) ?_
      case yd1 => intro w hSw; (try dsimp only at hSw); go_simp <;> with_reducible rfl
      try simp only [List.getElem_toArray, List.getElem_cons_succ, List.getElem_cons_zero, Act.put, List.setIfInBounds_toArray, List.set_cons_zero, List.set_cons_succ]
      refine wpAnyH_take (i := 2) (v := ?vd2) rfl (by kernel_rfl) (by kernel_rfl) (by kernel_rfl) (fun _ _ _ h => h) (Or.inl ⟨by rfl, ?yd2⟩) (by assumption) ?_
      case yd2 => intro w hSw; (try dsimp only at hSw); go_simp <;> with_reducible rfl
      try simp only [List.getElem_toArray, List.getElem_cons_succ, List.getElem_cons_zero, Act.put, List.setIfInBounds_toArray, List.set_cons_zero, List.set_cons_succ]
      refine wpAnyH_take (i := 3) (v := ?vd3) rfl (by kernel_rfl) (by kernel_rfl) (by kernel_rfl) (fun _ _ _ h => h) (Or.inl ⟨by rfl, ?yd3⟩) (by assumption) ?_
      case yd3 => intro w hSw; (try dsimp only at hSw); go_simp <;> with_reducible rfl
      try simp only [List.getElem_toArray, List.getElem_cons_succ, List.getElem_cons_zero, Act.put, List.setIfInBounds_toArray, List.set_cons_zero, List.set_cons_succ]
      refine wpAnyH_take (i := 4) (v := ?vd4) rfl (by kernel_rfl) (by kernel_rfl) (by kernel_rfl) (fun _ _ _ h => h) (Or.inl ⟨by rfl, ?yd4⟩) (by assumption) ?_
      case yd4 => intro w hSw; (try dsimp only at hSw); go_simp <;> with_reducible rfl
      try simp only [List.getElem_toArray, List.getElem_cons_succ, List.getElem_cons_zero, Act.put, List.setIfInBounds_toArray, List.set_cons_zero, List.set_cons_succ]
      refine wpAnyH_take (i := 5) (v := ?vd5) rfl (by kernel_rfl) (by kernel_rfl) (by kernel_rfl) (fun _ _ _ h => h) (Or.inl ⟨by rfl, ?yd5⟩) (by assumption) ?_
      case yd5 => intro w hSw; (try dsimp only at hSw); go_simp <;> with_reducible rfl
      try simp only [List.getElem_toArray, List.getElem_cons_succ, List.getElem_cons_zero, Act.put, List.setIfInBounds_toArray, List.set_cons_zero, List.set_cons_succ]
      refine wpAnyH_take (i := 6) (v := ?vd6) rfl (by kernel_rfl) (by kernel_rfl) (by kernel_rfl) (fun _ _ _ h => h) (Or.inl ⟨by rfl, ?yd6⟩) (by assumption) ?_
      case yd6 => intro w hSw; (try dsimp only at hSw); go_simp <;> with_reducible rfl
      try simp only [List.getElem_toArray, List.getElem_cons_succ, List.getElem_cons_zero, Act.put, List.setIfInBounds_toArray, List.set_cons_zero, List.set_cons_succ]
      refine wpAnyH_take (i := 7) (v := ?vd7) rfl (by kernel_rfl) (by kernel_rfl) (by kernel_rfl) (fun _ _ _ h => h) (Or.inl ⟨by rfl, ?yd7⟩) (by assumption) ?_
      case yd7 => intro w hSw; (try dsimp only at hSw); go_simp <;> with_reducible rfl
      try simp only [List.getElem_toArray, List.getElem_cons_succ, List.getElem_cons_zero, Act.put, List.setIfInBounds_toArray, List.set_cons_zero, List.set_cons_succ]
      refine wpAnyH_take (i := 8) (v := ?vd8) rfl (by kernel_rfl) (by kernel_rfl) (by kernel_rfl) (fun _ _ _ h => h) (Or.inl ⟨by rfl, ?yd8⟩) (by assumption) ?_
      case yd8 => intro w hSw; (try dsimp only at hSw); go_simp <;> with_reducible rfl
      try simp only [List.getElem_toArray, List.getElem_cons_succ, List.getElem_cons_zero, Act.put, List.setIfInBounds_toArray, List.set_cons_zero, List.set_cons_succ]
      refine wpAnyH_take (i := 9) (v := ?vd9) rfl (by kernel_rfl) (by kernel_rfl) (by kernel_rfl) (fun _ _ _ h => h) (Or.inl ⟨by rfl, ?yd9⟩) (by assumption) ?_
      case yd9 => intro w hSw; (try dsimp only at hSw); go_simp <;> with_reducible rfl
      try simp only [List.getElem_toArray, List.getElem_cons_succ, List.getElem_cons_zero, Act.put, List.setIfInBounds_toArray, List.set_cons_zero, List.set_cons_succ]
      refine wpAnyH_take (i := 10) (v := ?vd10) rfl (by kernel_rfl) (by kernel_rfl) (by kernel_rfl) (fun _ _ _ h => h) (Or.inl ⟨by rfl, ?yd10⟩) (by assumption) ?_
      case yd10 => intro w hSw; (try dsimp only at hSw); go_simp <;> with_reducible rfl
      try simp only [List.getElem_toArray, List.getElem_cons_succ, List.getElem_cons_zero, Act.put, List.setIfInBounds_toArray, List.set_cons_zero, List.set_cons_succ]
      refine wpAnyH_ready (rs := [11]) (by kernel_rfl) (by simp) ?_
      refine AllReadyH.cons rfl (fun K hK => ?_) ?zd11
      case zd11 => exact AllReadyH.nil
      go_simp
      refine (SX.out _).mono ?_
      rintro e w9d11 ⟨rfl, b9⟩
      refine hK.out _ _ (SK.out _ (bt hHeld.1 b9)) (fun hNew => ?_)
      clear hHeld
      have hHeld := hNew
      clear hNew hK K
      try simp only [List.getElem_toArray, List.getElem_cons_succ, List.getElem_cons_zero, Act.put, List.setIfInBounds_toArray, List.set_cons_zero, List.set_cons_succ]
      refine wpAnyH_take (i := 12) (v := ?vd12) rfl (by kernel_rfl) (by kernel_rfl) (by kernel_rfl) (fun _ _ _ h => h) (Or.inl ⟨by rfl, ?yd12⟩) (by assumption) ?_
      case yd12 => intro w hSw; (try dsimp only at hSw); go_simp <;> with_reducible rfl
      try simp only [List.getElem_toArray, List.getElem_cons_succ, List.getElem_cons_zero, Act.put, List.setIfInBounds_toArray, List.set_cons_zero, List.set_cons_succ]
      refine wpAnyH_take (i := 13) (v := ?vd13) rfl (by kernel_rfl) (by kernel_rfl) (by kernel_rfl) (fun _ _ _ h => h) (Or.inl ⟨by rfl, ?yd13⟩) (by assumption) ?_
      case yd13 => intro w hSw; (try dsimp only at hSw); go_simp <;> with_reducible rfl
      try simp only [List.getElem_toArray, List.getElem_cons_succ, List.getElem_cons_zero, Act.put, List.setIfInBounds_toArray, List.set_cons_zero, List.set_cons_succ]
      refine wpAnyH_take (i := 14) (v := ?vd14) rfl (by kernel_rfl) (by kernel_rfl) (by kernel_rfl) (fun _ _ _ h => h) (Or.inl ⟨by rfl, ?yd14⟩) (by assumption) ?_
      case yd14 => intro w hSw; (try dsimp only at hSw); go_simp <;> with_reducible rfl
      try simp only [List.getElem_toArray, List.getElem_cons_succ, List.getElem_cons_zero, Act.put, List.setIfInBounds_toArray, List.set_cons_zero, List.set_cons_succ]
      refine wpAnyH_take (i := 15) (v := ?vd15) rfl (by kernel_rfl) (by kernel_rfl) (by kernel_rfl) (fun _ _ _ h => h) (Or.inl ⟨by rfl, ?yd15⟩) (by assumption) ?_
      case yd15 => intro w hSw; (try dsimp only at hSw); go_simp <;> with_reducible rfl
      try simp only [List.getElem_toArray, List.getElem_cons_succ, List.getElem_cons_zero, Act.put, List.setIfInBounds_toArray, List.set_cons_zero, List.set_cons_succ]
      refine wpAnyH_done (by kernel_rfl) ?_ _
      go_wp2
      go_ret2
      exact ⟨hi, rfl, HP.out _ HPK.out, bt BZ.out (bt hbel.out hHeld.1)⟩

theorem bSearch_any {v : Value} {l : List Opn} (a : Id) {w : World} (hv : OpL w v l) (hl : l.length ≤ 1000000) (hpw : l.Pairwise lessO) :
    Calls Try.prog 27 #[v, .agg #[.int .u32 (a.t : Int), .int .u8 (a.r : Int)]] w fun e w' => ∃ k : Nat, e = .returned (.tuple #[.int .i64 (k : Int), .bool (hasO l a)]) ∧ Pos l a k ∧ Below w.heap.size w w' := by
  have C : Hid (∀ W : World, Below w.heap.size w W → _) := fun W h => bBin_any a (hv.keeps h) hl hpw
  obtain ⟨q, hq⟩ : ∃ q, hasO l a = q := ⟨_, rfl⟩
  rw [hq] at C ⊢
  obtain ⟨P, hP⟩ : ∃ P : Nat → Prop, P = Pos l a := ⟨_, rfl⟩
  have hPk : ∀ k, Pos l a k = P k := fun k => by rw [hP]
  simp only [hPk] at C ⊢
  obtain ⟨ao, cap, rfl⟩ := hv.shape
  obtain ⟨n, hn⟩ : ∃ n, n = l.length := ⟨_, rfl⟩
  rw [← hn] at C ⊢
  clear hv hl hpw hq hP hPk hn
  obtain ⟨s, hs⟩ : ∃ z, a.t = z := ⟨_, rfl⟩
  obtain ⟨b, hb⟩ : ∃ z, a.r = z := ⟨_, rfl⟩
  rw [hs, hb] at C ⊢
  clear hs hb
  have B0 : Hid (Below w.heap.size w (w.alloc (.cells #[.int .u32 (s : Int), .int .u8 (b : Int)] 32))) := (Below.refl _ _).alloc (Nat.le_refl _) _
  go_enter Try.func27, Try.ntmps27
  go_wp2_with fail
  refine (C.out _ B0.out).mono ?_
  rintro e w1 ⟨k, rfl, hk, b1⟩
  have B1 := Lib.hid (bt B0.out b1)
  have HK := Lib.hid hk
  clear b1 hk
  go_wp2
  go_ret2
  exact ⟨k, rfl, HK.out, B1.out⟩
end Go.Proofs.Ytdackenaknieaaa.Bags

/- slices.Insert of one operation into a list of the call's own without room: what it answers. Conditions: at most 1024 operations. -/
namespace Go.Proofs.Ytdackenaknieaaa.Bags
open Go.RowKit Go.WideShapes Stamp Go.Proofs.Ytdackenaknieaaa.Place Ops Codes
attribute [local go_sem ↓] Go.wp_at_zero Go.wp_at_succ

end Go.Proofs.Ytdackenaknieaaa.Bags

/- octavo/bag.Add: what it answers. Conditions: the slice's cells are operations, the place's are runs. -/
namespace Go.Proofs.Ytdackenaknieaaa.Bags
open Go.RowKit Go.WideShapes Stamp Go.Proofs.Ytdackenaknieaaa.Place Ops Codes
attribute [local go_sem ↓] Go.wp_at_zero Go.wp_at_succ

end Go.Proofs.Ytdackenaknieaaa.Bags

/- octavo/bag.joined: what it answers. Conditions: the slices' cells are operations, not more than two thousand in all. -/
namespace Go.Proofs.Ytdackenaknieaaa.Bags
open Go.RowKit Go.WideShapes Stamp Go.Proofs.Ytdackenaknieaaa.Place Ops Codes
attribute [local go_sem ↓] Go.wp_at_zero Go.wp_at_succ
attribute [local go_sem] yielded_undef

end Go.Proofs.Ytdackenaknieaaa.Bags

/- octavo/bag.Join: what it answers. Conditions: the slices' cells are operations. -/
namespace Go.Proofs.Ytdackenaknieaaa.Bags
open Go.RowKit Go.WideShapes Stamp Go.Proofs.Ytdackenaknieaaa.Place Ops Codes
attribute [local go_sem ↓] Go.wp_at_zero Go.wp_at_succ

end Go.Proofs.Ytdackenaknieaaa.Bags

/- octavo/clock: Has, Same, Count, Top with the library's ContainsFunc, IndexFunc, EqualFunc: what each answers. Conditions: the slices' cells are replicas' spans. -/
namespace Go.Proofs.Ytdackenaknieaaa.Clocks
open Go.RowKit Go.Proofs.Ytdackenaknieaaa.Spans
attribute [local go_sem ↓] Go.wp_at_zero Go.wp_at_succ

/-! ### Has -/
/-! ### Same -/
end Go.Proofs.Ytdackenaknieaaa.Clocks

/- octavo/bag.Less: what it answers. Conditions: the slices' cells are operations, and replicas' spans. -/
namespace Go.Proofs.Ytdackenaknieaaa.Bags
open Go.RowKit Go.WideShapes Stamp Go.Proofs.Ytdackenaknieaaa.Place Ops Codes
attribute [local go_sem ↓] Go.wp_at_zero Go.wp_at_succ

end Go.Proofs.Ytdackenaknieaaa.Bags

/- octavo/bag.Find: what it answers. Conditions: the slice's cells are operations. -/
namespace Go.Proofs.Ytdackenaknieaaa.Bags
open Go.RowKit Go.WideShapes Stamp Go.Proofs.Ytdackenaknieaaa.Place Ops Codes
attribute [local go_sem ↓] Go.wp_at_zero Go.wp_at_succ

theorem pos_has {l : List Opn} {a : Id} {k : Nat} (hp : l.Pairwise lessO) (h : Pos l a k) (hh : hasO l a = true) : ∃ hk : k < l.length, idO (l[k]'hk) = a := by
  by_cases hx : ∃ hk : k < l.length, idO (l[k]'hk) = a
  · exact hx
  · have := pos_none hp h (fun hk e => hx ⟨hk, e⟩)
    rw [hh] at this; cases this

set_option maxRecDepth 100000 in
set_option maxHeartbeats 8000000 in
theorem bFind_any {v : Value} {l : List Opn} (a : Id) {w : World} (hv : OpL w v l) :
    Calls Try.prog 11 #[v, .agg #[.int .u32 (a.t : Int), .int .u8 (a.r : Int)]] w (FoundN (findL l a) w) := by
  have CK : Hid (∀ W : World, Below w.heap.size w W → Calls Try.prog 26 #[v] W fun e w' => e = .returned (.int .i64 (chkL l)) ∧ Below W.heap.size W w') := fun W h => bCheck_any (hv.keeps h)
  have SR : Hid (Bag l → ∀ W : World, Below w.heap.size w W → Calls Try.prog 27 #[v, .agg #[.int .u32 (a.t : Int), .int .u8 (a.r : Int)]] W fun e w' => ∃ k : Nat, e = .returned (.tuple #[.int .i64 (k : Int), .bool (hasO l a)]) ∧ Pos l a k ∧ Below W.heap.size W w') := fun hb W h => bSearch_any a (hv.keeps h) (by have := hb.1; omega) hb.2.2
  obtain ⟨ao, cap, rfl⟩ := hv.shape
  obtain ⟨n, hn⟩ : ∃ n, n = l.length := ⟨_, rfl⟩
  have HV : Hid (∀ W : World, Below w.heap.size w W → OpL W (.slice ao l.length cap) l) := fun W h => hv.keeps h
  have HN := Lib.hid hn
  rw [← hn] at CK SR ⊢
  obtain ⟨R, hR⟩ : ∃ z, findL l a = z := ⟨_, rfl⟩
  have HR := Lib.hid hR
  obtain ⟨P, hP⟩ : ∃ P : Nat → Prop, P = Pos l a := ⟨_, rfl⟩
  have hPk : ∀ k, Pos l a k = P k := fun k => by rw [hP]
  have HF0 : Hid (¬ Bag l → R = none) := fun h => by rw [← hR]; unfold findL; rw [bagB_no h]; rfl
  have HF1 : Hid (Bag l → hasO l a = false → R = none) := fun h h2 => by
    rw [← hR]; unfold findL; rw [(bagB_iff l).2 h, if_pos rfl]
    unfold hasO at h2; cases hf : findO l a with
    | none => rfl
    | some x => rw [hf] at h2; cases h2
  have HF2 : Hid (Bag l → hasO l a = true → ∀ k, P k → ∃ hk : k < l.length, R = some (l[k]'hk)) := fun h h2 k hp => by
    rw [← hPk] at hp
    obtain ⟨hk, he⟩ := pos_has h.2.2 hp h2
    refine ⟨hk, ?_⟩
    rw [← hR]; unfold findL; rw [(bagB_iff l).2 h, if_pos rfl]
    exact pos_find h.2.2 hp hk he
  have HPL : Hid (Bag l → ∀ k (hk : k < l.length), (l[k]'hk).pl.length ≤ 8796093022208) := fun h k hk => (bag_fits h).2 _ (List.getElem_mem hk)
  simp only [hPk] at SR
  rw [hR]
  obtain ⟨q, hq⟩ : ∃ q, hasO l a = q := ⟨_, rfl⟩
  rw [hq] at SR HF1 HF2
  obtain ⟨ta, hta⟩ : ∃ z, a.t = z := ⟨_, rfl⟩
  obtain ⟨ra, hra⟩ : ∃ z, a.r = z := ⟨_, rfl⟩
  rw [hta, hra] at SR ⊢
  have BL : Hid (Below w.heap.size w ((w.alloc (.cells #[.int .u32 (ta : Int), .int .u8 (ra : Int)] 32)).alloc (.cells #[.int .u8 0, .int .u32 0, .int .u8 0, .slice none 0 0, .int .i64 0] 35))) := ((Below.refl _ _).alloc (Nat.le_refl _) _).alloc (by simp) _
  have XO : Hid (((w.alloc (.cells #[.int .u32 (ta : Int), .int .u8 (ra : Int)] 32)).alloc (.cells #[.int .u8 0, .int .u32 0, .int .u8 0, .slice none 0 0, .int .i64 0] 35)).heap[w.heap.size + 1]? = some (.cells #[.int .u8 0, .int .u32 0, .int .u8 0, .slice none 0 0, .int .i64 0] 35)) := blk_new (by simp)
  have XI : Hid (((w.alloc (.cells #[.int .u32 (ta : Int), .int .u8 (ra : Int)] 32)).alloc (.cells #[.int .u8 0, .int .u32 0, .int .u8 0, .slice none 0 0, .int .i64 0] 35)).heap[w.heap.size]? = some (.cells #[.int .u32 (ta : Int), .int .u8 (ra : Int)] 32)) := blk_old (blk_new rfl)
  have SZ : Hid (∀ W : World, Below ((w.alloc (.cells #[.int .u32 (ta : Int), .int .u8 (ra : Int)] 32)).alloc (.cells #[.int .u8 0, .int .u32 0, .int .u8 0, .slice none 0 0, .int .i64 0] 35)).heap.size ((w.alloc (.cells #[.int .u32 (ta : Int), .int .u8 (ra : Int)] 32)).alloc (.cells #[.int .u8 0, .int .u32 0, .int .u8 0, .slice none 0 0, .int .i64 0] 35)) W → w.heap.size + 2 ≤ W.heap.size) := fun W h => by have := h.size; simpa using this
  clear hv hR hq hP hPk hta hra hn
  by_cases hbag : Bag l
  rotate_left
  · rw [chkL_no hbag] at CK
    obtain rfl := HF0.out hbag
    clear HF0 HF1 HF2 SR HPL hbag
    go_enter Try.func11, Try.ntmps11
    go_wp2_with fail
    refine (CK.out _ BL.out).mono ?_
    rintro e w1 ⟨rfl, b1⟩
    have B1 := Lib.hid (bt BL.out b1)
    have X1 := Lib.hid (blk_below b1 XO.out)
    clear b1 BL XO XI CK
    obtain ⟨x0, x1, x2, x3, x4⟩ := cells5 X1.out
    have f0 : ∀ o, w1.frozen? ⟨w.heap.size + 1, o, none⟩ = false := fun o => free5 X1.out o
    go_wp2_with fail
    obtain ⟨WF, hWF⟩ : ∃ WF, WF = put5 w1 (w.heap.size + 1) (.int .u8 0) (.int .u32 0) (.int .u8 0) (.slice none 0 0) (.int .i64 0) := ⟨_, rfl⟩
    have HF := put5_same (.int .u8 0) (.int .u32 0) (.int .u8 0) (.slice none 0 0) (.int .i64 0) X1.out
    have BF := put5_below (.int .u8 0) (.int .u32 0) (.int .u8 0) (.slice none 0 0) (.int .i64 0) (show w.heap.size ≤ w.heap.size + 1 by omega) B1.out
    rw [← hWF] at HF BF
    unfold put5 at hWF
    rw [← hWF]
    obtain ⟨e0, e1, e2, e3, e4⟩ := cells5 HF
    exact bodyPost_ret (v := .tuple #[.agg #[.int .u8 0, .int .u32 0, .int .u8 0, .slice none 0 0, .int .i64 0], .bool false]) (by simp [results, Try.results11, go_sem, e0, e1, e2, e3, e4]) rfl ⟨.slice none 0 0, rfl, World.ownsRow_nil _ _ _ _, BF⟩
  rw [chkL_yes hbag] at CK
  have SR2 := Lib.hid (SR.out hbag)
  have HF3 := Lib.hid (HF1.out hbag)
  have HF4 := Lib.hid (HF2.out hbag)
  have HPL2 := Lib.hid (HPL.out hbag)
  clear HF0 HF1 HF2 SR HPL hbag
  go_enter Try.func11, Try.ntmps11
  go_wp2_with fail
  refine (CK.out _ BL.out).mono ?_
  rintro e w1 ⟨rfl, b1⟩
  have B1 := Lib.hid (bt BL.out b1)
  have X1 := Lib.hid (blk_below b1 XO.out)
  have I1 := Lib.hid (blk_below b1 XI.out)
  have S1 := Lib.hid (SZ.out _ b1)
  clear b1 BL XO XI CK SZ
  obtain ⟨z0, z1⟩ : w1.cell? ⟨w.heap.size, 0, none⟩ = some (.int .u32 (ta : Int)) ∧ w1.cell? ⟨w.heap.size, 1, none⟩ = some (.int .u8 (ra : Int)) := ⟨cell_of_row _ _ 0 _ _ _ I1.out, cell_of_row _ _ 1 _ _ _ I1.out⟩
  go_wp2_with fail
  refine (SR2.out _ B1.out).mono ?_
  rintro e w2 ⟨kk, rfl, hk, b2⟩
  have B2 := Lib.hid (bt B1.out b2)
  have X2 := Lib.hid (blk_below b2 X1.out)
  have HK := Lib.hid hk
  have S2 : Hid (w.heap.size + 2 ≤ w2.heap.size) := Nat.le_trans S1.out b2.size
  clear b2 hk B1 X1 I1 z0 z1 SR2 S1
  cases q
  · obtain rfl := HF3.out rfl
    clear HF3 HF4 HPL2
    obtain ⟨x0, x1, x2, x3, x4⟩ := cells5 X2.out
    have f0 : ∀ o, w2.frozen? ⟨w.heap.size + 1, o, none⟩ = false := fun o => free5 X2.out o
    go_wp2_with fail
    obtain ⟨WF, hWF⟩ : ∃ WF, WF = put5 w2 (w.heap.size + 1) (.int .u8 0) (.int .u32 0) (.int .u8 0) (.slice none 0 0) (.int .i64 0) := ⟨_, rfl⟩
    have HF := put5_same (.int .u8 0) (.int .u32 0) (.int .u8 0) (.slice none 0 0) (.int .i64 0) X2.out
    have BF := put5_below (.int .u8 0) (.int .u32 0) (.int .u8 0) (.slice none 0 0) (.int .i64 0) (show w.heap.size ≤ w.heap.size + 1 by omega) B2.out
    rw [← hWF] at HF BF
    unfold put5 at hWF
    rw [← hWF]
    obtain ⟨e0, e1, e2, e3, e4⟩ := cells5 HF
    exact bodyPost_ret (v := .tuple #[.agg #[.int .u8 0, .int .u32 0, .int .u8 0, .slice none 0 0, .int .i64 0], .bool false]) (by simp [results, Try.results11, go_sem, e0, e1, e2, e3, e4]) rfl ⟨.slice none 0 0, rfl, World.ownsRow_nil _ _ _ _, BF⟩
  obtain ⟨hkl, hRx⟩ := HF4.out rfl kk HK.out
  have HRX := Lib.hid hRx
  have hpx := HPL2.out kk hkl
  have q4 : (0 : Int) ≤ (kk : Int) := by omega
  have q5 : (kk : Int) < (n : Int) := by have := HN.out; omega
  obtain ⟨bb, oo, u, e, hbb, hru, h0, h1, h2, h3, h4⟩ := opl_at (HV.out w2 B2.out) kk hkl
  subst e
  obtain ⟨x, hx⟩ : ∃ x, x = l[kk]'hkl := ⟨_, rfl⟩
  rw [← hx] at hru h0 h1 h2 h4
  have HO : Hid (∀ v : Value, opv x v = .agg #[.int .u8 (x.k : Int), .int .u32 (x.t : Int), .int .u8 (x.r : Int), v, .int .i64 x.p]) := fun v => rfl
  obtain ⟨uo, uc, rfl⟩ := hru.shape
  obtain ⟨nu, hnu⟩ : ∃ n, n = x.pl.length := ⟨_, rfl⟩
  have HNU := Lib.hid hnu
  rw [← hnu] at hru h3
  clear hnu
  rw [← hx] at hRx hpx
  have HRX := Lib.hid hRx
  have TW : Hid (Calls Try.prog 28 #[opv x (.slice uo nu uc)] w2 fun e w' => ∃ ao cap, e = .returned (opv x (.slice ao nu cap)) ∧ w'.ownsRow (w.heap.size + 2) 48 3 (.slice ao nu cap) x.pl.length (runs x.pl) ∧ Below w2.heap.size w2 w') := by
    refine (oTwin_any hru hpx).mono ?_
    rintro e w' ⟨v', rfl, ho, hb⟩
    obtain ⟨ao', cap', rfl⟩ : ∃ ao cap, v' = .slice ao x.pl.length cap := Sees.shape (Sees.own ho)
    rw [← HNU.out] at ho ⊢
    exact ⟨ao', cap', rfl, op_base ho S2.out, hb⟩
  clear hx hru hpx hRx HF3 HF4 HPL2
  obtain ⟨k, hk⟩ : ∃ z, x.k = z := ⟨_, rfl⟩
  obtain ⟨t, ht⟩ : ∃ z, x.t = z := ⟨_, rfl⟩
  obtain ⟨r, hr⟩ : ∃ z, x.r = z := ⟨_, rfl⟩
  obtain ⟨p, hp⟩ : ∃ z, x.p = z := ⟨_, rfl⟩
  rw [hk, ht, hr, hp] at HO
  rw [hk] at h0
  rw [ht] at h1
  rw [hr] at h2
  rw [hp] at h4
  simp only [HO.out] at TW
  clear hk ht hr hp
  go_wp2_with fail
  refine TW.out.mono ?_
  rintro e w5 ⟨a5, c5, rfl, o5, b5⟩
  have B5 := Lib.hid (bt B2.out b5)
  have X5 := Lib.hid (blk_below b5 X2.out)
  have O5 := Lib.hid o5
  clear o5 b5 h0 h1 h2 h3 h4 TW
  obtain ⟨x0, x1, x2, x3, x4⟩ := cells5 X5.out
  have f0 : ∀ o, w5.frozen? ⟨w.heap.size + 1, o, none⟩ = false := fun o => free5 X5.out o
  go_wp2_with fail
  obtain ⟨WF, hWF⟩ : ∃ WF, WF = put5 w5 (w.heap.size + 1) (.int .u8 (k : Int)) (.int .u32 (t : Int)) (.int .u8 (r : Int)) (.slice a5 nu c5) (.int .i64 p) := ⟨_, rfl⟩
  have HF := put5_same (.int .u8 (k : Int)) (.int .u32 (t : Int)) (.int .u8 (r : Int)) (.slice a5 nu c5) (.int .i64 p) X5.out
  have BF := put5_below (.int .u8 (k : Int)) (.int .u32 (t : Int)) (.int .u8 (r : Int)) (.slice a5 nu c5) (.int .i64 p) (show w.heap.size ≤ w.heap.size + 1 by omega) B5.out
  have OW := put5_own (.int .u8 (k : Int)) (.int .u32 (t : Int)) (.int .u8 (r : Int)) (.slice a5 nu c5) (.int .i64 p) O5.out (show w.heap.size + 1 < w.heap.size + 2 by omega)
  rw [← hWF] at HF BF OW
  unfold put5 at hWF
  rw [← hWF]
  obtain ⟨e0, e1, e2, e3, e4⟩ := cells5 HF
  refine bodyPost_ret (v := .tuple #[.agg #[.int .u8 (k : Int), .int .u32 (t : Int), .int .u8 (r : Int), .slice a5 nu c5, .int .i64 p], .bool true]) (by simp [results, Try.results11, go_sem, e0, e1, e2, e3, e4]) rfl ⟨.slice a5 nu c5, ?_, ?_, BF⟩
  · rw [HRX.out]
    show _ = Ending.returned (.tuple #[opv x _, .bool true])
    rw [HO.out]
  · rw [HRX.out]
    show World.ownsRow _ _ _ _ _ x.pl.length (runs x.pl)
    exact op_base OW (by omega)
end Go.Proofs.Ytdackenaknieaaa.Bags

/- octavo/bag: what each call answers (bCheck_any, bSame_any, bTwin_any, bIds_any, bAdd_any, bJoin_any, bLess_any, bFind_any): gathered. Conditions: none. -/


/- octavolaw11.one, put, alive: what each answers. Conditions: the slices' cells are operations. -/
namespace Go.Proofs.Ytdackenaknieaaa.Bags
open Go.RowKit Go.WideShapes Stamp Go.Proofs.Ytdackenaknieaaa.Place Ops Codes
attribute [local go_sem ↓] Go.wp_at_zero Go.wp_at_succ
attribute [local go_sem] yielded_undef

theorem seq_lit {w : World} {cs : List Value} {l : List Opn} (n : Nat) (hn : n = l.length) (hl : n ≤ 1000) (h : opE.rows w cs l) : OpL (w.alloc (.cells cs.toArray 35)) (.slice (some ⟨w.heap.size, 0, none⟩) n n) l := by
  subst hn
  refine ⟨cs, sees_new w cs 5 l.length (Enc.rows_len h) (by omega) 35 (0, 0), Enc.rows_keep ((Below.refl _ _).alloc (Nat.le_refl _) _) h⟩

end Go.Proofs.Ytdackenaknieaaa.Bags
