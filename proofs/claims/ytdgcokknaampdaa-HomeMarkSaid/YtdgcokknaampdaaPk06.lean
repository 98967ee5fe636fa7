/- octavo/place: Last, Ids: what each answers. Conditions: the slice's cells are runs. -/
import Derived.Test.YtdgcokknaampdaaProg
import Derived.IntWalk
import Derived.LoopTactic
import Derived.Laws.EntriesVeiled
import Derived.Test.YtdgcokknaampdaaPk04
import Derived.Test.YtdgcokknaampdaaPk05

namespace Go.Proofs.Ytdgcokknaampdaa.Place
open Go.RowKit Stamp
attribute [local go_sem ↓] Go.wp_at_zero Go.wp_at_succ

set_option maxHeartbeats 2000000 in
theorem pLast_any {v : Value} {l : List Run} {w : World} (hv : Runs w v l) :
    Calls Try.prog 27 #[v] w fun e w' => e = .returned (.agg #[.int .u32 (lastV l).1, .int .u8 (lastV l).2]) ∧ Below w.heap.size w w' := by
  have HV := Lib.hid hv
  have B0 : Hid (Below w.heap.size w (w.alloc (.cells #[.int .u32 0, .int .u8 0] 24))) := (Below.refl _ _).alloc (Nat.le_refl _) _
  cases hm : mayB l
  · have M : Hid (∀ W : World, Below w.heap.size w W → Calls Try.prog 32 #[v] W fun e w' => e = .returned (.int .i64 8) ∧ Below W.heap.size W w') := fun W hW => check_is (HV.out.keeps hW) (by unfold chk; rw [hm]; rfl)
    have hlv : lastV l = (0, 0) := by unfold lastV; rw [hm]; rfl
    rw [hlv]
    clear hv hm hlv
    go_enter Try.func27, Try.ntmps27
    go_wp2_with fail
    refine (M.out _ B0.out).mono ?_
    rintro e w1 ⟨rfl, b1⟩
    obtain ⟨c0, c1, c2, c3⟩ := two_cells b1
    have B1 := Lib.hid b1
    clear b1
    go_wp2
    refine bodyPost_ret (v := .agg #[.int .u32 0, .int .u8 0]) (by simp [results, Try.results27, go_sem, c0, c1]) rfl ⟨rfl, ?_⟩
    exact set2 B1.out
  · have hM := (mayB_iff l).1 hm
    have M : Hid (∀ W : World, Below w.heap.size w W → Calls Try.prog 32 #[v] W fun e w' => e = .returned (.int .i64 0) ∧ Below W.heap.size W w') := fun W hW => check_is (HV.out.keeps hW) (by unfold chk; rw [if_pos hm])
    obtain ⟨ao, cap, rfl⟩ := hv.shape
    obtain ⟨n, hn⟩ : ∃ n, n = l.length := ⟨_, rfl⟩
    have HV2 : Hid (Runs w (.slice ao n cap) l) := by rw [hn]; exact hv
    rw [← hn] at M ⊢
    obtain ⟨k, hk⟩ : ∃ k, l.length = k + 1 := ⟨l.length - 1, by have := hM.1; omega⟩
    have hkn : n = k + 1 := by omega
    have hn64 : n ≤ 64 := by have := hM.2.1; omega
    obtain ⟨x, hx⟩ : ∃ x, l.getD k zrun = x := ⟨_, rfl⟩
    have hone : One x := by rw [← hx]; exact chain_one hM.2.2.1 (by omega)
    have hlv : lastV l = ((x.t : Int) + (x.m - 1), (x.r : Int)) := by unfold lastV; rw [if_pos hm, hk, Nat.add_sub_cancel, hx]
    have AT : Hid (∀ W : World, Below w.heap.size w W → ∃ b off, ao = some ⟨b, off, none⟩ ∧ b < W.heap.size ∧ W.cell? ⟨b, off + k * 3, none⟩ = some (.int .u32 (x.t : Int)) ∧ W.cell? ⟨b, off + k * 3 + 1, none⟩ = some (.int .u8 (x.r : Int)) ∧ W.cell? ⟨b, off + k * 3 + 2, none⟩ = some (.int .i64 x.m)) := fun W hW => by
      have h := (HV2.out.keeps hW).at k (by omega)
      rwa [hx] at h
    obtain ⟨t, r, m, ht, hr, hmm⟩ := x
    simp only at hlv AT
    obtain ⟨z, hz⟩ : ∃ z : Nat, (z : Int) = (t : Int) + (m - 1) := ⟨((t : Int) + (m - 1)).toNat, by have := hone.2.2.2.1; simp only at this; omega⟩
    have LO := Lib.hid (fun W => lastOf_any t r m z hz ⟨hone.2.2.2.1, hone.2.2.2.2.1⟩ hone.2.1 W)
    rw [hlv, ← hz]
    have q2 : (0 : Int) ≤ (k : Int) := by omega
    have q3 : (k : Int) < (n : Int) := by omega
    have e1 : (n : Int) - 1 = (k : Int) := by omega
    have e2 : IntKind.i64.wrap (k : Int) = (k : Int) := IntWalk.i64_in _ (by omega)
    clear hv hn hm hlv hM hk hx hone hz hkn HV HV2
    go_enter Try.func27, Try.ntmps27
    go_wp2_with fail
    refine (M.out _ B0.out).mono ?_
    rintro e w1 ⟨rfl, b1⟩
    have B1 := Lib.hid b1
    obtain ⟨b, off, rfl, hb, hx0, hx1, hx2⟩ := AT.out _ (below_of3 b1)
    clear b1
    go_wp2_with fail
    refine (LO.out _).mono ?_
    rintro e w2 ⟨rfl, b2⟩
    have b3 := B1.out.trans (b2.mono B1.out.size)
    obtain ⟨c0, c1, c2, c3⟩ := two_cells b3
    have B3 := Lib.hid b3
    clear b2 b3 hx0 hx1 hx2
    go_wp2
    refine bodyPost_ret (v := .agg #[.int .u32 (z : Int), .int .u8 (r : Int)]) (by simp [results, Try.results27, go_sem, c0, c1]) rfl ⟨rfl, ?_⟩
    exact set2 B3.out

end Go.Proofs.Ytdgcokknaampdaa.Place

/- Whether a number is a code point: point.Check, and the document's Is. Conditions: none. -/
namespace Go.Proofs.Ytdgcokknaampdaa.Pt
open Go.RowKit

/-- A code point. -/
def IsPt (n : Int) : Prop := 0 ≤ n ∧ n ≤ 1114111 ∧ (n < 55296 ∨ 57343 < n)
instance (n : Int) : Decidable (IsPt n) := by unfold IsPt; infer_instance

theorem isPt_iff (n : Int) : IsPt n ↔ 0 ≤ n ∧ n ≤ 1114111 ∧ (n < 55296 ∨ 57343 < n) := Iff.rfl
def ck (n : Int) : Int := if IsPt n then 0 else 40
theorem check_any (n : Int) (w : World) : Calls Try.prog 77 #[.int .i64 n] w fun e w' => e = .returned (.int .i64 (ck n)) ∧ w = w' := by
  by_cases h1 : n < 0
  · have hc : ck n = 40 := by unfold ck; rw [if_neg (by rw [isPt_iff]; omega)]
    have q1 : decide (n < 0) = true := by simpa using h1
    rw [hc]
    clear hc
    go_enter Try.func77, Try.ntmps77
    go_wp2
    go_ret
    exact ⟨rfl, rfl⟩
  · have q1 : decide (n < 0) = false := by simpa using h1
    by_cases h2 : 1114111 < n
    · have hc : ck n = 40 := by unfold ck; rw [if_neg (by rw [isPt_iff]; omega)]
      have q2 : decide (1114111 < n) = true := by simpa using h2
      rw [hc]
      clear hc
      go_enter Try.func77, Try.ntmps77
      go_wp2
      go_ret
      exact ⟨rfl, rfl⟩
    · have q2 : decide (1114111 < n) = false := by simpa using h2
      by_cases h3 : 55296 ≤ n
      · have q3 : decide (55296 ≤ n) = true := by simpa using h3
        by_cases h4 : n ≤ 57343
        · have hc : ck n = 40 := by unfold ck; rw [if_neg (by rw [isPt_iff]; omega)]
          have q4 : decide (n ≤ 57343) = true := by simpa using h4
          rw [hc]
          clear hc
          go_enter Try.func77, Try.ntmps77
          go_wp2
          go_ret
          exact ⟨rfl, rfl⟩
        · have hc : ck n = 0 := by unfold ck; rw [if_pos (by rw [isPt_iff]; omega)]
          have q4 : decide (n ≤ 57343) = false := by simpa using h4
          rw [hc]
          clear hc
          go_enter Try.func77, Try.ntmps77
          go_wp2
          go_ret
          exact ⟨rfl, rfl⟩
      · have hc : ck n = 0 := by unfold ck; rw [if_pos (by rw [isPt_iff]; omega)]
        have q3 : decide (55296 ≤ n) = false := by simpa using h3
        rw [hc]
        clear hc
        go_enter Try.func77, Try.ntmps77
        go_wp2
        go_ret
        exact ⟨rfl, rfl⟩

theorem refIs_yes (n : Int) (h : IsPt n) (w : World) : Calls Try.prog 91 #[.int .i64 n] w fun e w' => e = .returned (.bool true) ∧ w = w' := by
  obtain ⟨h1, h2, h3⟩ := h
  have q1 : decide (0 ≤ n) = true := by simpa using h1
  have q2 : decide (n ≤ 1114111) = true := by simpa using h2
  by_cases h4 : n < 55296
  · have q3 : decide (n < 55296) = true := by simpa using h4
    go_enter Try.func91, Try.ntmps91
    go_wp2
    go_ret
    exact ⟨rfl, rfl⟩
  · have q3 : decide (n < 55296) = false := by simpa using h4
    have q4 : decide (57343 < n) = true := by simp; omega
    go_enter Try.func91, Try.ntmps91
    go_wp2
    go_ret
    exact ⟨rfl, rfl⟩
theorem refIs_no (n : Int) (h : ¬ IsPt n) (w : World) : Calls Try.prog 91 #[.int .i64 n] w fun e w' => e = .returned (.bool false) ∧ w = w' := by
  rw [isPt_iff] at h
  by_cases h1 : 0 ≤ n
  · have q1 : decide (0 ≤ n) = true := by simpa using h1
    by_cases h2 : n ≤ 1114111
    · have q2 : decide (n ≤ 1114111) = true := by simpa using h2
      have q3 : decide (n < 55296) = false := by simp; omega
      have q4 : decide (57343 < n) = false := by simp; omega
      clear h
      go_enter Try.func91, Try.ntmps91
      go_wp2
      go_ret
      exact ⟨rfl, rfl⟩
    · have q2 : decide (n ≤ 1114111) = false := by simpa using h2
      clear h
      go_enter Try.func91, Try.ntmps91
      go_wp2
      go_ret
      exact ⟨rfl, rfl⟩
  · have q1 : decide (0 ≤ n) = false := by simpa using h1
    clear h
    go_enter Try.func91, Try.ntmps91
    go_wp2
    go_ret
    exact ⟨rfl, rfl⟩

def isB (n : Int) : Bool := decide (IsPt n)
theorem refIs_any (n : Int) (w : World) : Calls Try.prog 91 #[.int .i64 n] w fun e w' => e = .returned (.bool (isB n)) ∧ w = w' := by
  by_cases h : IsPt n
  · rw [show isB n = true from decide_eq_true h]; exact refIs_yes n h w
  · rw [show isB n = false from decide_eq_false h]; exact refIs_no n h w
end Go.Proofs.Ytdgcokknaampdaa.Pt

/- octavo/op.Check with its closures: what each answers. Conditions: the place's cells are runs. -/
namespace Go.Proofs.Ytdgcokknaampdaa.Ops
open Go.RowKit Stamp Go.Proofs.Ytdgcokknaampdaa.Place
attribute [local go_sem ↓] Go.wp_at_zero Go.wp_at_succ

/-- An operation, its place apart. -/
structure Opn where
  k : Nat
  t : Nat
  r : Nat
  pl : List Run
  p : Int
  hk : k < 256
  ht : t < 4294967296
  hr : r < 256
  hp : -9223372036854775808 ≤ p ∧ p ≤ 9223372036854775807
theorem Opn.ext' {a b : Opn} (h1 : a.k = b.k) (h2 : a.t = b.t) (h3 : a.r = b.r) (h4 : a.pl = b.pl) (h5 : a.p = b.p) : a = b := by
  obtain ⟨k, t, r, l, p, _, _, _, _⟩ := a; obtain ⟨k', t', r', l', p', _, _, _, _⟩ := b
  simp only at h1 h2 h3 h4 h5
  subst h1 h2 h3 h4 h5
  rfl
/-- Its value, where its place's is v. -/
def opv (o : Opn) (v : Value) : Value := .agg #[.int .u8 (o.k : Int), .int .u32 (o.t : Int), .int .u8 (o.r : Int), v, .int .i64 o.p]

/-- What its kind asks; lt, lr: the last stamp of its place. -/
def kindF (k t r : Nat) (lt lr p : Int) : Bool :=
  if k = 1 then decide ((lt, lr) = ((t : Int), (r : Int))) && Pt.isB p
  else if k = 2 then decide ((lt, lr) = ((t : Int), (r : Int))) && decide (p = 0)
  else if k = 3 ∨ k = 4 then decide (lt < (t : Int)) && decide (p = 0)
  else false
def kindB (o : Opn) : Bool := kindF o.k o.t o.r (lastV o.pl).1 (lastV o.pl).2 o.p
/-- May it be? -/
def mayO (o : Opn) : Bool := may o.t o.r && (mayB o.pl && kindB o)
def chkO (o : Opn) : Int := if mayO o = true then 0 else 8

theorem takes_any (B L : Nat) (t : Nat) (lt p : Int) {w : World} (h1 : w.cell? ⟨B, 1, none⟩ = some (.int .u32 (t : Int))) (h2 : w.cell? ⟨B, 4, none⟩ = some (.int .i64 p)) (h3 : w.cell? ⟨L, 0, none⟩ = some (.int .u32 lt)) :
    Calls Try.prog 74 #[.pointer (some ⟨B, 0, none⟩), .pointer (some ⟨L, 0, none⟩)] w fun e w' => e = .returned (.bool (decide (lt < (t : Int)) && decide (p = 0))) ∧ w = w' := by
  by_cases q : lt < (t : Int)
  · rw [decide_eq_true q, Bool.true_and]
    have q1 : decide (lt < (t : Int)) = true := decide_eq_true q
    obtain ⟨b, hb⟩ : ∃ b, decide (p = 0) = b := ⟨_, rfl⟩
    have q2 : (p == 0) = b := by rw [← hb]; simp [BEq.beq]
    rw [hb]
    clear hb q
    go_enter Try.func74, Try.ntmps74
    go_wp2
    go_ret
    exact ⟨rfl, rfl⟩
  · rw [decide_eq_false q, Bool.false_and]
    have q1 : decide (lt < (t : Int)) = false := decide_eq_false q
    go_enter Try.func74, Try.ntmps74
    go_wp2
    go_ret
    exact ⟨rfl, rfl⟩
theorem none_any (w : World) : Calls Try.prog 75 #[] w fun e w' => e = .returned (.bool false) ∧ w = w' := by
  go_enter Try.func75, Try.ntmps75
  go_wp2
  go_ret
  exact ⟨rfl, rfl⟩
theorem ins_any (B L : Nat) (t r : Nat) (lt lr p : Int) {w : World} (h0 : w.cell? ⟨B, 1, none⟩ = some (.int .u32 (t : Int))) (h1 : w.cell? ⟨B, 2, none⟩ = some (.int .u8 (r : Int))) (h2 : w.cell? ⟨B, 4, none⟩ = some (.int .i64 p)) (h3 : w.cell? ⟨L, 0, none⟩ = some (.int .u32 lt)) (h4 : w.cell? ⟨L, 1, none⟩ = some (.int .u8 lr)) :
    Calls Try.prog 76 #[.pointer (some ⟨B, 0, none⟩), .pointer (some ⟨L, 0, none⟩)] w fun e w' => e = .returned (.bool (decide ((lt, lr) = ((t : Int), (r : Int))) && Pt.isB p)) ∧ w = w' := by
  by_cases q : (lt, lr) = ((t : Int), (r : Int))
  · rw [decide_eq_true q, Bool.true_and]
    obtain ⟨rfl, rfl⟩ := Prod.mk.inj q
    have C : Hid (∀ W : World, Calls Try.prog 77 #[.int .i64 p] W fun e w' => e = .returned (.int .i64 (if Pt.isB p = true then 0 else 40)) ∧ W = w') := fun W => by
      have := Pt.check_any p W
      unfold Pt.ck at this
      by_cases h : Pt.IsPt p
      · rw [if_pos h] at this; rw [if_pos (show Pt.isB p = true from decide_eq_true h)]; exact this
      · rw [if_neg h] at this; rw [if_neg (by rw [show Pt.isB p = false from decide_eq_false h]; simp)]; exact this
    obtain ⟨b, hb⟩ : ∃ b, Pt.isB p = b := ⟨_, rfl⟩
    rw [hb] at C ⊢
    clear hb q
    cases b
    · simp only [Bool.false_eq_true, if_false] at C
      go_enter Try.func76, Try.ntmps76
      go_wp2_with fail
      refine (C.out _).mono ?_
      rintro e w' ⟨rfl, rfl⟩
      go_wp2
      go_ret
      exact ⟨rfl, rfl⟩
    · simp only [if_true] at C
      go_enter Try.func76, Try.ntmps76
      go_wp2_with fail
      refine (C.out _).mono ?_
      rintro e w' ⟨rfl, rfl⟩
      go_wp2
      go_ret
      exact ⟨rfl, rfl⟩
  · rw [decide_eq_false q, Bool.false_and]
    by_cases q1 : lt = (t : Int)
    · have q2 : ¬ lr = (r : Int) := fun h => q (by rw [q1, h])
      subst q1
      clear q
      have q3 : ((r : Int) == lr) = false := by simp; omega
      have q3' : ((lr : Int) == r) = false := by simp; omega
      have q4 : ¬ (r : Int) = lr := fun h => q2 h.symm
      go_enter Try.func76, Try.ntmps76
      go_wp2
      go_ret
      exact ⟨rfl, rfl⟩
    · have q3 : ((t : Int) == lt) = false := by simp; omega
      have q4 : ¬ (t : Int) = lt := fun h => q1 h.symm
      clear q
      go_enter Try.func76, Try.ntmps76
      go_wp2
      go_ret
      exact ⟨rfl, rfl⟩
theorem mark_any (B L : Nat) (t r : Nat) (lt lr p : Int) {w : World} (h0 : w.cell? ⟨B, 1, none⟩ = some (.int .u32 (t : Int))) (h1 : w.cell? ⟨B, 2, none⟩ = some (.int .u8 (r : Int))) (h2 : w.cell? ⟨B, 4, none⟩ = some (.int .i64 p)) (h3 : w.cell? ⟨L, 0, none⟩ = some (.int .u32 lt)) (h4 : w.cell? ⟨L, 1, none⟩ = some (.int .u8 lr)) :
    Calls Try.prog 78 #[.pointer (some ⟨B, 0, none⟩), .pointer (some ⟨L, 0, none⟩)] w fun e w' => e = .returned (.bool (decide ((lt, lr) = ((t : Int), (r : Int))) && decide (p = 0))) ∧ w = w' := by
  by_cases q : (lt, lr) = ((t : Int), (r : Int))
  · rw [decide_eq_true q, Bool.true_and]
    obtain ⟨rfl, rfl⟩ := Prod.mk.inj q
    obtain ⟨b, hb⟩ : ∃ b, decide (p = 0) = b := ⟨_, rfl⟩
    have q2 : (p == 0) = b := by rw [← hb]; simp [BEq.beq]
    rw [hb]
    clear hb q
    go_enter Try.func78, Try.ntmps78
    go_wp2
    go_ret
    exact ⟨rfl, rfl⟩
  · rw [decide_eq_false q, Bool.false_and]
    by_cases q1 : lt = (t : Int)
    · have q2 : ¬ lr = (r : Int) := fun h => q (by rw [q1, h])
      subst q1
      clear q
      have q3 : ((r : Int) == lr) = false := by simp; omega
      have q4 : ¬ (r : Int) = lr := fun h => q2 h.symm
      go_enter Try.func78, Try.ntmps78
      go_wp2
      go_ret
      exact ⟨rfl, rfl⟩
    · have q3 : ((t : Int) == lt) = false := by simp; omega
      have q4 : ¬ (t : Int) = lt := fun h => q1 h.symm
      clear q
      go_enter Try.func78, Try.ntmps78
      go_wp2
      go_ret
      exact ⟨rfl, rfl⟩

/-- A block of five cells, behind calls that write nothing that was there. -/
theorem five_cells {w w2 : World} {c0 c1 c2 c3 c4 : Value} {e : TypeId} (h : Below (w.alloc (.cells #[c0, c1, c2, c3, c4] e)).heap.size (w.alloc (.cells #[c0, c1, c2, c3, c4] e)) w2) :
    w2.cell? ⟨w.heap.size, 0, none⟩ = some c0 ∧ w2.cell? ⟨w.heap.size, 1, none⟩ = some c1 ∧ w2.cell? ⟨w.heap.size, 2, none⟩ = some c2 ∧ w2.cell? ⟨w.heap.size, 3, none⟩ = some c3 ∧ w2.cell? ⟨w.heap.size, 4, none⟩ = some c4 := by
  have hh : w2.heap[w.heap.size]? = some (.cells #[c0, c1, c2, c3, c4] e (0, 0)) := (h.block w.heap.size (by simp)).trans (heap_alloc_new w _)
  exact ⟨cell_of_row _ w.heap.size 0 _ e _ hh, cell_of_row _ w.heap.size 1 _ e _ hh, cell_of_row _ w.heap.size 2 _ e _ hh, cell_of_row _ w.heap.size 3 _ e _ hh, cell_of_row _ w.heap.size 4 _ e _ hh⟩

set_option maxHeartbeats 4000000 in
theorem oCheck_any {v : Value} {o : Opn} {w : World} (hv : Runs w v o.pl) :
    Calls Try.prog 51 #[opv o v] w fun e w' => e = .returned (.int .i64 (chkO o)) ∧ Below w.heap.size w w' := by
  obtain ⟨k, t, r, l, p, hk, ht, hr, hp⟩ := o
  unfold opv
  simp only at hv ⊢
  have B0 : Hid (Below w.heap.size w (w.alloc (.cells #[.int .u8 (k : Int), .int .u32 (t : Int), .int .u8 (r : Int), v, .int .i64 p] 39))) := (Below.refl _ _).alloc (Nat.le_refl _) _
  have HV := Lib.hid hv
  cases h1 : may t r
  · have hc : chkO ⟨k, t, r, l, p, hk, ht, hr, hp⟩ = 8 := by unfold chkO mayO; simp only [h1]; rfl
    rw [hc]
    have M := Lib.hid (fun W => check_no t r h1 W)
    clear hv hc h1
    go_enter Try.func51, Try.ntmps51
    go_wp2_with fail
    refine (M.out _).mono ?_
    rintro e w1 ⟨rfl, b1⟩
    have B1 := Lib.hid (bt B0.out b1)
    clear b1
    go_wp2
    go_ret
    exact ⟨rfl, B1.out⟩
  have M := Lib.hid (fun W => check_yes t r h1 W)
  cases h2 : mayB l
  · have hc : chkO ⟨k, t, r, l, p, hk, ht, hr, hp⟩ = 8 := by unfold chkO mayO; simp only [h1, h2]; rfl
    rw [hc]
    have M2 : Hid (∀ W : World, Below w.heap.size w W → Calls Try.prog 32 #[v] W fun e w' => e = .returned (.int .i64 8) ∧ Below W.heap.size W w') := fun W hW => check_is (HV.out.keeps hW) (by unfold Place.chk; rw [h2]; rfl)
    clear hv hc h1 h2
    go_enter Try.func51, Try.ntmps51
    go_wp2_with fail
    refine (M.out _).mono ?_
    rintro e w1 ⟨rfl, b1⟩
    obtain ⟨c0, c1, c2, c3, c4⟩ := five_cells b1
    have B1 := Lib.hid (bt B0.out b1)
    clear b1
    go_wp2_with fail
    refine (M2.out _ B1.out).mono ?_
    rintro e w2 ⟨rfl, b2⟩
    have B2 := Lib.hid (bt B1.out b2)
    clear b2 c0 c1 c2 c3 c4
    go_wp2
    go_ret
    exact ⟨rfl, B2.out⟩
  have hc : chkO ⟨k, t, r, l, p, hk, ht, hr, hp⟩ = if kindB ⟨k, t, r, l, p, hk, ht, hr, hp⟩ = true then 0 else 8 := by unfold chkO mayO; simp only [h1, h2, Bool.true_and]
  have M2 : Hid (∀ W : World, Below w.heap.size w W → Calls Try.prog 32 #[v] W fun e w' => e = .returned (.int .i64 0) ∧ Below W.heap.size W w') := fun W hW => check_is (HV.out.keeps hW) (by unfold Place.chk; rw [if_pos h2])
  have M3 : Hid (∀ W : World, Below w.heap.size w W → Calls Try.prog 27 #[v] W fun e w' => e = .returned (.agg #[.int .u32 (lastV l).1, .int .u8 (lastV l).2]) ∧ Below W.heap.size W w') := fun W hW => pLast_any (HV.out.keeps hW)
  rw [hc]
  rw [show kindB ⟨k, t, r, l, p, hk, ht, hr, hp⟩ = kindF k t r (lastV l).1 (lastV l).2 p from rfl]
  obtain ⟨lt, hlt⟩ : ∃ x, x = (lastV l).1 := ⟨_, rfl⟩
  obtain ⟨lr, hlr⟩ : ∃ x, x = (lastV l).2 := ⟨_, rfl⟩
  rw [← hlt, ← hlr] at M3 ⊢
  obtain ⟨b, hb⟩ : ∃ b, kindF k t r lt lr p = b := ⟨_, rfl⟩
  have HB := Lib.hid hb
  rw [hb]
  have q5 : k = 0 ∨ k = 1 ∨ k = 2 ∨ k = 3 ∨ k = 4 ∨ 5 ≤ k := by omega
  clear hv hc h1 h2 hlt hlr hb
  go_enter Try.func51, Try.ntmps51
  go_wp2_with fail
  refine (M.out _).mono ?_
  rintro e w1 ⟨rfl, b1⟩
  obtain ⟨c0, c1, c2, c3, c4⟩ := five_cells b1
  have B1 := Lib.hid (bt B0.out b1)
  have C1 := Lib.hid b1
  clear b1
  go_wp2_with fail
  refine (M2.out _ B1.out).mono ?_
  rintro e w2 ⟨rfl, b2⟩
  have B2 := Lib.hid (bt B1.out b2)
  have C2 := Lib.hid (bt C1.out b2)
  clear b2 c0 c1 c2 c3 c4
  obtain ⟨c0, c1, c2, c3, c4⟩ := five_cells C2.out
  go_wp2_with fail
  refine (M3.out _ B2.out).mono ?_
  rintro e w3 ⟨rfl, b3⟩
  have B3 := Lib.hid (bt B2.out b3)
  have C3 := Lib.hid (bt C2.out b3)
  clear b3 c0 c1 c2 c3 c4
  obtain ⟨c0, c1, c2, c3, c4⟩ := five_cells C3.out
  have z3 : w.heap.size < w3.heap.size := by have := C3.out.size; simp at this; omega
  have KC : Hid (∀ o : Obj, (((w3.alloc (.cells #[.int .u32 lt, .int .u8 lr] 24)).alloc o).cell? ⟨w.heap.size, 1, none⟩ = some (.int .u32 (t : Int)) ∧ ((w3.alloc (.cells #[.int .u32 lt, .int .u8 lr] 24)).alloc o).cell? ⟨w.heap.size, 2, none⟩ = some (.int .u8 (r : Int)) ∧ ((w3.alloc (.cells #[.int .u32 lt, .int .u8 lr] 24)).alloc o).cell? ⟨w.heap.size, 4, none⟩ = some (.int .i64 p)) ∧
      ((w3.alloc (.cells #[.int .u32 lt, .int .u8 lr] 24)).alloc o).cell? ⟨w3.heap.size, 0, none⟩ = some (.int .u32 lt) ∧ ((w3.alloc (.cells #[.int .u32 lt, .int .u8 lr] 24)).alloc o).cell? ⟨w3.heap.size, 1, none⟩ = some (.int .u8 lr)) := fun o => by
    have b2 : Below w3.heap.size w3 ((w3.alloc (.cells #[.int .u32 lt, .int .u8 lr] 24)).alloc o) := ((Below.refl _ _).alloc (Nat.le_refl _) _).alloc (by simp) _
    have pr := (pair_new w3 (.int .u32 lt) (.int .u8 lr) 24).alloc o
    exact ⟨⟨(b2.cell (p := ⟨w.heap.size, 1, none⟩) z3).trans c1, (b2.cell (p := ⟨w.heap.size, 2, none⟩) z3).trans c2, (b2.cell (p := ⟨w.heap.size, 4, none⟩) z3).trans c4⟩, pr.2.1, pr.2.2⟩
  have B4 : Hid (∀ o1 o2 : Obj, Below w.heap.size w ((w3.alloc o1).alloc o2)) := fun o1 o2 => (B3.out.alloc B3.out.size _).alloc (by have := B3.out.size; simp; omega) _
  have CT := Lib.hid (fun o => takes_any w.heap.size w3.heap.size t lt p (KC.out o).1.1 (KC.out o).1.2.2 (KC.out o).2.1)
  have CI := Lib.hid (fun o => ins_any w.heap.size w3.heap.size t r lt lr p (KC.out o).1.1 (KC.out o).1.2.1 (KC.out o).1.2.2 (KC.out o).2.1 (KC.out o).2.2)
  have CM := Lib.hid (fun o => mark_any w.heap.size w3.heap.size t r lt lr p (KC.out o).1.1 (KC.out o).1.2.1 (KC.out o).1.2.2 (KC.out o).2.1 (KC.out o).2.2)
  clear M M2 M3 HV C1 C2 C3 B0
  rcases q5 with rfl | rfl | rfl | rfl | rfl | q5
  · obtain rfl : false = b := HB.out
    go_wp2_with fail
    refine (none_any _).mono ?_
    rintro e w4 ⟨rfl, rfl⟩
    go_wp2
    go_ret
    exact ⟨rfl, B4.out _ _⟩
  · have hq : (decide ((lt, lr) = ((t : Int), (r : Int))) && Pt.isB p) = b := HB.out
    rw [hq] at CI
    clear CT CM hq HB
    cases b
    all_goals
      go_wp2_with fail
      refine (CI.out _).mono ?_
      rintro e w4 ⟨rfl, rfl⟩
      go_wp2
      go_ret
      exact ⟨rfl, B4.out _ _⟩
  · have hq : (decide ((lt, lr) = ((t : Int), (r : Int))) && decide (p = 0)) = b := HB.out
    rw [hq] at CM
    clear CT CI hq HB
    cases b
    all_goals
      go_wp2_with fail
      refine (CM.out _).mono ?_
      rintro e w4 ⟨rfl, rfl⟩
      go_wp2
      go_ret
      exact ⟨rfl, B4.out _ _⟩
  · have hq : (decide (lt < (t : Int)) && decide (p = 0)) = b := HB.out
    rw [hq] at CT
    clear CM CI hq HB
    cases b
    all_goals
      go_wp2_with fail
      refine (CT.out _).mono ?_
      rintro e w4 ⟨rfl, rfl⟩
      go_wp2
      go_ret
      exact ⟨rfl, B4.out _ _⟩
  · have hq : (decide (lt < (t : Int)) && decide (p = 0)) = b := HB.out
    rw [hq] at CT
    clear CM CI hq HB
    cases b
    all_goals
      go_wp2_with fail
      refine (CT.out _).mono ?_
      rintro e w4 ⟨rfl, rfl⟩
      go_wp2
      go_ret
      exact ⟨rfl, B4.out _ _⟩
  · obtain rfl : false = b := by rw [← HB.out]; unfold kindF; rw [if_neg (by omega), if_neg (by omega), if_neg (by omega)]
    have s1 : decide ((5 : Int) ≤ (k : Int)) = true := decide_eq_true (by omega)
    have s2 : decide (5 ≤ k) = true := decide_eq_true q5
    clear CT CM CI
    go_wp2
    go_ret
    exact ⟨rfl, B4.out _ _⟩
end Go.Proofs.Ytdgcokknaampdaa.Ops

/- octavo/op and octavoref09: Content, Own, Same, Twin: what each answers. Conditions: the places' cells are runs. -/
namespace Go.Proofs.Ytdgcokknaampdaa.Ops
open Go.RowKit Stamp Go.Proofs.Ytdgcokknaampdaa.Place
attribute [local go_sem ↓] Go.wp_at_zero Go.wp_at_succ

theorem op_base {w : World} {b b' : Nat} {e : TypeId} {v : Value} {sz n : Nat} {cs : List Value} (h : w.ownsRow b e sz v n cs) (hb : b' ≤ b) : w.ownsRow b' e sz v n cs :=
  ⟨h.1, h.2.imp id fun ⟨g, cap, cur, h1, h2, h3⟩ => ⟨g, cap, cur, h1, by omega, h3⟩⟩
theorem op_set {w : World} {B H o n sz : Nat} {e : TypeId} {v d : Value} {cs : List Value} (h : w.ownsRow B e sz v n cs) (hH : H < B) : (w.setCell ⟨H, o, none⟩ d).ownsRow B e sz v n cs :=
  ownsRow_setCell_below h (a := ⟨H, o, none⟩) hH d
/-- Five cells of a block stored. -/
def put5 (X : World) (g : Nat) (d0 d1 d2 d3 d4 : Value) : World := ((((X.setCell ⟨g, 0, none⟩ d0).setCell ⟨g, 1, none⟩ d1).setCell ⟨g, 2, none⟩ d2).setCell ⟨g, 3, none⟩ d3).setCell ⟨g, 4, none⟩ d4
theorem put5_same {X : World} {g : Nat} {c0 c1 c2 c3 c4 : Value} (d0 d1 d2 d3 d4 : Value) {e : TypeId} (h : X.heap[g]? = some (.cells #[c0, c1, c2, c3, c4] e)) : (put5 X g d0 d1 d2 d3 d4).heap[g]? = some (.cells #[d0, d1, d2, d3, d4] e) := by
  have h0 := heap_setCell_same X g 0 _ _ d0 h
  have h1 := heap_setCell_same _ g 1 _ _ d1 h0
  have h2 := heap_setCell_same _ g 2 _ _ d2 h1
  have h3 := heap_setCell_same _ g 3 _ _ d3 h2
  have h4 := heap_setCell_same _ g 4 _ _ d4 h3
  exact h4
theorem put5_below {B g : Nat} {W X : World} (d0 d1 d2 d3 d4 : Value) (hg : B ≤ g) (h : Below B W X) : Below B W (put5 X g d0 d1 d2 d3 d4) :=
  ((((h.setCell (p := ⟨g, 0, none⟩) hg _).setCell (p := ⟨g, 1, none⟩) hg _).setCell (p := ⟨g, 2, none⟩) hg _).setCell (p := ⟨g, 3, none⟩) hg _).setCell (p := ⟨g, 4, none⟩) hg _
theorem put5_own {X : World} {B g sz n : Nat} {e : TypeId} {v : Value} {cs : List Value} (d0 d1 d2 d3 d4 : Value) (h : X.ownsRow B e sz v n cs) (hg : g < B) : (put5 X g d0 d1 d2 d3 d4).ownsRow B e sz v n cs :=
  op_set (op_set (op_set (op_set (op_set h hg) hg) hg) hg) hg
theorem cells5 {X : World} {g : Nat} {c0 c1 c2 c3 c4 : Value} {e : TypeId} (h : X.heap[g]? = some (.cells #[c0, c1, c2, c3, c4] e)) :
    X.cell? ⟨g, 0, none⟩ = some c0 ∧ X.cell? ⟨g, 1, none⟩ = some c1 ∧ X.cell? ⟨g, 2, none⟩ = some c2 ∧ X.cell? ⟨g, 3, none⟩ = some c3 ∧ X.cell? ⟨g, 4, none⟩ = some c4 :=
  ⟨cell_of_row _ g 0 _ e _ h, cell_of_row _ g 1 _ e _ h, cell_of_row _ g 2 _ e _ h, cell_of_row _ g 3 _ e _ h, cell_of_row _ g 4 _ e _ h⟩
theorem free5 {X : World} {g : Nat} {cs : Array Value} {e : TypeId} (h : X.heap[g]? = some (.cells cs e)) (o : Nat) : X.frozen? ⟨g, o, none⟩ = false := by simp [World.frozen?, h]

/-- Are all fields the same? -/
def sameB (a b : Opn) : Bool := decide (a.k = b.k ∧ (a.t = b.t ∧ a.r = b.r) ∧ a.pl = b.pl ∧ a.p = b.p)
theorem sameB_iff (a b : Opn) : sameB a b = true ↔ a = b := by
  unfold sameB
  rw [decide_eq_true_iff]
  exact ⟨fun h => Opn.ext' h.1 h.2.1.1 h.2.1.2 h.2.2.1 h.2.2.2, fun h => by rw [h]; exact ⟨rfl, ⟨rfl, rfl⟩, rfl, rfl⟩⟩

/-- Is its place its own? -/
def ownB (o : Opn) : Bool := decide (o.k = 1) || decide (o.k = 2)

theorem refOwn_any {v : Value} {o : Opn} (w : World) :
    Calls Try.prog 90 #[opv o v] w fun e w' => e = .returned (.bool (ownB o)) ∧ Below w.heap.size w w' := by
  obtain ⟨k, t, r, l, p, hk, ht, hr, hp⟩ := o
  unfold opv ownB
  simp only
  have B0 : Hid (Below w.heap.size w (w.alloc (.cells #[.int .u8 (k : Int), .int .u32 (t : Int), .int .u8 (r : Int), v, .int .i64 p] 39))) := (Below.refl _ _).alloc (Nat.le_refl _) _
  by_cases h1 : k = 1
  · subst h1
    rw [show (decide (1 = 1) || decide (1 = 2)) = true from rfl]
    go_enter Try.func90, Try.ntmps90
    go_wp2
    go_ret
    exact ⟨rfl, B0.out⟩
  · have q1 : ((k : Int) == 1) = false := by simp; omega
    by_cases h3 : k = 2
    · subst h3
      rw [show (decide (2 = 1) || decide (2 = 2)) = true from rfl]
      go_enter Try.func90, Try.ntmps90
      go_wp2
      go_ret
      exact ⟨rfl, B0.out⟩
    · have q3 : ((k : Int) == 2) = false := by simp; omega
      rw [decide_eq_false h1, decide_eq_false h3, Bool.or_false]
      go_enter Try.func90, Try.ntmps90
      go_wp2
      go_ret
      exact ⟨rfl, B0.out⟩

set_option maxHeartbeats 4000000 in
theorem refSame_any {u v : Value} {a b : Opn} {w : World} (hu : Runs w u a.pl) (hv : Runs w v b.pl) :
    Calls Try.prog 69 #[opv a u, opv b v] w fun e w' => e = .returned (.bool (sameB a b)) ∧ Below w.heap.size w w' := by
  obtain ⟨k, t, r, l, p, hk, ht, hr, hp⟩ := a
  obtain ⟨k', t', r', l', p', hk', ht', hr', hp'⟩ := b
  unfold opv sameB
  simp only at hu hv ⊢
  have B0 : Hid (Below w.heap.size w ((w.alloc (.cells #[.int .u8 (k : Int), .int .u32 (t : Int), .int .u8 (r : Int), u, .int .i64 p] 39)).alloc (.cells #[.int .u8 (k' : Int), .int .u32 (t' : Int), .int .u8 (r' : Int), v, .int .i64 p'] 39))) := ((Below.refl _ _).alloc (Nat.le_refl _) _).alloc (by simp) _
  by_cases h1 : k = k'
  · subst h1
    by_cases h2 : t = t'
    · subst h2
      by_cases h3 : r = r'
      · subst h3
        have C : Hid (∀ W : World, Below w.heap.size w W → Calls Try.prog 21 #[u, v] W fun e w' => e = .returned (.bool (decide (l = l'))) ∧ Below W.heap.size W w') := fun W hW => Place.refSame_any (hu.keeps hW) (hv.keeps hW)
        have KK : Hid (∀ W : World, Below ((w.alloc (.cells #[.int .u8 (k : Int), .int .u32 (t : Int), .int .u8 (r : Int), u, .int .i64 p] 39)).alloc (.cells #[.int .u8 (k : Int), .int .u32 (t : Int), .int .u8 (r : Int), v, .int .i64 p'] 39)).heap.size ((w.alloc (.cells #[.int .u8 (k : Int), .int .u32 (t : Int), .int .u8 (r : Int), u, .int .i64 p] 39)).alloc (.cells #[.int .u8 (k : Int), .int .u32 (t : Int), .int .u8 (r : Int), v, .int .i64 p'] 39)) W →
            W.cell? ⟨w.heap.size, 4, none⟩ = some (.int .i64 p) ∧ W.cell? ⟨w.heap.size + 1, 4, none⟩ = some (.int .i64 p')) := fun W hW => by
          have a1 := five_cells (w := w) (((Below.refl _ _).alloc (Nat.le_refl _) _).trans (hW.mono (by simp)))
          have a2 := five_cells (w := w.alloc _) hW
          exact ⟨a1.2.2.2.2, by simpa using a2.2.2.2.2⟩
        by_cases h4 : l = l'
        · subst h4
          rw [decide_eq_true rfl] at C
          obtain ⟨q, hq⟩ : ∃ q, decide (p = p') = q := ⟨_, rfl⟩
          rw [show decide (k = k ∧ (t = t ∧ r = r) ∧ l = l ∧ p = p') = q by rw [← hq]; simp]
          have q5 : (p == p') = q := by rw [← hq]; simp [BEq.beq]
          clear hu hv hq
          go_enter Try.func69, Try.ntmps69
          go_wp2_with fail
          refine (C.out _ B0.out).mono ?_
          rintro e w1 ⟨rfl, b1⟩
          obtain ⟨c1, c2⟩ := KK.out _ b1
          have B1 := Lib.hid (bt B0.out b1)
          clear b1
          go_wp2
          go_ret
          exact ⟨rfl, B1.out⟩
        · rw [decide_eq_false h4] at C
          rw [decide_eq_false (fun h => h4 h.2.2.1)]
          clear hu hv h4
          go_enter Try.func69, Try.ntmps69
          go_wp2_with fail
          refine (C.out _ B0.out).mono ?_
          rintro e w1 ⟨rfl, b1⟩
          have B1 := Lib.hid (bt B0.out b1)
          clear b1
          go_wp2
          go_ret
          exact ⟨rfl, B1.out⟩
      · rw [decide_eq_false (fun h => h3 h.2.1.2)]
        have q3 : ((r : Int) == (r' : Int)) = false := by simp; omega
        have q4 : decide (r = r') = false := decide_eq_false h3
        clear hu hv
        go_enter Try.func69, Try.ntmps69
        go_wp2
        go_ret
        exact ⟨rfl, B0.out⟩
    · rw [decide_eq_false (fun h => h2 h.2.1.1)]
      have q3 : ((t : Int) == (t' : Int)) = false := by simp; omega
      have q4 : decide (t = t') = false := decide_eq_false h2
      clear hu hv
      go_enter Try.func69, Try.ntmps69
      go_wp2
      go_ret
      exact ⟨rfl, B0.out⟩
  · rw [decide_eq_false (fun h => h1 h.1)]
    have q3 : ((k : Int) == (k' : Int)) = false := by simp; omega
    have q4 : decide (k = k') = false := decide_eq_false h1
    clear hu hv
    go_enter Try.func69, Try.ntmps69
    go_wp2
    go_ret
    exact ⟨rfl, B0.out⟩

set_option maxHeartbeats 4000000 in
theorem oTwin_any {v : Value} {o : Opn} {w : World} (hv : Runs w v o.pl) (hl : o.pl.length ≤ 8796093022208) :
    Calls Try.prog 55 #[opv o v] w fun e w' => ∃ v', e = .returned (opv o v') ∧ w'.ownsRow w.heap.size 35 3 v' o.pl.length (runs o.pl) ∧ Below w.heap.size w w' := by
  obtain ⟨k, t, r, l, p, hk, ht, hr, hp⟩ := o
  unfold opv
  simp only at hv hl ⊢
  have C : Hid (∀ W : World, Below w.heap.size w W → Calls Try.prog 83 #[v] W fun e w' => ∃ v', e = .returned v' ∧ w'.ownsRow W.heap.size 35 3 v' l.length (runs l) ∧ Below W.heap.size W w') := fun W hW => ptwin_any (hv.keeps hW) hl
  have KK : Hid (∀ W : World, Below ((w.alloc (.cells #[.int .u8 (k : Int), .int .u32 (t : Int), .int .u8 (r : Int), v, .int .i64 p] 39)).alloc (.cells #[.int .u8 0, .int .u32 0, .int .u8 0, .slice none 0 0, .int .i64 0] 39)).heap.size ((w.alloc (.cells #[.int .u8 (k : Int), .int .u32 (t : Int), .int .u8 (r : Int), v, .int .i64 p] 39)).alloc (.cells #[.int .u8 0, .int .u32 0, .int .u8 0, .slice none 0 0, .int .i64 0] 39)) W →
      W.heap[w.heap.size]? = some (.cells #[.int .u8 (k : Int), .int .u32 (t : Int), .int .u8 (r : Int), v, .int .i64 p] 39) ∧ W.heap[w.heap.size + 1]? = some (.cells #[.int .u8 0, .int .u32 0, .int .u8 0, .slice none 0 0, .int .i64 0] 39)) := fun W hW =>
    ⟨blk_below hW (blk_old (blk_new rfl)), blk_below hW (blk_new (by simp))⟩
  have B0 : Hid (Below w.heap.size w ((w.alloc (.cells #[.int .u8 (k : Int), .int .u32 (t : Int), .int .u8 (r : Int), v, .int .i64 p] 39)).alloc (.cells #[.int .u8 0, .int .u32 0, .int .u8 0, .slice none 0 0, .int .i64 0] 39))) := ((Below.refl _ _).alloc (Nat.le_refl _) _).alloc (by simp) _
  clear hv hl
  go_enter Try.func55, Try.ntmps55
  go_wp2_with fail
  refine (C.out _ B0.out).mono ?_
  rintro e w1 ⟨v1, rfl, o1, b1⟩
  obtain ⟨ao, cap, rfl⟩ : ∃ ao cap, v1 = .slice ao l.length cap := Sees.shape (Sees.own o1)
  obtain ⟨k1, k2⟩ := KK.out _ b1
  have B1 := Lib.hid (bt B0.out b1)
  have O1 : Hid (w1.ownsRow (w.heap.size + 2) 35 3 (.slice ao l.length cap) l.length (runs l)) := op_base o1 (by simp)
  have k3 := heap_setCell_same w1 w.heap.size 3 _ _ (.slice ao l.length cap) k1
  have k4 : (w1.setCell ⟨w.heap.size, 3, none⟩ (.slice ao l.length cap)).heap[w.heap.size + 1]? = some (.cells #[.int .u8 0, .int .u32 0, .int .u8 0, .slice none 0 0, .int .i64 0] 39) := by
    rw [heap_setCell_other _ _ _ _ (by simp)]
    exact k2
  have f1 := free5 k1 3
  have HK := Lib.hid k3
  have HK4 := Lib.hid k4
  obtain ⟨c0, c1, c2, c3, c4⟩ := cells5 k1
  obtain ⟨d0, d1, d2, d3, d4⟩ := cells5 k2
  have OS : Hid ((w1.setCell ⟨w.heap.size, 3, none⟩ (.slice ao l.length cap)).ownsRow (w.heap.size + 2) 35 3 (.slice ao l.length cap) l.length (runs l)) := op_set O1.out (by omega)
  have BS : Hid (Below w.heap.size w (w1.setCell ⟨w.heap.size, 3, none⟩ (.slice ao l.length cap))) := B1.out.setCell (p := ⟨w.heap.size, 3, none⟩) (Nat.le_refl _) _
  have f2 : ∀ o, w1.frozen? ⟨w.heap.size + 1, o, none⟩ = false := fun o => free5 k2 o
  clear o1 b1 k1 k2 k3 k4
  go_wp2_with fail
  obtain ⟨W, hW⟩ : ∃ W, W = put5 (w1.setCell ⟨w.heap.size, 3, none⟩ (.slice ao l.length cap)) (w.heap.size + 1) (.int .u8 (k : Int)) (.int .u32 (t : Int)) (.int .u8 (r : Int)) (.slice ao l.length cap) (.int .i64 p) := ⟨_, rfl⟩
  have OW := put5_own (.int .u8 (k : Int)) (.int .u32 (t : Int)) (.int .u8 (r : Int)) (.slice ao l.length cap) (.int .i64 p) OS.out (show w.heap.size + 1 < w.heap.size + 2 by omega)
  have BW := put5_below (.int .u8 (k : Int)) (.int .u32 (t : Int)) (.int .u8 (r : Int)) (.slice ao l.length cap) (.int .i64 p) (show w.heap.size ≤ w.heap.size + 1 by omega) BS.out
  obtain ⟨e0, e1, e2, e3, e4⟩ := cells5 (put5_same (.int .u8 (k : Int)) (.int .u32 (t : Int)) (.int .u8 (r : Int)) (.slice ao l.length cap) (.int .i64 p) HK4.out)
  rw [← hW] at OW BW e0 e1 e2 e3 e4
  unfold put5 at hW
  rw [← hW]
  exact bodyPost_ret (v := .agg #[.int .u8 (k : Int), .int .u32 (t : Int), .int .u8 (r : Int), .slice ao l.length cap, .int .i64 p]) (by simp [results, Try.results55, go_sem, e0, e1, e2, e3, e4]) rfl ⟨_, rfl, op_base OW (by omega), BW⟩

set_option maxHeartbeats 4000000 in
theorem refTwin_any {v : Value} {o : Opn} {w : World} (hv : Runs w v o.pl) (hl : o.pl.length ≤ 8796093022208) :
    Calls Try.prog 63 #[opv o v] w fun e w' => ∃ v', e = .returned (opv o v') ∧ w'.ownsRow w.heap.size 35 3 v' o.pl.length (runs o.pl) ∧ Below w.heap.size w w' := by
  obtain ⟨k, t, r, l, p, hk, ht, hr, hp⟩ := o
  unfold opv
  simp only at hv hl ⊢
  have C : Hid (∀ W : World, Below w.heap.size w W → Calls Try.prog 87 #[v] W fun e w' => ∃ v', e = .returned v' ∧ w'.ownsRow W.heap.size 35 3 v' l.length (runs l) ∧ Below W.heap.size W w') := fun W hW => twin_any (hv.keeps hW) hl
  have KK : Hid (∀ W : World, Below ((w.alloc (.cells #[.int .u8 (k : Int), .int .u32 (t : Int), .int .u8 (r : Int), v, .int .i64 p] 39)).alloc (.cells #[.int .u8 0, .int .u32 0, .int .u8 0, .slice none 0 0, .int .i64 0] 39)).heap.size ((w.alloc (.cells #[.int .u8 (k : Int), .int .u32 (t : Int), .int .u8 (r : Int), v, .int .i64 p] 39)).alloc (.cells #[.int .u8 0, .int .u32 0, .int .u8 0, .slice none 0 0, .int .i64 0] 39)) W →
      W.heap[w.heap.size]? = some (.cells #[.int .u8 (k : Int), .int .u32 (t : Int), .int .u8 (r : Int), v, .int .i64 p] 39) ∧ W.heap[w.heap.size + 1]? = some (.cells #[.int .u8 0, .int .u32 0, .int .u8 0, .slice none 0 0, .int .i64 0] 39)) := fun W hW =>
    ⟨blk_below hW (blk_old (blk_new rfl)), blk_below hW (blk_new (by simp))⟩
  have B0 : Hid (Below w.heap.size w ((w.alloc (.cells #[.int .u8 (k : Int), .int .u32 (t : Int), .int .u8 (r : Int), v, .int .i64 p] 39)).alloc (.cells #[.int .u8 0, .int .u32 0, .int .u8 0, .slice none 0 0, .int .i64 0] 39))) := ((Below.refl _ _).alloc (Nat.le_refl _) _).alloc (by simp) _
  clear hv hl
  go_enter Try.func63, Try.ntmps63
  go_wp2_with fail
  refine (C.out _ B0.out).mono ?_
  rintro e w1 ⟨v1, rfl, o1, b1⟩
  obtain ⟨ao, cap, rfl⟩ : ∃ ao cap, v1 = .slice ao l.length cap := Sees.shape (Sees.own o1)
  obtain ⟨k1, k2⟩ := KK.out _ b1
  have B1 := Lib.hid (bt B0.out b1)
  have O1 : Hid (w1.ownsRow (w.heap.size + 2) 35 3 (.slice ao l.length cap) l.length (runs l)) := op_base o1 (by simp)
  have k3 := heap_setCell_same w1 w.heap.size 3 _ _ (.slice ao l.length cap) k1
  have k4 : (w1.setCell ⟨w.heap.size, 3, none⟩ (.slice ao l.length cap)).heap[w.heap.size + 1]? = some (.cells #[.int .u8 0, .int .u32 0, .int .u8 0, .slice none 0 0, .int .i64 0] 39) := by
    rw [heap_setCell_other _ _ _ _ (by simp)]
    exact k2
  have f1 := free5 k1 3
  have HK := Lib.hid k3
  have HK4 := Lib.hid k4
  obtain ⟨c0, c1, c2, c3, c4⟩ := cells5 k1
  obtain ⟨d0, d1, d2, d3, d4⟩ := cells5 k2
  have OS : Hid ((w1.setCell ⟨w.heap.size, 3, none⟩ (.slice ao l.length cap)).ownsRow (w.heap.size + 2) 35 3 (.slice ao l.length cap) l.length (runs l)) := op_set O1.out (by omega)
  have BS : Hid (Below w.heap.size w (w1.setCell ⟨w.heap.size, 3, none⟩ (.slice ao l.length cap))) := B1.out.setCell (p := ⟨w.heap.size, 3, none⟩) (Nat.le_refl _) _
  have f2 : ∀ o, w1.frozen? ⟨w.heap.size + 1, o, none⟩ = false := fun o => free5 k2 o
  clear o1 b1 k1 k2 k3 k4
  go_wp2_with fail
  obtain ⟨W, hW⟩ : ∃ W, W = put5 (w1.setCell ⟨w.heap.size, 3, none⟩ (.slice ao l.length cap)) (w.heap.size + 1) (.int .u8 (k : Int)) (.int .u32 (t : Int)) (.int .u8 (r : Int)) (.slice ao l.length cap) (.int .i64 p) := ⟨_, rfl⟩
  have OW := put5_own (.int .u8 (k : Int)) (.int .u32 (t : Int)) (.int .u8 (r : Int)) (.slice ao l.length cap) (.int .i64 p) OS.out (show w.heap.size + 1 < w.heap.size + 2 by omega)
  have BW := put5_below (.int .u8 (k : Int)) (.int .u32 (t : Int)) (.int .u8 (r : Int)) (.slice ao l.length cap) (.int .i64 p) (show w.heap.size ≤ w.heap.size + 1 by omega) BS.out
  obtain ⟨e0, e1, e2, e3, e4⟩ := cells5 (put5_same (.int .u8 (k : Int)) (.int .u32 (t : Int)) (.int .u8 (r : Int)) (.slice ao l.length cap) (.int .i64 p) HK4.out)
  rw [← hW] at OW BW e0 e1 e2 e3 e4
  unfold put5 at hW
  rw [← hW]
  exact bodyPost_ret (v := .agg #[.int .u8 (k : Int), .int .u32 (t : Int), .int .u8 (r : Int), .slice ao l.length cap, .int .i64 p]) (by simp [results, Try.results63, go_sem, e0, e1, e2, e3, e4]) rfl ⟨_, rfl, op_base OW (by omega), BW⟩
end Go.Proofs.Ytdgcokknaampdaa.Ops

/- What Under answers, as lists: its runs are each short. Conditions: none. -/
namespace Go.Proofs.Ytdgcokknaampdaa.Place
open Go.RowKit Stamp
attribute [local go_sem ↓] Go.wp_at_zero Go.wp_at_succ

end Go.Proofs.Ytdgcokknaampdaa.Place

/- Places: a stamp put behind, beginnings, rising stamps, a child's place in the order. Conditions: none. -/
namespace Go.Proofs.Ytdgcokknaampdaa.Place
open Go.RowKit Stamp

end Go.Proofs.Ytdgcokknaampdaa.Place
