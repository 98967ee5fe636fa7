/- octavo/code's reader: what the next number is, and what is turned. Conditions: the reader's cells lie in one block; its bytes read as such. -/
import Derived.BigQuiet
import Derived.Deep.QuietTactic
import Derived.Shelf.Abstract
import Derived.Test.YtelilmhnfmojkaaPk09
import Derived.Test.YtelilmhnfmojkaaPk06

namespace Go.Proofs.Ytelilmhnfmojkaa.Codes
open Go.RowKit Go.WideShapes Num Go.Proofs.Ytelilmhnfmojkaa.Place Ops
attribute [local go_sem ↓] Go.wp_at_zero Go.wp_at_succ

/-- Nothing that was there is turned but one block. -/
structure Only (G : Nat) (w w' : World) : Prop where
  below : Below G w w'
  rest : ∀ j, j < w.heap.size → j ≠ G → w'.heap[j]? = w.heap[j]?
theorem Only.refl (G : Nat) (w : World) : Only G w w := ⟨Below.refl _ _, fun _ _ _ => rfl⟩
theorem Only.trans {G : Nat} {a b c : World} (h : Only G a b) (h2 : Only G b c) : Only G a c :=
  ⟨h.below.trans h2.below, fun j hj hne => (h2.rest j (Nat.lt_of_lt_of_le hj h.below.size) hne).trans (h.rest j hj hne)⟩
theorem Only.of {G : Nat} {w w' : World} (h : Below w.heap.size w w') (hG : G ≤ w.heap.size) : Only G w w' := ⟨h.mono hG, fun j hj _ => h.block j hj⟩
theorem Only.size {G : Nat} {w w' : World} (h : Only G w w') : w.heap.size ≤ w'.heap.size := h.below.size
theorem Only.set {G : Nat} {w w' : World} (h : Only G w w') (o : Nat) (d : Value) : Only G w (w'.setCell ⟨G, o, none⟩ d) :=
  ⟨h.below.setCell (p := ⟨G, o, none⟩) (Nat.le_refl _) _, fun j hj hne => (heap_setCell_other _ _ _ _ hne).trans (h.rest j hj hne)⟩
theorem Only.drew {G : Nat} {w w' : World} (h : Only G w w') (n : Nat) : Only G w (w'.drewN n) := ⟨below_draw h.below n, h.rest⟩
theorem Only.obj {G : Nat} {w w' : World} (h : Only G w w') {j : Nat} {o : Obj} (hj : w.heap[j]? = some o) (hne : j ≠ G) : w'.heap[j]? = some o :=
  (h.rest j (Array.getElem?_eq_some_iff.1 hj).1 hne).trans hj

/-- The reader: its bytes, how many are read, and the first error. -/
def Rd (n : Nat) (w : World) (G : Nat) (vb : Value) (q : Option Nat) : Prop :=
  ∃ (s : Nat) (c : Int), w.heap[G]? = some (.cells #[vb, .int .i64 (s : Int), .int .i64 c] 58) ∧ s ≤ n ∧ ((q = some s ∧ c = 0) ∨ (q = none ∧ c = 8))
theorem Rd.only {n : Nat} {w w' : World} {G H : Nat} {vb : Value} {q : Option Nat} (h : Rd n w G vb q) (ho : Only H w w') (hne : G ≠ H) : Rd n w' G vb q := by
  obtain ⟨s, c, h1, h2⟩ := h
  exact ⟨s, c, ho.obj h1 hne, h2⟩
theorem Rd.keeps {n : Nat} {w w' : World} {G : Nat} {vb : Value} {q : Option Nat} (h : Rd n w G vb q) (hb : Below w.heap.size w w') : Rd n w' G vb q := by
  obtain ⟨s, c, h1, h2⟩ := h
  exact ⟨s, c, (hb.block G (Array.getElem?_eq_some_iff.1 h1).1).trans h1, h2⟩
theorem free3 {X : World} {g : Nat} {cs : Array Value} {e : TypeId} (h : X.heap[g]? = some (.cells cs e)) (o : Nat) : X.frozen? ⟨g, o, none⟩ = false := by simp [World.frozen?, h]

/-- The bytes from a place on. -/
theorem reads_from {w : World} {ao : Option Addr} {n cap s : Nat} {xs : List UInt8} (h : Reads w (.slice ao n cap) xs) (hs : s ≤ n) :
    (ao = none ∧ cap = 0 ∧ xs = [] ∧ n = 0) ∨ (xs = [] ∧ n = 0 ∧ ∃ b off sp, ao = some ⟨b, off, sp⟩) ∨
    ∃ b off, ao = some ⟨b, off, none⟩ ∧ ((cap = s ∧ n = s ∧ Reads w (.slice (some ⟨b, off, none⟩) 0 0) (xs.drop s)) ∨ (cap ≠ s ∧ Reads w (.slice (some ⟨b, off + s, none⟩) (n - s) (cap - s)) (xs.drop s))) := by
  obtain ⟨h1, ao', cap', he, h2, h3, h4, h5⟩ := h
  obtain ⟨rfl, rfl, rfl⟩ := Value.slice.inj he
  cases ao with
  | none =>
    have hc := h4 rfl
    obtain rfl : xs = [] := List.length_eq_zero_iff.1 (by omega)
    exact .inl ⟨rfl, hc, rfl, rfl⟩
  | some a =>
    right
    have hl : (xs.drop s).length = xs.length - s := by simp
    rcases h5 with rfl | ⟨b, off, e, hlt, hc⟩
    · obtain ⟨b, off, sp⟩ := a
      exact .inl ⟨rfl, rfl, b, off, sp, rfl⟩
    · cases e
      refine .inr ⟨b, off, rfl, ?_⟩
      by_cases hcs : cap = s
      · refine .inl ⟨hcs, by omega, ?_⟩
        have : xs.drop s = [] := by rw [List.drop_eq_nil_iff]; omega
        rw [this]
        exact ⟨by simp, some ⟨b, off, none⟩, 0, rfl, by simp, by simp, by simp, .inl rfl⟩
      · refine .inr ⟨hcs, by omega, some ⟨b, off + s, none⟩, cap - s, by rw [hl], by omega, by omega, by simp, ?_⟩
        by_cases hx : xs.drop s = []
        · exact .inl hx
        · refine .inr ⟨b, off + s, rfl, hlt, fun j hj => ?_⟩
          rw [hl] at hj
          rw [Nat.add_assoc, hc (s + j) (by omega)]
          simp [List.getD]

theorem next_none {n : Nat} {xs : List UInt8} {vb : Value} {G : Nat} {w : World} (h : Rd n w G vb none) (m : Int) :
    Calls Try.prog 26 #[.pointer (some ⟨G, 0, none⟩), .int .i64 m] w fun e w' => e = .returned (.int .i64 ((nextF xs m none).1 : Int)) ∧ Rd n w' G vb (nextF xs m none).2 ∧ Only G w w' := by
  have HR := Lib.hid h
  obtain ⟨s, c, h1, h2, h3⟩ := h
  obtain rfl : c = 8 := by rcases h3 with h3 | h3 <;> simp_all
  obtain ⟨c0, c1, c2, -, -⟩ := cells_blk3 h1
  clear h1 h2 h3
  go_enter Try.func26, Try.ntmps26
  go_wp2
  go_ret
  exact ⟨rfl, HR.out, Only.refl _ _⟩


set_option maxHeartbeats 1000000 in
theorem next_go {xs : List UInt8} {b off n cap : Nat} {G s : Nat} {w : World} (hl : n ≤ 1000000) (hr : Reads w (.slice (some ⟨b, off + s, none⟩) (n - s) (cap - s)) (xs.drop s)) (hs : s ≤ n) (hc : cap ≠ s)
    (h1 : w.heap[G]? = some (.cells #[.slice (some ⟨b, off, none⟩) n cap, .int .i64 (s : Int), .int .i64 0] 58)) (m : Int) (a z : Nat) (c : Nat) (hg : get (xs.drop s) = (a, z, c)) (hc0 : c = 0) (hz : s + z ≤ n) (ha : (a : Int) ≤ m) :
    Calls Try.prog 26 #[.pointer (some ⟨G, 0, none⟩), .int .i64 m] w fun e w' => e = .returned (.int .i64 (a : Int)) ∧ Rd n w' G (.slice (some ⟨b, off, none⟩) n cap) (some (s + z)) ∧ Only G w w' := by
  subst hc0
  have GET : Hid (∀ (W : World) (v : Value), Reads W v (xs.drop s) → Calls Try.prog 44 #[v] W fun e w' => e = .returned (.tuple #[.int .i64 (a : Int), .int .i64 (z : Int), .int .i64 0]) ∧ w' = W) := fun W v h => (get_reads h hg).mono fun e w' h => ⟨h.1, h.2.symm⟩
  have HRD := Lib.hid hr
  have H1 := Lib.hid h1
  have q1 : decide (m < (a : Int)) = false := by simp; omega
  have e1 : IntKind.i64.wrap ((s : Int) + z) = (s : Int) + z := IntWalk.i64_in _ (by omega)
  have q2 : (0 : Int) ≤ (s : Int) := by omega
  have q3 : (s : Int) ≤ (n : Int) := by omega
  have f1 := free3 h1 1
  have f2 := free3 h1 2
  obtain ⟨c0, c1, c2, -, -⟩ := cells_blk3 h1
  clear hr h1 hg
  go_enter Try.func26, Try.ntmps26
  go_wp2
  go_quiet ((go_at_call 44; refine Calls.quiet_of_same (GET.out _ _ ?r1); (case r1 => exact HRD.out)))
  go_wp2
  go_ret
  refine ⟨rfl, ⟨s + z, 0, ?_, hz, .inl ⟨rfl, rfl⟩⟩, ((Only.refl G w).drew _).set _ _⟩
  exact heap_setCell_same (w.drewN _) G 1 _ _ _ H1.out

set_option maxHeartbeats 1000000 in
theorem next_great {xs : List UInt8} {b off n cap : Nat} {G s : Nat} {w : World} (hr : Reads w (.slice (some ⟨b, off + s, none⟩) (n - s) (cap - s)) (xs.drop s)) (hs : s ≤ n) (hc : cap ≠ s)
    (h1 : w.heap[G]? = some (.cells #[.slice (some ⟨b, off, none⟩) n cap, .int .i64 (s : Int), .int .i64 0] 58)) (m : Int) (a z : Nat) (c : Nat) (hg : get (xs.drop s) = (a, z, c)) (hc0 : c = 0) (ha : m < (a : Int)) :
    Calls Try.prog 26 #[.pointer (some ⟨G, 0, none⟩), .int .i64 m] w fun e w' => e = .returned (.int .i64 0) ∧ Rd n w' G (.slice (some ⟨b, off, none⟩) n cap) none ∧ Only G w w' := by
  subst hc0
  have GET : Hid (∀ (W : World) (v : Value), Reads W v (xs.drop s) → Calls Try.prog 44 #[v] W fun e w' => e = .returned (.tuple #[.int .i64 (a : Int), .int .i64 (z : Int), .int .i64 0]) ∧ w' = W) := fun W v h => (get_reads h hg).mono fun e w' h => ⟨h.1, h.2.symm⟩
  have HRD := Lib.hid hr
  have H1 := Lib.hid h1
  have q1 : decide (m < (a : Int)) = true := by simpa using ha
  have q2 : (0 : Int) ≤ (s : Int) := by omega
  have q3 : (s : Int) ≤ (n : Int) := by omega
  have f1 := free3 h1 1
  have f2 := free3 h1 2
  obtain ⟨c0, c1, c2, -, -⟩ := cells_blk3 h1
  clear hr h1 hg
  go_enter Try.func26, Try.ntmps26
  go_wp2
  go_quiet ((go_at_call 44; refine Calls.quiet_of_same (GET.out _ _ ?r1); (case r1 => exact HRD.out)))
  go_wp2
  go_ret
  refine ⟨rfl, ⟨s, 8, ?_, by omega, .inr ⟨rfl, rfl⟩⟩, ((Only.refl G w).drew _).set _ _⟩
  exact heap_setCell_same (w.drewN _) G 2 _ _ _ H1.out

set_option maxHeartbeats 1000000 in
theorem next_bad {xs : List UInt8} {b off n cap : Nat} {G s : Nat} {w : World} (hr : Reads w (.slice (some ⟨b, off + s, none⟩) (n - s) (cap - s)) (xs.drop s)) (hs : s ≤ n) (hc : cap ≠ s)
    (h1 : w.heap[G]? = some (.cells #[.slice (some ⟨b, off, none⟩) n cap, .int .i64 (s : Int), .int .i64 0] 58)) (m : Int) (a z : Nat) (c : Nat) (hg : get (xs.drop s) = (a, z, c)) (hc0 : c = 8) :
    Calls Try.prog 26 #[.pointer (some ⟨G, 0, none⟩), .int .i64 m] w fun e w' => e = .returned (.int .i64 0) ∧ Rd n w' G (.slice (some ⟨b, off, none⟩) n cap) none ∧ Only G w w' := by
  subst hc0
  have GET : Hid (∀ (W : World) (v : Value), Reads W v (xs.drop s) → Calls Try.prog 44 #[v] W fun e w' => e = .returned (.tuple #[.int .i64 (a : Int), .int .i64 (z : Int), .int .i64 8]) ∧ w' = W) := fun W v h => (get_reads h hg).mono fun e w' h => ⟨h.1, h.2.symm⟩
  have HRD := Lib.hid hr
  have H1 := Lib.hid h1
  have q2 : (0 : Int) ≤ (s : Int) := by omega
  have q3 : (s : Int) ≤ (n : Int) := by omega
  have f1 := free3 h1 1
  have f2 := free3 h1 2
  obtain ⟨c0, c1, c2, -, -⟩ := cells_blk3 h1
  clear hr h1 hg
  go_enter Try.func26, Try.ntmps26
  go_wp2
  go_quiet ((go_at_call 44; refine Calls.quiet_of_same (GET.out _ _ ?r1); (case r1 => exact HRD.out)))
  go_wp2
  go_ret
  refine ⟨rfl, ⟨s, 8, ?_, by omega, .inr ⟨rfl, rfl⟩⟩, ((Only.refl G w).drew _).set _ _⟩
  exact heap_setCell_same (w.drewN _) G 2 _ _ _ H1.out

set_option maxHeartbeats 1000000 in
theorem next_end {xs : List UInt8} {b off : Nat} {G s : Nat} {w : World} (hr : Reads w (.slice (some ⟨b, off, none⟩) 0 0) (xs.drop s)) 
    (h1 : w.heap[G]? = some (.cells #[.slice (some ⟨b, off, none⟩) s s, .int .i64 (s : Int), .int .i64 0] 58)) (m : Int) (a z : Nat) (c : Nat) (hg : get (xs.drop s) = (a, z, c)) (hc0 : c = 8) :
    Calls Try.prog 26 #[.pointer (some ⟨G, 0, none⟩), .int .i64 m] w fun e w' => e = .returned (.int .i64 0) ∧ Rd s w' G (.slice (some ⟨b, off, none⟩) s s) none ∧ Only G w w' := by
  subst hc0
  have GET : Hid (∀ (W : World) (v : Value), Reads W v (xs.drop s) → Calls Try.prog 44 #[v] W fun e w' => e = .returned (.tuple #[.int .i64 (a : Int), .int .i64 (z : Int), .int .i64 8]) ∧ w' = W) := fun W v h => (get_reads h hg).mono fun e w' h => ⟨h.1, h.2.symm⟩
  have HRD := Lib.hid hr
  have H1 := Lib.hid h1
  have q2 : (0 : Int) ≤ (s : Int) := by omega
  have q3 : (s : Int) ≤ (s : Int) := by omega
  have f1 := free3 h1 1
  have f2 := free3 h1 2
  obtain ⟨c0, c1, c2, -, -⟩ := cells_blk3 h1
  clear hr h1 hg
  go_enter Try.func26, Try.ntmps26
  go_wp2
  go_quiet ((go_at_call 44; refine Calls.quiet_of_same (GET.out _ _ ?r1); (case r1 => exact HRD.out)))
  go_wp2
  go_ret
  refine ⟨rfl, ⟨s, 8, ?_, by omega, .inr ⟨rfl, rfl⟩⟩, ((Only.refl G w).drew _).set _ _⟩
  exact heap_setCell_same (w.drewN _) G 2 _ _ _ H1.out

set_option maxHeartbeats 1000000 in
theorem next_nil {xs : List UInt8}  {G s : Nat} {w : World} (hr : Reads w (.slice none 0 0) (xs.drop s)) (hs0 : s = 0)
    (h1 : w.heap[G]? = some (.cells #[.slice none 0 0, .int .i64 (s : Int), .int .i64 0] 58)) (m : Int) (a z : Nat) (c : Nat) (hg : get (xs.drop s) = (a, z, c)) (hc0 : c = 8) :
    Calls Try.prog 26 #[.pointer (some ⟨G, 0, none⟩), .int .i64 m] w fun e w' => e = .returned (.int .i64 0) ∧ Rd 0 w' G (.slice none 0 0) none ∧ Only G w w' := by
  subst hs0
  subst hc0
  have GET : Hid (∀ (W : World) (v : Value), Reads W v (xs.drop 0) → Calls Try.prog 44 #[v] W fun e w' => e = .returned (.tuple #[.int .i64 (a : Int), .int .i64 (z : Int), .int .i64 8]) ∧ w' = W) := fun W v h => (get_reads h hg).mono fun e w' h => ⟨h.1, h.2.symm⟩
  have HRD := Lib.hid hr
  have H1 := Lib.hid h1
  have q2 : (0 : Int) ≤ (0 : Int) := by omega
  have q3 : (0 : Int) ≤ (0 : Int) := by omega
  have f1 := free3 h1 1
  have f2 := free3 h1 2
  obtain ⟨c0, c1, c2, -, -⟩ := cells_blk3 h1
  clear hr h1 hg
  go_enter Try.func26, Try.ntmps26
  go_wp2
  go_quiet ((go_at_call 44; refine Calls.quiet_of_same (GET.out _ _ ?r1); (case r1 => exact HRD.out)))
  go_wp2
  go_ret
  refine ⟨rfl, ⟨0, 8, ?_, by omega, .inr ⟨rfl, rfl⟩⟩, ((Only.refl G w).drew _).set _ _⟩
  exact heap_setCell_same (w.drewN _) G 2 _ _ _ H1.out

set_option maxHeartbeats 1000000 in
theorem next_odd1 {xs : List UInt8} {b off : Nat} {sp : Option Nat} {G s : Nat} {w : World} (hr : Reads w (.slice (some ⟨b, off, sp⟩) 0 0) (xs.drop s)) (hs0 : s = 0)
    (h1 : w.heap[G]? = some (.cells #[.slice (some ⟨b, off, sp⟩) 0 0, .int .i64 (s : Int), .int .i64 0] 58)) (m : Int) (a z : Nat) (c : Nat) (hg : get (xs.drop s) = (a, z, c)) (hc0 : c = 8) :
    Calls Try.prog 26 #[.pointer (some ⟨G, 0, none⟩), .int .i64 m] w fun e w' => e = .returned (.int .i64 0) ∧ Rd 0 w' G (.slice (some ⟨b, off, sp⟩) 0 0) none ∧ Only G w w' := by
  subst hs0
  subst hc0
  have GET : Hid (∀ (W : World) (v : Value), Reads W v (xs.drop 0) → Calls Try.prog 44 #[v] W fun e w' => e = .returned (.tuple #[.int .i64 (a : Int), .int .i64 (z : Int), .int .i64 8]) ∧ w' = W) := fun W v h => (get_reads h hg).mono fun e w' h => ⟨h.1, h.2.symm⟩
  have HRD := Lib.hid hr
  have H1 := Lib.hid h1
  have q2 : (0 : Int) ≤ (0 : Int) := by omega
  have q3 : (0 : Int) ≤ (0 : Int) := by omega
  have f1 := free3 h1 1
  have f2 := free3 h1 2
  obtain ⟨c0, c1, c2, -, -⟩ := cells_blk3 h1
  clear hr h1 hg
  go_enter Try.func26, Try.ntmps26
  go_wp2
  go_quiet ((go_at_call 44; refine Calls.quiet_of_same (GET.out _ _ ?r1); (case r1 => exact HRD.out)))
  go_wp2
  go_ret
  refine ⟨rfl, ⟨0, 8, ?_, by omega, .inr ⟨rfl, rfl⟩⟩, ((Only.refl G w).drew _).set _ _⟩
  exact heap_setCell_same (w.drewN _) G 2 _ _ _ H1.out

set_option maxHeartbeats 1000000 in
theorem next_odd2 {xs : List UInt8} {b off cap : Nat} {sp : Option Nat} {G s : Nat} {w : World} (hr : Reads w (.slice (some ⟨b, off, sp⟩) 0 cap) (xs.drop s)) (hs0 : s = 0) (hcap : ¬ cap = 0)
    (h1 : w.heap[G]? = some (.cells #[.slice (some ⟨b, off, sp⟩) 0 cap, .int .i64 (s : Int), .int .i64 0] 58)) (m : Int) (a z : Nat) (c : Nat) (hg : get (xs.drop s) = (a, z, c)) (hc0 : c = 8) :
    Calls Try.prog 26 #[.pointer (some ⟨G, 0, none⟩), .int .i64 m] w fun e w' => e = .returned (.int .i64 0) ∧ Rd 0 w' G (.slice (some ⟨b, off, sp⟩) 0 cap) none ∧ Only G w w' := by
  subst hs0
  subst hc0
  have GET : Hid (∀ (W : World) (v : Value), Reads W v (xs.drop 0) → Calls Try.prog 44 #[v] W fun e w' => e = .returned (.tuple #[.int .i64 (a : Int), .int .i64 (z : Int), .int .i64 8]) ∧ w' = W) := fun W v h => (get_reads h hg).mono fun e w' h => ⟨h.1, h.2.symm⟩
  have HRD := Lib.hid hr
  have H1 := Lib.hid h1
  have q2 : (0 : Int) ≤ (0 : Int) := by omega
  have q3 : (0 : Int) ≤ (0 : Int) := by omega
  have f1 := free3 h1 1
  have f2 := free3 h1 2
  obtain ⟨c0, c1, c2, -, -⟩ := cells_blk3 h1
  clear hr h1 hg
  go_enter Try.func26, Try.ntmps26
  go_wp2
  go_quiet ((go_at_call 44; refine Calls.quiet_of_same (GET.out _ _ ?r1); (case r1 => exact HRD.out)))
  go_wp2
  go_ret
  refine ⟨rfl, ⟨0, 8, ?_, by omega, .inr ⟨rfl, rfl⟩⟩, ((Only.refl G w).drew _).set _ _⟩
  exact heap_setCell_same (w.drewN _) G 2 _ _ _ H1.out

theorem next_any {xs : List UInt8} {ao : Option Addr} {n cap : Nat} {G : Nat} {q : Option Nat} {w : World} (hn : n ≤ 1000000) (hr : Reads w (.slice ao n cap) xs) (h : Rd n w G (.slice ao n cap) q) (m : Int) :
    Calls Try.prog 26 #[.pointer (some ⟨G, 0, none⟩), .int .i64 m] w fun e w' => e = .returned (.int .i64 ((nextF xs m q).1 : Int)) ∧ Rd n w' G (.slice ao n cap) (nextF xs m q).2 ∧ Only G w w' := by
  cases q with
  | none => exact next_none (xs := xs) h m
  | some s =>
    obtain ⟨s', c, h1, h2, h3⟩ := h
    obtain ⟨rfl, rfl⟩ : s' = s ∧ c = 0 := by
      rcases h3 with ⟨h3, h4⟩ | ⟨h3, _⟩
      · exact ⟨(Option.some.inj h3).symm, h4⟩
      · cases h3
    have hxn : xs.length = n := by
      obtain ⟨_, _, _, he, _⟩ := hr
      exact (Value.slice.inj he).2.1.symm
    rcases reads_from hr h2 with ⟨rfl, rfl, rfl, rfl⟩ | ⟨rfl, rfl, b, off, sp, rfl⟩ | ⟨b, off, rfl, ⟨rfl, rfl, hr2⟩ | ⟨hc, hr2⟩⟩
    · obtain rfl : s' = 0 := by omega
      have hg : Num.get (([] : List UInt8).drop 0) = (0, 0, 8) := rfl
      rw [show nextF [] m (some 0) = (0, none) by simp only [nextF, hg]; rfl]
      exact next_nil (xs := []) (Reads.nil w) rfl h1 m 0 0 8 hg rfl
    · obtain rfl : s' = 0 := by omega
      have hg : Num.get (([] : List UInt8).drop 0) = (0, 0, 8) := rfl
      rw [show nextF [] m (some 0) = (0, none) by simp only [nextF, hg]; rfl]
      by_cases hc : cap = 0
      · subst hc
        exact next_odd1 (xs := []) hr rfl h1 m 0 0 8 hg rfl
      · exact next_odd2 (xs := []) hr rfl hc h1 m 0 0 8 hg rfl
    · have hd : xs.drop n = [] := by rw [List.drop_eq_nil_iff]; omega
      have hg : Num.get (xs.drop n) = (0, 0, 8) := by rw [hd]; rfl
      have := next_end (xs := xs) hr2 h1 m 0 0 8 hg rfl
      rw [show nextF xs m (some n) = (0, none) by simp only [nextF, hg]; rfl]
      exact this
    · rcases get_cases (xs.drop s') with hg | ⟨k, t, hg, hk, ht⟩
      · have := next_bad (xs := xs) hr2 h2 hc h1 m 0 0 8 hg rfl
        rw [show nextF xs m (some s') = (0, none) by simp only [nextF, hg]; rfl]
        exact this
      · by_cases hm : (k : Int) ≤ m
        · have hz : s' + (enc k).length ≤ n := by
            have := congrArg List.length ht
            rw [List.length_drop, List.length_append] at this
            have := (encF_len 5 k).1
            unfold enc at *
            omega
          have := next_go (xs := xs) hn hr2 h2 hc h1 m k _ 0 hg rfl hz hm
          rw [show nextF xs m (some s') = (k, some (s' + (enc k).length)) by simp only [nextF, hg]; simp [hm]]
          exact this
        · have := next_great (xs := xs) hr2 h2 hc h1 m k _ 0 hg rfl (by omega)
          rw [show nextF xs m (some s') = (0, none) by simp only [nextF, hg]; simp [hm]]
          exact this
end Go.Proofs.Ytelilmhnfmojkaa.Codes

/- octavo/code's timeBehind, runs, told, (*reader).operation: what each answers, where the next number is the reader's. Conditions: the reader's cells lie in one block; its bytes read as such. -/
namespace Go.Proofs.Ytelilmhnfmojkaa.Codes
open Go.RowKit Go.Shelf Go.WideShapes Num Go.Proofs.Ytelilmhnfmojkaa.Place Ops
attribute [local go_sem ↓] Go.wp_at_zero Go.wp_at_succ

/-- The reader's next, as a value. -/
def nextV (G : Nat) : Value := .func (.func 26) #[.pointer (some ⟨G, 0, none⟩)] #[]
/-- Where a reader reads bytes. -/
structure Src (xs : List UInt8) (n : Nat) (vb : Value) (w : World) (base : Nat) : Prop where
  few : n ≤ 1000000
  len : n = xs.length
  shape : ∃ ao cap, vb = .slice ao n cap
  reads : ∀ W : World, Below base w W → Reads W vb xs
theorem Src.next {xs : List UInt8} {n base : Nat} {vb : Value} {w W : World} {G : Nat} {q : Option Nat} (h : Src xs n vb w base) (hb : Below base w W) (hr : Rd n W G vb q) (m : Int) :
    Calls Try.prog 26 #[.pointer (some ⟨G, 0, none⟩), .int .i64 m] W fun e w' => e = .returned (.int .i64 ((nextF xs m q).1 : Int)) ∧ Rd n w' G vb (nextF xs m q).2 ∧ Only G W w' := by
  obtain ⟨ao, cap, rfl⟩ := h.shape
  exact next_any h.few (h.reads W hb) hr m

set_option maxHeartbeats 1000000 in
theorem timeBehind_any {xs : List UInt8} {n base : Nat} {vb : Value} {w0 w : World} {G : Nat} {q : Option Nat} (h : Src xs n vb w0 base) (hb : Below base w0 w) (hr : Rd n w G vb q) (a : Int) (ha : -2 ≤ a ∧ a ≤ 10000000000) :
    Calls Try.prog 64 #[.int .i64 a, nextV G] w fun e w' => e = .returned (.int .u32 ((timeF xs a q).1 : Int)) ∧ Rd n w' G vb (timeF xs a q).2 ∧ Only G w w' := by
  have N := Lib.hid (h.next hb hr (1073741824 - a))
  have e0 : IntKind.i64.wrap (1073741824 - a) = 1073741824 - a := IntWalk.i64_in _ (by omega)
  unfold timeF
  have b1 := next_le xs (1073741824 - a) q
  obtain ⟨⟨v, q'⟩, hv⟩ : ∃ z, nextF xs (1073741824 - a) q = z := ⟨_, rfl⟩
  rw [hv] at N b1 ⊢
  simp only at N b1 ⊢
  have e1 : IntKind.i64.wrap (a + (v : Int)) = a + (v : Int) := IntWalk.i64_in _ (by unfold most at b1; omega)
  obtain ⟨u, hu⟩ : ∃ u, ((a + (v : Int)) % 4294967296).toNat = u := ⟨_, rfl⟩
  have e2 : IntKind.u32.wrap (a + (v : Int)) = (u : Int) := by rw [IntKind.wrap_u32]; omega
  rw [hu]
  have eg := enters_of Try.func26 (by kernel_rfl) rfl
  clear hv b1 hu
  unfold nextV
  go_enter Try.func64, Try.ntmps64
  go_wp2_with fail
  refine N.out.mono ?_
  rintro e w1 ⟨rfl, r1, o1⟩
  have R1 := Lib.hid r1
  have O1 := Lib.hid o1
  clear r1 o1
  go_wp2
  go_ret
  exact ⟨rfl, R1.out, O1.out⟩

/-- A row of the call's own stays where nothing is turned but a block below. -/
theorem own_only {w w' : World} {G P sz n : Nat} {e : TypeId} {v : Value} {cs : List Value} (h : w.ownsRow P e sz v n cs) (ho : Only G w w') (hG : G < P) : w'.ownsRow P e sz v n cs := by
  refine ⟨h.1, ?_⟩
  rcases h.2 with h0 | ⟨g, cap, cur, h1, h2, h3, h4⟩
  · exact .inl h0
  · exact .inr ⟨g, cap, cur, h1, h2, ho.obj h3 (by omega), h4⟩
theorem Only.alloc (G : Nat) (w : World) (o : Obj) (h : G ≤ w.heap.size) : Only G w (w.alloc o) := Only.of ((Below.refl _ _).alloc (Nat.le_refl _) o) h
theorem Only.grown {G P : Nat} {w0 w w' : World} (h0 : Only G w0 w) (hb : Below P w w') (hP : w0.heap.size ≤ P) (hG : G < P) : Only G w0 w' :=
  ⟨h0.below.trans (hb.mono (by omega)), fun j hj hne => (hb.block j (by omega)).trans (h0.rest j hj hne)⟩

/-- What runs answers. -/
def Ran (n : Nat) (vb : Value) (G : Nat) (l : List Run) (q : Option Nat) (w : World) (e : Ending) (w' : World) : Prop :=
  ∃ v', e = .returned v' ∧ w'.ownsRow w.heap.size 71 3 v' l.length (runs l) ∧ Rd n w' G vb q ∧ Only G w w'

set_option maxRecDepth 100000 in
set_option maxHeartbeats 4000000 in
theorem runs_any {xs : List UInt8} {n base : Nat} {vb : Value} {w0 w : World} {G : Nat} {q : Option Nat} (h : Src xs n vb w0 base) (hb : Below base w0 w) (hB : base ≤ G) (hr : Rd n w G vb q) :
    Calls Try.prog 63 #[nextV G] w (Ran n vb G (runsF xs (nextF xs 64 q).1 0 (nextF xs 64 q).2).1 (runsF xs (nextF xs 64 q).1 0 (nextF xs 64 q).2).2 w) := by
  have hG : G < w.heap.size := by
    obtain ⟨_, _, h1, _⟩ := hr
    exact (Array.getElem?_eq_some_iff.1 h1).1
  have SRC : Hid (∀ (W : World) (q : Option Nat) (m : Int), Only G w W → Rd n W G vb q → Calls Try.prog 26 #[.pointer (some ⟨G, 0, none⟩), .int .i64 m] W fun e w' => e = .returned (.int .i64 ((nextF xs m q).1 : Int)) ∧ Rd n w' G vb (nextF xs m q).2 ∧ Only G W w') := fun W q m ho hr => h.next (hb.trans (ho.below.mono hB)) hr m
  have TIM : Hid (∀ (W : World) (q : Option Nat) (a : Int), Only G w W → Rd n W G vb q → -2 ≤ a ∧ a ≤ 10000000000 → Calls Try.prog 64 #[.int .i64 a, .func (.func 26) #[.pointer (some ⟨G, 0, none⟩)] #[]] W fun e w' => e = .returned (.int .u32 ((timeF xs a q).1 : Int)) ∧ Rd n w' G vb (timeF xs a q).2 ∧ Only G W w') := fun W q a ho hr ha => timeBehind_any h (hb.trans (ho.below.mono hB)) hr a ha
  have N := Lib.hid (SRC.out w q 64 (Only.refl _ _) hr)
  have b1 := next_le xs 64 q
  obtain ⟨⟨cnt, q1⟩, hv⟩ : ∃ z, nextF xs 64 q = z := ⟨_, rfl⟩
  rw [hv] at N b1 ⊢
  simp only at N b1 ⊢
  have hc : cnt ≤ 64 := by omega
  have eg := enters_of Try.func26 (by kernel_rfl) rfl
  obtain ⟨P, hP⟩ : ∃ P, P = w.heap.size := ⟨_, rfl⟩
  have HP := Lib.hid hP
  have HG : Hid (G < P) := by rw [hP]; exact hG
  obtain ⟨⟨lf, qf⟩, hf⟩ : ∃ z, runsF xs cnt 0 q1 = z := ⟨_, rfl⟩
  rw [hf]
  have HF := Lib.hid hf
  simp only
  unfold Ran nextV
  rw [← hP]
  clear hv b1 h hb hB hr hG hP hf
  go_enter Try.func63, Try.ntmps63
  go_wp2_with fail
  refine N.out.mono ?_
  rintro e w1 ⟨rfl, r1, o1⟩
  have R1 := Lib.hid r1
  have O1 := Lib.hid o1
  have W0 : Hid (w1.ownsRow P 71 3 (.slice none 0 0) ([] : List Run).length (runs [])) := World.ownsRow_nil _ _ _ _
  clear r1 o1 N
  go_wp2
  go_loopw [3, 4, 8] (fun p a i wr => ∃ (j : Nat) (z : Int) (l : List Run) (qj : Option Nat), j ≤ cnt ∧ i = .int .i64 (j : Int) ∧ a = .int .i64 z ∧ (-2 ≤ z ∧ z ≤ 10000000000) ∧ Hid (l.length = j) ∧ Hid (wr.ownsRow P 71 3 p l.length (runs l)) ∧
    Hid ((l ++ (runsF xs (cnt - j) z qj).1, (runsF xs (cnt - j) z qj).2) = (lf, qf)) ∧ Hid (Rd n wr G vb qj) ∧ Hid (Only G w wr)) (fun _ _ i _ => cnt - (intOf i).toNat)
  case atStart => exact ⟨0, 0, [], q1, by omega, rfl, rfl, by omega, Lib.hid rfl, W0, (by unfold Hid; rw [Nat.sub_zero, HF.out]; rfl), R1, O1⟩
  case round =>
    clear W0 R1 O1 HF
    obtain ⟨j, z, l, qj, hj, rfl, rfl, hzb, hll, hown, hst, hrd, honly⟩ := hrel
    by_cases hjn : j < cnt
    · have q1 : decide (j < cnt) = true := by simpa using hjn
      have T := Lib.hid (TIM.out wr qj z honly.out hrd.out hzb)
      obtain ⟨d, hd⟩ : ∃ d, cnt - j = d + 1 := ⟨cnt - j - 1, by omega⟩
      have hst2 := hst.out
      rw [hd] at hst2
      simp only [runsF] at hst2
      have bt := time_lt xs z qj
      obtain ⟨⟨u, qa⟩, hu⟩ : ∃ y, timeF xs z qj = y := ⟨_, rfl⟩
      rw [hu] at T hst2 bt
      simp only at T hst2 bt
      have br := next_le xs 255 qa
      obtain ⟨⟨r, qb⟩, hr⟩ : ∃ y, nextF xs 255 qa = y := ⟨_, rfl⟩
      rw [hr] at hst2 br
      simp only at hst2 br
      have bm := next_le xs 4096 qb
      obtain ⟨⟨m, qc⟩, hm⟩ : ∃ y, nextF xs 4096 qb = y := ⟨_, rfl⟩
      rw [hm] at hst2 bm
      simp only at hst2 bm
      have HRn := Lib.hid hr
      have HMn := Lib.hid hm
      have hr255 : r ≤ 255 := by omega
      have hm4 : m ≤ 4096 := by omega
      have e1 : IntKind.u8.wrap (r : Int) = (r : Int) := by rw [IntKind.wrap_u8]; omega
      obtain ⟨x, hx⟩ : ∃ x, x = mkRun u r m := ⟨_, rfl⟩
      rw [← hx] at hst2
      have hfx : fin x = (u : Int) + (m : Int) - 1 := by
        rw [hx]; unfold fin
        rw [mkRun_t bt, mkRun_m (by omega)]
      have hrx : runs [x] = [.int .u32 (u : Int), .int .u8 (r : Int), .int .i64 (m : Int)] := by
        rw [hx]; simp only [runs]
        rw [mkRun_t bt, mkRun_r (by omega), mkRun_m (by omega)]
      have HST := Lib.hid hst2
      have HFX := Lib.hid hfx
      have HRX := Lib.hid hrx
      have LT := Lib.hid (fun W => lastTime_any u r m bt hm4 W)
      have HJ : Hid (d = cnt - (j + 1)) := by unfold Hid; omega
      clear hu hr hm br bm hst hst2 hx hfx hrx hrd hd
      go_wp2_with fail
      refine T.out.mono ?_
      rintro e w2 ⟨rfl, r2, o2⟩
      have R2 := Lib.hid r2
      have O2 := Lib.hid (honly.out.trans o2)
      have W2 := Lib.hid (own_only hown.out o2 HG.out)
      clear r2 o2 honly hown T
      go_wp2_with fail
      refine (SRC.out _ _ _ O2.out R2.out).mono ?_
      rintro e w3 ⟨rfl, r3, o3⟩
      rw [HRn.out] at r3 ⊢
      simp only at r3 ⊢
      have R3 := Lib.hid r3
      have O3 := Lib.hid (O2.out.trans o3)
      have W3 := Lib.hid (own_only W2.out o3 HG.out)
      clear r3 o3 O2 W2 R2
      go_wp2_with fail
      refine (SRC.out _ _ _ O3.out R3.out).mono ?_
      rintro e w4 ⟨rfl, r4, o4⟩
      rw [HMn.out] at r4 ⊢
      simp only at r4 ⊢
      have R4 := Lib.hid r4
      have O4 := Lib.hid (O3.out.trans o4)
      have W4 := Lib.hid (own_only W3.out o4 HG.out)
      clear r4 o4 O3 W3 R3
      have SE : Hid (Sees ((w4.alloc (.cells #[.int .u32 (u : Int), .int .u8 (r : Int), .int .i64 (m : Int)] 71)).alloc (.cells #[.int .u32 (u : Int), .int .u8 (r : Int), .int .i64 (m : Int)] 71)) (.slice (some ⟨w4.heap.size + 1, 0, none⟩) 1 1) 3 1 (runs [x])) := by
        unfold Hid
        rw [HRX.out]
        have := sees_new (w4.alloc (.cells #[.int .u32 (u : Int), .int .u8 (r : Int), .int .i64 (m : Int)] 71)) [.int .u32 (u : Int), .int .u8 (r : Int), .int .i64 (m : Int)] 3 1 rfl (by omega) 71 (0, 0)
        simpa using this
      have OA : Hid (((w4.alloc (.cells #[.int .u32 (u : Int), .int .u8 (r : Int), .int .i64 (m : Int)] 71)).alloc (.cells #[.int .u32 (u : Int), .int .u8 (r : Int), .int .i64 (m : Int)] 71)).ownsRow P 71 3 u3 l.length (runs l)) := own_stays (own_stays W4.out ((Below.refl _ _).alloc (Nat.le_refl _) _)) ((Below.refl _ _).alloc (Nat.le_refl _) _)
      have hsz : P ≤ w4.heap.size := by rw [HP.out]; exact O4.out.size
      have O5 : Hid (Only G w ((w4.alloc (.cells #[.int .u32 (u : Int), .int .u8 (r : Int), .int .i64 (m : Int)] 71)).alloc (.cells #[.int .u32 (u : Int), .int .u8 (r : Int), .int .i64 (m : Int)] 71))) := (O4.out.trans (Only.alloc G w4 _ (by have := HG.out; omega))).trans (Only.alloc G _ _ (by have := HG.out; simp; omega))
      have R5 : Hid (Rd n ((w4.alloc (.cells #[.int .u32 (u : Int), .int .u8 (r : Int), .int .i64 (m : Int)] 71)).alloc (.cells #[.int .u32 (u : Int), .int .u8 (r : Int), .int .i64 (m : Int)] 71)) G vb qc) := (R4.out.keeps ((Below.refl _ _).alloc (Nat.le_refl _) _)).keeps ((Below.refl _ _).alloc (Nat.le_refl _) _)
      have cell0 : ((w4.alloc (.cells #[.int .u32 (u : Int), .int .u8 (r : Int), .int .i64 (m : Int)] 71)).alloc (.cells #[.int .u32 (u : Int), .int .u8 (r : Int), .int .i64 (m : Int)] 71)).heap[w4.heap.size]? = some (.cells #[.int .u32 (u : Int), .int .u8 (r : Int), .int .i64 (m : Int)] 71) := blk_old (blk_new rfl)
      have XC := Lib.hid cell0
      have hll2 := hll.out
      have HNE : Hid (u3.ownBlock ≠ some w4.heap.size) := fun e => by have := (W4.out.lt _ e).2; omega
      clear W4 O4 R4 cell0
      go_wp2_with (at_builtin; refine wpList_append_sees rfl (.tmp 19) (.tmp 21) 33 71 rfl Try.underlying33 run_info rfl (by decide) P _ l.length (runs l) rfl OA.out _ 1 (runs [x]) rfl SE.out (runs_oneCell _) ?k1 ?k2 ?k3 ?_)
      case k1 => omega
      case k2 => omega
      case k3 => simp; omega
      rintro v6 w6 o6 g6 b6
      have O6 : Hid (w6.ownsRow P 71 3 v6 (l ++ [x]).length (runs (l ++ [x]))) := by unfold Hid; rw [runs_append, List.length_append, hll.out]; exact o6
      have ON6 : Hid (Only G w w6) := Only.grown O5.out b6 (by rw [HP.out]; exact Nat.le_refl _) HG.out
      have R6 : Hid (Rd n w6 G vb qc) := by
        obtain ⟨s, c, h1, h2⟩ := R5.out
        exact ⟨s, c, (b6.block G HG.out).trans h1, h2⟩
      have x6 : w6.heap[w4.heap.size]? = some (.cells #[.int .u32 (u : Int), .int .u8 (r : Int), .int .i64 (m : Int)] 71) := blk_grown g6 HNE.out XC.out
      obtain ⟨r0, r1, r2, -, -⟩ := cells_blk3 x6
      have HST6 : Hid ((l ++ [x] ++ (runsF xs (cnt - (j + 1)) ((u : Int) + (m : Int) - 1) qc).1, (runsF xs (cnt - (j + 1)) ((u : Int) + (m : Int) - 1) qc).2) = (lf, qf)) := by
        unfold Hid
        rw [← HJ.out, ← HFX.out, ← HST.out]
        simp
      have HL6 : Hid ((l ++ [x]).length = j + 1) := by unfold Hid; rw [List.length_append, hll.out]; rfl
      clear o6 g6 b6 x6 OA O5 R5 SE XC HNE
      go_wp2_with fail
      refine (LT.out _).mono ?_
      rintro e w7 ⟨rfl, b7⟩
      have R7 := Lib.hid (R6.out.keeps b7)
      have O7 := Lib.hid (own_stays O6.out b7)
      have N7 := Lib.hid (ON6.out.trans (Only.of b7 (by have := ON6.out.size; have := HP.out; have := HG.out; omega)))
      clear b7 r0 r1 r2 R6 O6 ON6
      go_wp2
      go_roundw
      case rel => exact ⟨j + 1, _, _, _, by omega, by go_num, rfl, by omega, HL6, O7, HST6, R7, N7⟩
      case measure => simp [intOf]; omega
    · have q1 : decide (j < cnt) = false := by simpa using hjn
      have hd : cnt - j = 0 := by omega
      have hst2 := hst.out
      rw [hd] at hst2
      simp only [runsF, List.append_nil, Prod.mk.injEq] at hst2
      obtain ⟨rfl, rfl⟩ := hst2
      clear hst hd
      go_wp2
      go_ret
      exact ⟨_, rfl, hown.out, hrd.out, honly.out⟩
end Go.Proofs.Ytelilmhnfmojkaa.Codes
