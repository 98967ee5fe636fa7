/- octavoref07: Both, Left, Add, Join, Less: what each answers. Conditions: the slices' cells are spans. -/
import Derived.Test.YtinglfhndlklaaaSpanMay
import Derived.Test.YtinglfhndlklaaaSpanWith
namespace Go.Proofs.Ytinglfhndlklaaa.Spans
open Go.RowKit
attribute [local go_sem ↓] Go.wp_at_zero Go.wp_at_succ

set_option maxHeartbeats 4000000 in
theorem both_any {v u : Value} {a b : List Sp} {w : World} (hv : Sps w v a) (hu : Sps w u b) (hf : Fine a) (hb : ∀ x ∈ b, Ok x) (la : a.length ≤ 1100) (lb : b.length ≤ 1100) :
    Calls Try.prog 73 #[v, u] w fun e w' => ∃ v', e = .returned v' ∧ w'.ownsRow w.heap.size 63 2 v' (both a b).length (sps (both a b)) ∧ Below w.heap.size w w' := by
  obtain ⟨bo, cb, rfl⟩ := hu.shape
  obtain ⟨n, hn⟩ : ∃ n, n = b.length := ⟨_, rfl⟩
  have HU := Lib.hid hu
  have HN := Lib.hid hn
  have HF := Lib.hid hf
  have HB := Lib.hid hb
  have HLA := Lib.hid la
  have TW := Lib.hid (twin_any hv (by omega))
  rw [← hn] at lb ⊢
  clear hv hu hn hf hb
  go_enter Try.func73, Try.ntmps73
  go_wp2_with fail
  refine TW.out.mono ?_
  rintro e w1 ⟨v1, rfl, o1, b1⟩
  have O1 : Hid (w1.ownsRow w.heap.size 63 2 v1 (both a (b.take 0)).length (sps (both a (b.take 0)))) := o1
  have B1 := Lib.hid b1
  clear o1 b1
  go_wp2
  go_loopw [5, 6] (fun o i wr => ∃ k : Nat, k ≤ n ∧ i = .int .i64 (k : Int) ∧ Hid (wr.ownsRow w.heap.size 63 2 o (both a (b.take k)).length (sps (both a (b.take k)))) ∧ Hid (Below w.heap.size w wr)) (fun _ i _ => n - (intOf i).toNat)
  case atStart => exact ⟨0, by omega, rfl, O1, B1⟩
  case round =>
    obtain ⟨k, hk, rfl, hown, hbel⟩ := hrel
    by_cases hkn : k < n
    · have q1 : decide (k < n) = true := by simpa using hkn
      obtain ⟨bb, off, rfl, hbb, hx0, hx1⟩ := (HU.out.keeps hbel.out).at k (by rw [← HN.out]; exact hkn)
      have hs := take_snoc b k (by rw [← HN.out]; exact hkn)
      have hok : Ok (b.getD k zsp) := HB.out _ (by rw [List.getD, List.getElem?_eq_getElem (by rw [← HN.out]; exact hkn)]; exact List.getElem_mem _)
      obtain ⟨y, hy⟩ : ∃ y, y = b.getD k zsp := ⟨_, rfl⟩
      rw [← hy] at hx0 hx1 hs hok
      have hsn : both a (b.take (k + 1)) = ins (both a (b.take k)) y := by rw [hs]; exact both_snoc _ _ _
      have hbt : ∀ x ∈ b.take k, Ok x := fun x hx => HB.out x (List.mem_of_mem_take hx)
      have hfine := (both_ok (b := b.take k) HF.out hbt).1
      have hlen : (both a (b.take k)).length ≤ 5000 := by
        have h1 := both_len (b.take k) a
        have h2 := HLA.out
        rw [List.length_take] at h1
        omega
      have W := Lib.hid (with_any (x := y) (Sps.own hown.out) hfine hok hlen)
      have HSN := Lib.hid hsn
      obtain ⟨yf, yt, hyf, hyt⟩ := y
      simp only at hx0 hx1 W
      have q2 : (0 : Int) ≤ (k : Int) := by omega
      have q3 : (k : Int) < (n : Int) := by omega
      clear hy hs hsn hbt hfine hlen hok
      go_wp2_with fail
      refine W.out.mono ?_
      rintro e w2 ⟨v2, rfl, o2, b2⟩
      have O2 := Lib.hid (own_base o2 hbel.out.size)
      have B2 := Lib.hid (bt hbel.out b2)
      clear o2 b2
      go_wp2
      go_roundw
      case rel => exact ⟨k + 1, by omega, by go_num, Lib.hid (by rw [HSN.out]; exact O2.out), B2⟩
      case measure => simp [intOf]; omega
    · have q1 : decide (k < n) = false := by simpa using hkn
      have hkk : b.take k = b := List.take_of_length_le (by have := HN.out; omega)
      rw [hkk] at hown
      clear hkk
      go_wp2
      go_ret
      exact ⟨_, rfl, hown.out, hbel.out⟩

set_option maxHeartbeats 4000000 in
theorem left_any {v u : Value} {a b : List Sp} {w : World} (hv : Sps w v a) (hu : Sps w u b) (hf : Fine a) (hb : ∀ x ∈ b, Ok x) (la : a.length ≤ 1100) (lb : b.length ≤ 1100) :
    Calls Try.prog 75 #[v, u] w fun e w' => ∃ v', e = .returned v' ∧ w'.ownsRow w.heap.size 63 2 v' (left a b).length (sps (left a b)) ∧ Below w.heap.size w w' := by
  obtain ⟨bo, cb, rfl⟩ := hu.shape
  obtain ⟨n, hn⟩ : ∃ n, n = b.length := ⟨_, rfl⟩
  have HU := Lib.hid hu
  have HN := Lib.hid hn
  have HF := Lib.hid hf
  have HB := Lib.hid hb
  have HLA := Lib.hid la
  have TW := Lib.hid (twin_any hv (by omega))
  rw [← hn] at lb ⊢
  clear hv hu hn hf hb
  go_enter Try.func75, Try.ntmps75
  go_wp2_with fail
  refine TW.out.mono ?_
  rintro e w1 ⟨v1, rfl, o1, b1⟩
  have O1 : Hid (w1.ownsRow w.heap.size 63 2 v1 (left a (b.take 0)).length (sps (left a (b.take 0)))) := o1
  have B1 := Lib.hid b1
  clear o1 b1
  go_wp2
  go_loopw [5, 6] (fun o i wr => ∃ k : Nat, k ≤ n ∧ i = .int .i64 (k : Int) ∧ Hid (wr.ownsRow w.heap.size 63 2 o (left a (b.take k)).length (sps (left a (b.take k)))) ∧ Hid (Below w.heap.size w wr)) (fun _ i _ => n - (intOf i).toNat)
  case atStart => exact ⟨0, by omega, rfl, O1, B1⟩
  case round =>
    obtain ⟨k, hk, rfl, hown, hbel⟩ := hrel
    by_cases hkn : k < n
    · have q1 : decide (k < n) = true := by simpa using hkn
      obtain ⟨bb, off, rfl, hbb, hx0, hx1⟩ := (HU.out.keeps hbel.out).at k (by rw [← HN.out]; exact hkn)
      have hs := take_snoc b k (by rw [← HN.out]; exact hkn)
      have hok : Ok (b.getD k zsp) := HB.out _ (by rw [List.getD, List.getElem?_eq_getElem (by rw [← HN.out]; exact hkn)]; exact List.getElem_mem _)
      obtain ⟨y, hy⟩ : ∃ y, y = b.getD k zsp := ⟨_, rfl⟩
      rw [← hy] at hx0 hx1 hs hok
      have hsn : left a (b.take (k + 1)) = del (left a (b.take k)) y := by rw [hs]; exact left_snoc _ _ _
      have hbt : ∀ x ∈ b.take k, Ok x := fun x hx => HB.out x (List.mem_of_mem_take hx)
      have hfine := (left_ok (b := b.take k) HF.out hbt).1
      have hlen : (left a (b.take k)).length ≤ 5000 := by
        have h1 := left_len (b := b.take k) HF.out hbt
        have h2 := HLA.out
        rw [List.length_take] at h1
        omega
      have W := Lib.hid (without_any (x := y) (Sps.own hown.out) hfine hok hlen)
      have HSN := Lib.hid hsn
      obtain ⟨yf, yt, hyf, hyt⟩ := y
      simp only at hx0 hx1 W
      have q2 : (0 : Int) ≤ (k : Int) := by omega
      have q3 : (k : Int) < (n : Int) := by omega
      clear hy hs hsn hbt hfine hlen hok
      go_wp2_with fail
      refine W.out.mono ?_
      rintro e w2 ⟨v2, rfl, o2, b2⟩
      have O2 := Lib.hid (own_base o2 hbel.out.size)
      have B2 := Lib.hid (bt hbel.out b2)
      clear o2 b2
      go_wp2
      go_roundw
      case rel => exact ⟨k + 1, by omega, by go_num, Lib.hid (by rw [HSN.out]; exact O2.out), B2⟩
      case measure => simp [intOf]; omega
    · have q1 : decide (k < n) = false := by simpa using hkn
      have hkk : b.take k = b := List.take_of_length_le (by have := HN.out; omega)
      rw [hkk] at hown
      clear hkk
      go_wp2
      go_ret
      exact ⟨_, rfl, hown.out, hbel.out⟩

/-- What is answered: a row of its own, and an error. -/
def Done (l : List Sp) (c : Int) (w : World) (e : Ending) (w' : World) : Prop :=
  ∃ ao cap, e = .returned (.tuple #[.slice ao l.length cap, .int .i64 c]) ∧ w'.ownsRow w.heap.size 63 2 (.slice ao l.length cap) l.length (sps l) ∧ Below w.heap.size w w'

def joins (a b : List Sp) : List Sp × Int := if mayB a = true ∧ mayB b = true then told (both a b) else ([], 8)
def lefts (a b : List Sp) : List Sp × Int := if mayB a = true ∧ mayB b = true then told (left a b) else ([], 8)
def adds (l : List Sp) (f t : Nat) : List Sp × Int := if mayB l = true then (if Ok (mk f t) then told (ins l (mk f t)) else ([], 2)) else ([], 8)
end Go.Proofs.Ytinglfhndlklaaa.Spans
