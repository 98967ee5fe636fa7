/- point.Text: what it answers. Conditions: the slice's cells are numbers. -/
import Derived.Test.YtpkhgjdpgbkchaaPoint
import Derived.Test.YtpkhgjdpgbkchaaStrb
import Derived.IntWalk
namespace Go.Proofs.Ytpkhgjdpgbkchaa.Point
open Go.RowKit Go.WideShapes

theorem check_yes (n : Int) (h : IsPt n) (w : World) : Calls Try.prog 12 #[.int .i64 n] w fun e w' => e = .returned (.int .i64 0) ∧ w = w' := by
  have := check_any n w
  rw [show ck n = 0 from if_pos h] at this
  exact this
theorem check_no (n : Int) (h : ¬ IsPt n) (w : World) : Calls Try.prog 12 #[.int .i64 n] w fun e w' => e = .returned (.int .i64 40) ∧ w = w' := by
  have := check_any n w
  rw [show ck n = 40 from if_neg h] at this
  exact this

/-- What Text answers: bytes, and a code. -/
def tr (l : List Int) : List UInt8 × Int := if l.length ≤ 1024 then (if Pts l then (flat l, 0) else ([], 40)) else ([], 4)
theorem take_snoc' (l : List Int) (k : Nat) (h : k < l.length) : l.take (k + 1) = l.take k ++ [l.getD k 0] := by
  rw [List.take_succ_eq_append_getElem h]
  simp [List.getD, List.getElem?_eq_getElem h]
theorem getD_mem (l : List Int) (k : Nat) (h : k < l.length) : l.getD k 0 ∈ l := by
  simp [List.getD, List.getElem?_eq_getElem h]

set_option maxHeartbeats 4000000 in
set_option maxRecDepth 1000000 in
theorem text_any {v : Value} {l : List Int} {w : World} (hv : Ints w v l) :
    Calls Try.prog 8 #[v] w (fun e w' => e = .returned (.tuple #[.string (str (tr l).1), .int .i64 (tr l).2]) ∧ Below w.heap.size w w') := by
  obtain ⟨ao, cap, rfl⟩ := hv.shape
  by_cases h1 : l.length ≤ 1024
  · obtain ⟨n, hn⟩ : ∃ n, n = l.length := ⟨_, rfl⟩
    have HV := Lib.hid hv
    have HN := Lib.hid hn
    rw [← hn] at h1 ⊢
    have t1 : decide ((1024 : Int) < (n : Int)) = false := by simp; omega
    have t2 : decide (1024 < n) = false := by simp; omega
    clear hv hn
    go_enter Try.func8, Try.ntmps8
    go_wp2
    go_loopw [13] (fun i wr => ∃ k : Nat, k ≤ n ∧ i = .int .i64 (k : Int) ∧ Hid (Pts (l.take k)) ∧ Hid (Strb.Is w.heap.size w.heap.size (flat (l.take k)) wr) ∧ Hid (Below w.heap.size w wr)) (fun i _ => n - (intOf i).toNat)
    case atStart =>
      exact ⟨0, by omega, rfl, Lib.hid (by simp [Pts]), Lib.IsBuilderF.of (Lib.fresh_isBuilder _ _ w), (Below.refl _ _).alloc (Nat.le_refl _) _⟩
    case round =>
      obtain ⟨k, hk, rfl, hpt, hbu, hbel⟩ := hrel
      have hsz : w.heap.size ≤ wr.heap.size := hbel.out.size
      by_cases hkn : k < n
      · have q1 : decide (k < n) = true := by simpa using hkn
        obtain ⟨b, off, rfl, hb, hc⟩ := HV.out.at k (by rw [← HN.out]; exact hkn)
        obtain ⟨x, hx⟩ : ∃ x, x = l.getD k 0 := ⟨_, rfl⟩
        have hcx : wr.cell? ⟨b, off + k, none⟩ = some (.int .i64 x) := by rw [hx, ← hc]; exact hbel.out.cell (p := ⟨b, off + k, none⟩) hb
        have HX := Lib.hid hx
        have q2 : (0 : Int) ≤ (k : Int) := by omega
        have q3 : (k : Int) < (n : Int) := by omega
        clear hx hc
        by_cases hp : IsPt x
        · have x1 : -2147483648 ≤ x := by have := hp.1; omega
          have x2 : x ≤ 2147483647 := by have := hp.2.1; omega
          have w1 : IntKind.i32.wrap x = x := IntWalk.i32_in _ (by omega)
          have hfl : (flat (l.take k)).length ≤ 4096 := by have := flat_len (l.take k); have : (l.take k).length ≤ k := List.length_take_le _ _; omega
          go_wp2_with fail
          refine (check_yes x hp _).mono ?_
          rintro e w' ⟨rfl, rfl⟩
          go_wp2_with fail
          refine (Strb.writeRune_any w.heap.size w.heap.size _ x x1 x2 _ hbu.out (by omega) hsz).mono ?_
          rintro e w3 ⟨⟨u, rfl⟩, g1, g2, g3⟩
          have G1 := Lib.hid g1
          have G2 : Hid (Below w.heap.size w w3) := hbel.out.trans g2
          clear g1 g2 g3
          go_wp2
          go_roundw
          case rel =>
            refine ⟨k + 1, by omega, by go_num, Lib.hid ?_, Lib.hid ?_, G2⟩
            · rw [take_snoc' l k (by rw [← HN.out]; exact hkn), ← HX.out]
              exact pts_append.2 ⟨hpt.out, by simpa [Pts] using hp⟩
            · rw [take_snoc' l k (by rw [← HN.out]; exact hkn), ← HX.out, flat_append]
              have : flat [x] = Lib.encodeRune x := by simp [flat, enc]
              rw [this]
              exact G1.out
          case measure => simp [intOf]; omega
        · have hno : ¬ Pts l := fun h => hp (by rw [HX.out]; exact h _ (getD_mem l k (by rw [← HN.out]; exact hkn)))
          have HF : Hid (tr l = ([], 40)) := by show tr l = _; unfold tr; rw [← HN.out, if_pos h1, if_neg hno]
          clear hno
          go_wp2_with fail
          refine (check_no x hp _).mono ?_
          rintro e w' ⟨rfl, rfl⟩
          go_wp2
          go_ret2
          rw [HF.out]
          exact ⟨rfl, hbel.out⟩
      · have q1 : decide (k < n) = false := by simpa using hkn
        have hkk : l.take k = l := List.take_of_length_le (by have := HN.out; omega)
        have hpl : Pts l := by have := hpt.out; rwa [hkk] at this
        have HF : Hid (tr l = (flat l, 0)) := by show tr l = _; unfold tr; rw [← HN.out, if_pos h1, if_pos hpl]
        have HB : Hid (Strb.Is w.heap.size w.heap.size (flat l) wr) := by have := hbu.out; rwa [hkk] at this
        clear hkk hpl
        go_wp2_with fail
        refine (Try.Builder_String_any_k w.heap.size w.heap.size (flat l) _ HB.out hsz).mono ?_
        rintro e w3 ⟨rfl, _, g2, _⟩
        have G2 : Hid (Below w.heap.size w w3) := hbel.out.trans g2
        clear g2
        go_wp2
        go_ret2
        rw [HF.out]
        exact ⟨rfl, G2.out⟩
  · have HF : Hid (tr l = ([], 4)) := by show tr l = _; unfold tr; rw [if_neg h1]
    have t1 : decide ((1024 : Int) < (l.length : Int)) = true := by simp; omega
    have t2 : decide (1024 < l.length) = true := by simp; omega
    clear hv
    go_enter Try.func8, Try.ntmps8
    go_wp2
    go_ret2
    rw [HF.out]
    exact ⟨rfl, Below.refl _ _⟩
end Go.Proofs.Ytpkhgjdpgbkchaa.Point
