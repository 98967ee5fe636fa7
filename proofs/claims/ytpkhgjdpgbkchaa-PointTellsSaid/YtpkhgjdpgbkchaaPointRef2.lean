/- octavoref04.Same, Text, first and Points: what they answer. Conditions: as each says. -/
import Derived.Test.YtpkhgjdpgbkchaaPointRef
import Derived.Test.YtpkhgjdpgbkchaaPointText
import Derived.Deep.QuietTactic
import Derived.BigQuiet
namespace Go.Proofs.Ytpkhgjdpgbkchaa.Point
open Go.RowKit Go.WideShapes

set_option maxHeartbeats 1000000 in
theorem same_yes {a b : Value} {l : List Int} {w : World} (ha : Ints w a l) (hb : Ints w b l) :
    Calls Try.prog 16 #[a, b] w fun e w' => e = .returned (.bool true) ∧ Below w.heap.size w w' := by
  obtain ⟨ao, ca, rfl⟩ := ha.shape
  obtain ⟨bo, cb, rfl⟩ := hb.shape
  obtain ⟨n, hn⟩ : ∃ n, n = l.length := ⟨_, rfl⟩
  have hm : n ≤ 9223372036854775807 := by rw [hn]; exact Sees.max ha
  have HA := Lib.hid ha
  have HB := Lib.hid hb
  have HN := Lib.hid hn
  rw [← hn]
  clear ha hb hn
  have t1 : ((n : Int) != (n : Int)) = false := by simp
  go_enter Try.func16, Try.ntmps16
  go_wp2
  go_loopw [5] (fun i wr => ∃ k : Nat, k ≤ n ∧ i = .int .i64 (k : Int) ∧ ∃ q, wr = w.drewN q) (fun i _ => n - (intOf i).toNat)
  case atStart => exact ⟨0, by omega, rfl, 0, rfl⟩
  case round =>
    obtain ⟨k, hk, rfl, q, rfl⟩ := hrel
    by_cases hkn : k < n
    · have q1 : decide (k < n) = true := by simpa using hkn
      obtain ⟨b1, o1, rfl, hb1, hc1⟩ := HA.out.at k (by rw [← HN.out]; exact hkn)
      obtain ⟨b2, o2, rfl, hb2, hc2⟩ := HB.out.at k (by rw [← HN.out]; exact hkn)
      obtain ⟨x, hx⟩ : ∃ x, x = l.getD k 0 := ⟨_, rfl⟩
      rw [← hx] at hc1 hc2
      have q2 : (0 : Int) ≤ (k : Int) := by omega
      have q3 : (k : Int) < (n : Int) := by omega
      have t2 : (x != x) = false := by simp
      clear hx
      go_wp2
      go_quiet (fail)
      go_wp2
      go_roundw
      case rel => exact ⟨k + 1, by omega, by go_num, _, rfl⟩
      case measure => simp [intOf]; omega
    · have q1 : decide (k < n) = false := by simpa using hkn
      go_wp2
      go_ret
      exact ⟨rfl, below_draw (Below.refl _ _) _⟩

set_option maxHeartbeats 2000000 in
theorem refText_any {v : Value} {l : List Int} {w : World} (hv : Ints w v l) :
    Calls Try.prog 15 #[v] w (fun e w' => e = .returned (.tuple #[.string (str (tr l).1), .int .i64 (tr l).2]) ∧ Below w.heap.size w w') := by
  obtain ⟨ao, cap, rfl⟩ := hv.shape
  by_cases h1 : l.length ≤ 1024
  · obtain ⟨n, hn⟩ : ∃ n, n = l.length := ⟨_, rfl⟩
    have HV := Lib.hid hv
    have HN := Lib.hid hn
    rw [← hn] at h1 ⊢
    have t1 : decide ((1024 : Int) < (n : Int)) = false := by simp; omega
    have t2 : decide (1024 < n) = false := by simp; omega
    clear hv hn
    go_enter Try.func15, Try.ntmps15
    go_wp2
    go_loopw [4, 5] (fun u i wr => ∃ (k : Nat), k ≤ n ∧ i = .int .i64 (k : Int) ∧ ∃ ao m cap, u = .slice ao m cap ∧ Hid (m = (flat (l.take k)).length) ∧ Hid (Pts (l.take k)) ∧ Hid (wr.ownsRow w.heap.size 5 1 (.slice ao m cap) m (bs (flat (l.take k)))) ∧ Hid (Below w.heap.size w wr)) (fun _ i _ => n - (intOf i).toNat)
    case atStart =>
      exact ⟨0, by omega, rfl, none, 0, 0, rfl, Lib.hid rfl, Lib.hid (by simp [Pts]), Lib.hid (World.ownsRow_nil _ _ _ _), Lib.hid (Below.refl _ _)⟩
    case round =>
      obtain ⟨k, hk, rfl, uo, m, uc, rfl, hml, hpt, hown, hbel⟩ := hrel
      have hsz : w.heap.size ≤ wr.heap.size := hbel.out.size
      by_cases hkn : k < n
      · have q1 : decide (k < n) = true := by simpa using hkn
        obtain ⟨b, off, rfl, hb, hc⟩ := HV.out.at k (by rw [← HN.out]; exact hkn)
        obtain ⟨x, hx⟩ : ∃ x, x = l.getD k 0 := ⟨_, rfl⟩
        have hcx : wr.cell? ⟨b, off + k, none⟩ = some (.int .i64 x) := by rw [hx, ← hc]; exact hbel.out.cell (p := ⟨b, off + k, none⟩) hb
        have HX := Lib.hid hx
        have q2 : (0 : Int) ≤ (k : Int) := by omega
        have q3 : (k : Int) < (n : Int) := by omega
        clear hx hc
        by_cases hp : IsPt x
        · obtain ⟨y, rfl⟩ := Int.eq_ofNat_of_zero_le hp.1
          have hfl : m ≤ 4096 := by have := flat_len (l.take k); have : (l.take k).length ≤ k := List.length_take_le _ _; have := hml.out; omega
          go_wp2_with fail
          refine (refIs_yes y hp _).mono ?_
          rintro e w' ⟨rfl, rfl⟩
          go_wp2_with fail
          refine (bytes_any y hp _).mono ?_
          rintro e w3 ⟨u, rfl, g1, g2⟩
          have G1 := Lib.hid g1
          have G2 : Hid (Below w.heap.size w w3) := hbel.out.trans (g2.mono hsz)
          have G3 : Hid (w3.ownsRow w.heap.size 5 1 (.slice uo m uc) (flat (l.take k)).length (bs (flat (l.take k)))) := by
            show w3.ownsRow _ _ _ _ _ _
            have := own_stays hown.out g2
            rw [← hml.out]; exact this
          have h4 := (enc_len (y : Int)).2
          have hs3 : w.heap.size ≤ w3.heap.size := G2.out.size
          clear g1 g2
          go_wp2_with (at_builtin; refine wpList_append_bytes rfl (.tmp 21) (.tmp 26) rfl w.heap.size _ (flat (l.take k)) rfl G3.out _ (enc (y : Int)) rfl G1.out ?k1 ?k2 ?_)
          case k1 => rw [← hml.out]; omega
          case k2 => exact hs3
          rintro v4 w4 o4 b4
          have e4 : flat (l.take k) ++ enc (y : Int) = flat (l.take (k + 1)) := by
            rw [take_snoc' l k (by rw [← HN.out]; exact hkn), ← HX.out, flat_append]; simp [flat]
          rw [e4] at o4
          obtain ⟨ao', cap', rfl⟩ := own_shape o4
          obtain ⟨m', hm'⟩ : ∃ m', m' = (flat (l.take k)).length + (enc (y : Int)).length := ⟨_, rfl⟩
          rw [← hm'] at o4 ⊢
          rw [← List.length_append, e4] at hm'
          have O4 := Lib.hid o4
          have HM' := Lib.hid hm'
          have B4 : Hid (Below w.heap.size w w4) := G2.out.trans b4
          clear o4 b4 e4 hm'
          go_wp2
          go_roundw
          case rel =>
            refine ⟨k + 1, by omega, by go_num, ao', m', cap', rfl, HM', Lib.hid ?_, O4, B4⟩
            rw [take_snoc' l k (by rw [← HN.out]; exact hkn), ← HX.out]
            exact pts_append.2 ⟨hpt.out, by simpa [Pts] using hp⟩
          case measure => simp [intOf]; omega
        · have hno : ¬ Pts l := fun h => hp (by rw [HX.out]; exact h _ (getD_mem l k (by rw [← HN.out]; exact hkn)))
          have HF : Hid (tr l = ([], 40)) := by show tr l = _; unfold tr; rw [← HN.out, if_pos h1, if_neg hno]
          clear hno
          go_wp2_with fail
          refine (refIs_no x hp _).mono ?_
          rintro e w' ⟨rfl, rfl⟩
          go_wp2
          go_ret2
          rw [HF.out]
          exact ⟨rfl, hbel.out⟩
      · have q1 : decide (k < n) = false := by simpa using hkn
        have hkk : l.take k = l := List.take_of_length_le (by have := HN.out; omega)
        have hpl : Pts l := by have := hpt.out; rwa [hkk] at this
        have HF : Hid (tr l = (flat l, 0)) := by show tr l = _; unfold tr; rw [← HN.out, if_pos h1, if_pos hpl]
        have q2 : (convert 28 9 (.slice uo m uc)).run Try.prog wr = .ok (.string (str (flat l))) wr := run_string (by
          have h := hown.out
          rw [hkk] at h
          have e := hml.out
          rw [hkk] at e
          rw [e] at h ⊢
          exact Reads.own h)
        clear hkk hpl
        go_wp2
        go_ret2
        rw [HF.out]
        exact ⟨rfl, hbel.out⟩
  · have HF : Hid (tr l = ([], 4)) := by show tr l = _; unfold tr; rw [if_neg h1]
    have t1 : decide ((1024 : Int) < (l.length : Int)) = true := by simp; omega
    have t2 : decide (1024 < l.length) = true := by simp; omega
    clear hv
    go_enter Try.func15, Try.ntmps15
    go_wp2
    go_ret2
    rw [HF.out]
    exact ⟨rfl, Below.refl _ _⟩
end Go.Proofs.Ytpkhgjdpgbkchaa.Point
