/- NumShort answers true, and changes nothing that was there. Conditions: none. -/
import Derived.Test.YtlcehgfcmpkafaaNumLaws2
namespace Go.Proofs.Ytlcehgfcmpkafaa.Num
open Go.RowKit

theorem short_walk (n : Int) (many : Nat) (hm : many ≤ 255) (w : World) :
    Calls Try.prog 7 #[.int .i64 n, .int .u8 (many : Int)] w fun e w' => e = .returned (.bool true) ∧ Below w.heap.size w w' := by
  go_enter Try.func7, Try.ntmps7
  go_wp2_with fail
  refine (alive_any w).mono ?_
  rintro e w1 ⟨rfl, b1⟩
  go_wp2_with fail
  refine (put_any n w1).mono ?_
  rintro e w2 ⟨ax, lx, cx, x, rfl, hx, b2⟩
  have hb := bt b1 b2
  obtain ⟨L, hL, hl, hLc⟩ := hx.reads
  clear hx
  rcases hLc with ⟨h1, h2, rfl, h4, rfl⟩ | ⟨h1, rfl, h3, h5⟩
  · obtain ⟨N, rfl⟩ := Int.eq_ofNat_of_zero_le h1
    have hLe : L = enc N := by simpa using h4
    have hcap : L.length ≤ cx := by
      obtain ⟨_, _, _, he, hc, _⟩ := hL
      simp only [Value.slice.injEq, true_and] at he
      rw [he.2]; exact hc
    by_cases hlt : many < L.length
    · have hg : get (L.take many) = (0, 0, 8) := by rw [hLe] at hlt ⊢; exact get_take N many hlt
      have HG := Lib.hid hg
      have HR := Lib.hid (hL.take (Nat.le_of_lt hlt))
      have hmc : many ≤ cx := by omega
      have t1 : ((many : Int) == (L.length : Int)) = false := by simp; omega
      clear hLe h4 hL hl hg
      go_wp2_with fail
      refine (get_reads HR.out HG.out).mono ?_
      rintro e w3 ⟨rfl, rfl⟩
      go_wp2
      go_ret
      exact ⟨rfl, hb⟩
    · have hg : get (L.take L.length) = (N, L.length, 0) := by
        have := get_enc N (by unfold most; omega) []
        rw [List.append_nil, ← hLe] at this
        rw [List.take_length]; exact this
      have HG := Lib.hid hg
      have HR := Lib.hid (hL.take (Nat.le_refl _))
      clear hLe h4 hL hl hg
      rcases Nat.lt_or_eq_of_le (Nat.not_lt.1 hlt) with hgt | heq
      · have t1 : decide (L.length < many) = true := decide_eq_true hgt
        have t2 : decide (many < L.length) = false := decide_eq_false hlt
        have t3 : ¬ many ≤ L.length := by omega
        clear hlt
        go_wp2_with fail
        refine (get_reads HR.out HG.out).mono ?_
        rintro e w3 ⟨rfl, rfl⟩
        go_wp2
        go_ret
        exact ⟨rfl, hb⟩
      · subst heq
        clear hlt
        go_wp2_with fail
        refine (get_reads HR.out HG.out).mono ?_
        rintro e w3 ⟨rfl, rfl⟩
        go_wp2
        go_ret
        exact ⟨rfl, hb⟩
  · clear hL hl
    go_wp2
    go_ret
    exact ⟨rfl, hb⟩
end Go.Proofs.Ytlcehgfcmpkafaa.Num
