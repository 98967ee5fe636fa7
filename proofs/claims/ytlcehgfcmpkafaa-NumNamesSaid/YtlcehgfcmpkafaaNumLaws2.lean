/- NumTells answers true, and changes nothing that was there. Conditions: the slice's cells are bytes. -/
import Derived.Test.YtlcehgfcmpkafaaNumLaws
namespace Go.Proofs.Ytlcehgfcmpkafaa.Num
open Go.RowKit

theorem Out.reads {n : Int} {ao : Option Addr} {len cap : Nat} {c : Int} {base : Nat} {w : World} (h : Out n ao len cap c base w) :
    ∃ L : List UInt8, Reads w (.slice ao len cap) L ∧ (L ≠ [] → Lies w.heap.size (.slice ao len cap)) ∧ ((0 ≤ n ∧ n ≤ 1099511627776 ∧ c = 0 ∧ L = enc n.toNat ∧ len = L.length) ∨ ((n < 0 ∨ 1099511627776 < n) ∧ c = 2 ∧ L = [] ∧ len = 0)) := by
  rcases h with ⟨h1, h2, h3, h4, h5⟩ | ⟨h1, h2, rfl, rfl, rfl⟩
  · exact ⟨enc n.toNat, Reads.own (by rw [h4] at h5; rw [h4]; exact h5), fun _ => own_lies h5, .inl ⟨h1, h2, h3, rfl, h4⟩⟩
  · exact ⟨[], Reads.nil w, fun h => absurd rfl h, .inr ⟨h1, h2, rfl, rfl⟩⟩

theorem tells_walk (n : Int) (ao : Option Addr) (cap : Nat) (xs : List UInt8) (w : World) (hr : Reads w (.slice ao xs.length cap) xs) :
    Calls Try.prog 4 #[.int .i64 n, .slice ao xs.length cap] w fun e w' => e = .returned (.bool true) ∧ Below w.heap.size w w' := by
  by_cases hlen : 10000 < xs.length
  · have t1 : decide ((10000 : Int) < (xs.length : Int)) = true := by simp; omega
    have t2 : decide (10000 < xs.length) = true := by simp; omega
    go_enter Try.func4, Try.ntmps4
    go_wp2
    go_ret
    exact ⟨rfl, Below.refl _ _⟩
  · have t1 : decide ((10000 : Int) < (xs.length : Int)) = false := by simp; omega
    have t2 : decide (10000 < xs.length) = false := by simp; omega
    have hs0 := run_string hr
    obtain ⟨g1, g2, g3, hg⟩ : ∃ a b c : Nat, get xs = (a, b, c) := ⟨_, _, _, rfl⟩
    have HG := Lib.hid hg
    clear hg
    go_enter Try.func4, Try.ntmps4
    go_wp2_with fail
    refine (put_any n w).mono ?_
    rintro e w1 ⟨ax, lx, cx, x, rfl, hx, b1⟩
    have HX := Lib.hid hx
    clear hx
    go_wp2_with fail
    refine (refPut_any n w1).mono ?_
    rintro e w2 ⟨ay, ly, cy, y, rfl, hy, b2⟩
    have HY := Lib.hid hy
    clear hy hs0
    have hb := bt b1 b2
    have hr2 := hr.below hb (fun h => hr.lies h)
    have HR := Lib.hid hr2
    clear hr2
    go_wp2_with fail
    refine (get_reads HR.out HG.out).mono ?_
    rintro e w3 ⟨rfl, rfl⟩
    go_wp2_with fail
    refine (refGet_reads HR.out HG.out).mono ?_
    rintro e w3 ⟨rfl, rfl⟩
    obtain ⟨L, hL, hl, hLc⟩ := HX.out.reads
    obtain ⟨M, hM, _, hMc⟩ := HY.out.reads
    have eLM : M = L ∧ y = x := by
      rcases hLc with ⟨h1, h2, h3, h4, _⟩ | ⟨h1, h2, h3, _⟩ <;> rcases hMc with ⟨k1, k2, k3, k4, _⟩ | ⟨k1, k2, k3, _⟩
      · exact ⟨by rw [h4, k4], by omega⟩
      · omega
      · omega
      · exact ⟨by rw [h3, k3], by omega⟩
    obtain ⟨rfl, rfl⟩ := eLM
    have s1 := run_string (hL.below b2 hl)
    have s2 := run_string hM
    have s3 := run_string HR.out
    clear hLc hMc hL hM hl HX HY
    go_wp2
    go_ret
    exact ⟨rfl, hb⟩
end Go.Proofs.Ytlcehgfcmpkafaa.Num
