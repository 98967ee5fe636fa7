/- 1,024 spans that touch none: what comes of one more. Conditions: none. -/
import Derived.Test.YtefamdajblingaaSpanLits
namespace Go.Proofs.Ytefamdajblingaa.Spans

/-- The first n spans of one time's gap each. -/
def M (n : Nat) : List Sp := (List.range n).map fun i => mk (1 + 3 * i) (2 + 3 * i)
theorem M_len (n : Nat) : (M n).length = n := by simp [M]
theorem M_succ (n : Nat) : M (n + 1) = M n ++ [mk (1 + 3 * n) (2 + 3 * n)] := by simp [M, List.range_succ]
theorem M_add : (adds (M 1024) 4000 4000).2 = 4 := by decide +kernel
theorem M_less : (lefts (M 1024) (pairs [5000, 5000])).2 = 0 := by decide +kernel
theorem of_snd {p : List Sp × Int} {c : Int} (h : p.2 = c) : ∃ L, p = (L, c) := ⟨p.1, by rw [← h]⟩
theorem M_adds : ∃ L, adds (M 1024) 4000 4000 = (L, 4) := of_snd M_add
theorem M_lefts : ∃ L, lefts (M 1024) (pairs [5000, 5000]) = (L, 0) := of_snd M_less
end Go.Proofs.Ytefamdajblingaa.Spans
