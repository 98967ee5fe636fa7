/- Slices of spans: what a slice value holds. Conditions: none. -/
import Derived.Test.YtinglfhndlklaaaSpanMath
import Derived.Test.YtinglfhndlklaaaCells
namespace Go.Proofs.Ytinglfhndlklaaa
open Go.RowKit Go.WideShapes Spans

/-- Spans as cells. -/
def sps : List Sp → List Value
  | [] => []
  | a :: l => .int .u32 (a.f : Int) :: .int .u32 (a.t : Int) :: sps l
theorem sps_len : ∀ l : List Sp, (sps l).length = l.length * 2
  | [] => rfl
  | a :: l => by simp [sps, sps_len l]; omega
theorem sps_append : ∀ l m : List Sp, sps (l ++ m) = sps l ++ sps m
  | [], m => rfl
  | a :: l, m => by simp [sps, sps_append l m]
theorem sps_get : ∀ (l : List Sp) (j : Nat), j < l.length → (sps l)[j * 2]? = some (.int .u32 ((l.getD j zsp).f : Int)) ∧ (sps l)[j * 2 + 1]? = some (.int .u32 ((l.getD j zsp).t : Int))
  | [], j, h => by simp at h
  | a :: l, 0, _ => by simp [sps]
  | a :: l, j + 1, h => by
    have := sps_get l j (by simpa using h)
    rw [show (j + 1) * 2 = j * 2 + 1 + 1 by omega]
    simpa [sps] using this
theorem sps_oneCell : ∀ l : List Sp, ∀ u ∈ sps l, u.oneCell' = true
  | [], u, h => by simp [sps] at h
  | a :: l, u, h => by
    simp only [sps, List.mem_cons] at h
    rcases h with rfl | rfl | h
    · rfl
    · rfl
    · exact sps_oneCell l u h
/-- A slice of spans. -/
def Sps (w : World) (v : Value) (l : List Sp) : Prop := Sees w v 2 l.length (sps l)
theorem Sps.keeps {w w' : World} {v : Value} {l : List Sp} (h : Sps w v l) (hb : Below w.heap.size w w') : Sps w' v l := Sees.keeps h hb
theorem Sps.nil (w : World) : Sps w (.slice none 0 0) [] := Sees.nil w 2
theorem Sps.shape {w : World} {v : Value} {l : List Sp} (h : Sps w v l) : ∃ ao cap, v = .slice ao l.length cap := Sees.shape h
theorem Sps.at {w : World} {ao : Option Addr} {m cap : Nat} {l : List Sp} (h : Sps w (.slice ao m cap) l) (k : Nat) (hk : k < l.length) :
    ∃ b off, ao = some ⟨b, off, none⟩ ∧ b < w.heap.size ∧ w.cell? ⟨b, off + k * 2, none⟩ = some (.int .u32 ((l.getD k zsp).f : Int)) ∧ w.cell? ⟨b, off + k * 2 + 1, none⟩ = some (.int .u32 ((l.getD k zsp).t : Int)) := by
  obtain ⟨b, off, h1, h2, h3⟩ := Sees.at h (k * 2) (by rw [sps_len]; omega)
  have e := sps_get l k hk
  exact ⟨b, off, h1, h2, (h3 (k * 2) (by rw [sps_len]; omega)).trans e.1, (h3 (k * 2 + 1) (by rw [sps_len]; omega)).trans e.2⟩
theorem Sps.own {w : World} {base : Nat} {e : TypeId} {v : Value} {n : Nat} {l : List Sp} (h : w.ownsRow base e 2 v n (sps l)) : Sps w v l := by
  have h1 := h.1
  rw [sps_len] at h1
  obtain rfl : l.length = n := by omega
  exact Sees.own h
theorem sps_new (w : World) (l : List Sp) (n : Nat) (hn : n = l.length) (hl : l.length ≤ 1000000) (e : TypeId) (fr : Nat × Nat) : Sps (w.alloc (.cells (sps l).toArray e fr)) (.slice (some ⟨w.heap.size, 0, none⟩) n n) l := by
  subst hn
  exact sees_new w (sps l) 2 l.length (sps_len l) hl _ _

theorem span_info : (Try.prog.info? 63).map (fun i => (i.zero, i.size, i.bytes)) = some (some (.agg #[.int .u32 0, .int .u32 0]), 2, 8) := by kernel_rfl
end Go.Proofs.Ytinglfhndlklaaa
