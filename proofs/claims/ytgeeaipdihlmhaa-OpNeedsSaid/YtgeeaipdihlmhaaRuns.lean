/- Runs of stamps (places), and slices of them: what a slice value holds. Conditions: none. -/
import Derived.Test.YtgeeaipdihlmhaaIds
namespace Go.Proofs.Ytgeeaipdihlmhaa
open Go.RowKit Go.WideShapes

/-- A run: a time, a replica, how many. -/
structure Run where
  t : Nat
  r : Nat
  m : Int
  ht : t < 4294967296
  hr : r < 256
  hm : -9223372036854775808 ≤ m ∧ m ≤ 9223372036854775807
theorem Run.ext' {a b : Run} (h1 : a.t = b.t) (h2 : a.r = b.r) (h3 : a.m = b.m) : a = b := by
  obtain ⟨t, r, m, _, _, _⟩ := a; obtain ⟨u, s, n, _, _, _⟩ := b
  simp only at h1 h2 h3
  subst h1 h2 h3
  rfl
theorem Run.eq_iff {a b : Run} : a = b ↔ a.t = b.t ∧ a.r = b.r ∧ a.m = b.m := ⟨fun h => by rw [h]; exact ⟨rfl, rfl, rfl⟩, fun h => Run.ext' h.1 h.2.1 h.2.2⟩
instance : DecidableEq Run := fun a b => if h : a.t = b.t ∧ a.r = b.r ∧ a.m = b.m then isTrue (Run.eq_iff.2 h) else isFalse (fun e => h (Run.eq_iff.1 e))
def zrun : Run := ⟨0, 0, 0, by decide, by decide, by decide⟩
/-- Runs as cells. -/
def runs : List Run → List Value
  | [] => []
  | a :: l => .int .u32 (a.t : Int) :: .int .u8 (a.r : Int) :: .int .i64 a.m :: runs l
theorem runs_len : ∀ l : List Run, (runs l).length = l.length * 3
  | [] => rfl
  | a :: l => by simp [runs, runs_len l]; omega
theorem runs_append : ∀ l m : List Run, runs (l ++ m) = runs l ++ runs m
  | [], m => rfl
  | a :: l, m => by simp [runs, runs_append l m]
theorem runs_get : ∀ (l : List Run) (j : Nat), j < l.length → (runs l)[j * 3]? = some (.int .u32 ((l.getD j zrun).t : Int)) ∧ (runs l)[j * 3 + 1]? = some (.int .u8 ((l.getD j zrun).r : Int)) ∧ (runs l)[j * 3 + 2]? = some (.int .i64 (l.getD j zrun).m)
  | [], j, h => by simp at h
  | a :: l, 0, _ => by simp [runs]
  | a :: l, j + 1, h => by
    have := runs_get l j (by simpa using h)
    rw [show (j + 1) * 3 = j * 3 + 1 + 1 + 1 by omega]
    simpa [runs] using this
theorem runs_oneCell : ∀ l : List Run, ∀ u ∈ runs l, u.oneCell' = true
  | [], u, h => by simp [runs] at h
  | a :: l, u, h => by
    simp only [runs, List.mem_cons] at h
    rcases h with rfl | rfl | rfl | h
    · rfl
    · rfl
    · rfl
    · exact runs_oneCell l u h
/-- The cells from a run on. -/
theorem runs_drop : ∀ (l : List Run) (k : Nat), runs (l.drop k) = (runs l).drop (k * 3)
  | l, 0 => by simp
  | [], k + 1 => by simp [runs]
  | a :: l, k + 1 => by
    rw [List.drop_succ_cons, runs_drop l k, show (k + 1) * 3 = k * 3 + 1 + 1 + 1 by omega]
    simp [runs]
/-- A slice of runs. -/
def Runs (w : World) (v : Value) (l : List Run) : Prop := Sees w v 3 l.length (runs l)
theorem Runs.keeps {w w' : World} {v : Value} {l : List Run} (h : Runs w v l) (hb : Below w.heap.size w w') : Runs w' v l := Sees.keeps h hb
theorem Runs.nil (w : World) : Runs w (.slice none 0 0) [] := Sees.nil w 3
theorem Runs.shape {w : World} {v : Value} {l : List Run} (h : Runs w v l) : ∃ ao cap, v = .slice ao l.length cap := Sees.shape h
theorem Runs.at {w : World} {ao : Option Addr} {m cap : Nat} {l : List Run} (h : Runs w (.slice ao m cap) l) (k : Nat) (hk : k < l.length) :
    ∃ b off, ao = some ⟨b, off, none⟩ ∧ b < w.heap.size ∧ w.cell? ⟨b, off + k * 3, none⟩ = some (.int .u32 ((l.getD k zrun).t : Int)) ∧ w.cell? ⟨b, off + k * 3 + 1, none⟩ = some (.int .u8 ((l.getD k zrun).r : Int)) ∧ w.cell? ⟨b, off + k * 3 + 2, none⟩ = some (.int .i64 (l.getD k zrun).m) := by
  obtain ⟨b, off, h1, h2, h3⟩ := Sees.at h (k * 3) (by rw [runs_len]; omega)
  have e := runs_get l k hk
  exact ⟨b, off, h1, h2, (h3 (k * 3) (by rw [runs_len]; omega)).trans e.1, (h3 (k * 3 + 1) (by rw [runs_len]; omega)).trans e.2.1, (h3 (k * 3 + 2) (by rw [runs_len]; omega)).trans e.2.2⟩
theorem Runs.own {w : World} {base : Nat} {e : TypeId} {v : Value} {n : Nat} {l : List Run} (h : w.ownsRow base e 3 v n (runs l)) : Runs w v l := by
  have h1 := h.1
  rw [runs_len] at h1
  obtain rfl : l.length = n := by omega
  exact Sees.own h
theorem runs_new (w : World) (l : List Run) (n : Nat) (hn : n = l.length) (hl : l.length ≤ 1000000) (e : TypeId) (fr : Nat × Nat) : Runs (w.alloc (.cells (runs l).toArray e fr)) (.slice (some ⟨w.heap.size, 0, none⟩) n n) l := by
  subst hn
  exact sees_new w (runs l) 3 l.length (runs_len l) hl _ _
/-- What is behind the first runs. -/
theorem Runs.tail {w : World} {b off n cap k : Nat} {l : List Run} (h : Runs w (.slice (some ⟨b, off, none⟩) n cap) l) (hk : k ≤ l.length) : Runs w (.slice (some ⟨b, off + k * 3, none⟩) (n - k) (cap - k)) (l.drop k) := by
  obtain ⟨h1, ao, cap', he, h2, h3, h4, h5⟩ := h
  simp only [Value.slice.injEq] at he
  obtain ⟨rfl, rfl, rfl⟩ := he
  refine ⟨by rw [runs_len], some ⟨b, off + k * 3, none⟩, cap - k, by rw [List.length_drop], by rw [List.length_drop]; omega, by omega, by simp, ?_⟩
  rw [runs_drop]
  rcases h5 with h5 | ⟨b', off', he, hb, hc⟩
  · left; rw [h5]; simp
  · right
    simp only [Option.some.injEq, Addr.mk.injEq] at he
    obtain ⟨rfl, rfl, _⟩ := he
    refine ⟨b, off + k * 3, rfl, hb, fun j u hj => ?_⟩
    rw [List.getElem?_drop] at hj
    rw [show off + k * 3 + j = off + (k * 3 + j) by omega]
    exact hc _ _ hj

/-- A block whose first three cells are these. -/
def Tri (w : World) (h : Nat) (c0 c1 c2 : Value) : Prop := h < w.heap.size ∧ w.cell? ⟨h, 0, none⟩ = some c0 ∧ w.cell? ⟨h, 1, none⟩ = some c1 ∧ w.cell? ⟨h, 2, none⟩ = some c2
theorem Tri.keeps {w w' : World} {h : Nat} {c0 c1 c2 : Value} (p : Tri w h c0 c1 c2) (hb : Below w.heap.size w w') : Tri w' h c0 c1 c2 :=
  ⟨Nat.lt_of_lt_of_le p.1 hb.size, (hb.cell (p := ⟨h, 0, none⟩) p.1).trans p.2.1, (hb.cell (p := ⟨h, 1, none⟩) p.1).trans p.2.2.1, (hb.cell (p := ⟨h, 2, none⟩) p.1).trans p.2.2.2⟩
theorem tri_new (w : World) (c0 c1 c2 : Value) (e : TypeId) : Tri (w.alloc (.cells #[c0, c1, c2] e)) w.heap.size c0 c1 c2 :=
  ⟨by simp, cell_of_row _ w.heap.size 0 #[c0, c1, c2] e _ (heap_alloc_new w _), cell_of_row _ w.heap.size 1 #[c0, c1, c2] e _ (heap_alloc_new w _), cell_of_row _ w.heap.size 2 #[c0, c1, c2] e _ (heap_alloc_new w _)⟩
theorem run_info : (Try.prog.info? 24).map (fun i => (i.zero, i.size, i.bytes)) = some (some (.agg #[.int .u32 0, .int .u8 0, .int .i64 0]), 3, 16) := by kernel_rfl
end Go.Proofs.Ytgeeaipdihlmhaa
