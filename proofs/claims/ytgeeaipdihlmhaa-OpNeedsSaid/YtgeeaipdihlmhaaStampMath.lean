/- Stamps: which may be, which is less, the next one. Conditions: none. -/
import Derived.Test.YtgeeaipdihlmhaaIds
namespace Go.Proofs.Ytgeeaipdihlmhaa.Stamp

/-- May it be? -/
def may (t r : Nat) : Bool := decide (1 ≤ t ∧ t ≤ 1073741824 ∧ r < 8)
theorem may_iff {t r : Nat} : may t r = true ↔ 1 ≤ t ∧ t ≤ 1073741824 ∧ r < 8 := by simp [may]
theorem may_no {t r : Nat} : may t r = false ↔ ¬ (1 ≤ t ∧ t ≤ 1073741824 ∧ r < 8) := by simp only [may, decide_eq_false_iff_not]
def chk (t r : Nat) : Int := if may t r = true then 0 else 8
/-- Is one less? -/
def less (t r u s : Nat) : Bool := decide (t < u ∨ t = u ∧ r < s)
theorem less_iff {t r u s : Nat} : less t r u s = true ↔ t < u ∨ t = u ∧ r < s := by simp [less]
theorem less_no {t r u s : Nat} : less t r u s = false ↔ ¬ (t < u ∨ t = u ∧ r < s) := by simp only [less, decide_eq_false_iff_not]

/-- The greatest time. -/
def top : List Id → Nat
  | [] => 0
  | a :: l => max a.t (top l)
theorem top_append : ∀ l m : List Id, top (l ++ m) = max (top l) (top m)
  | [], m => by simp [top]
  | a :: l, m => by simp only [List.cons_append, top, top_append l m]; omega
theorem top_take (l : List Id) (k : Nat) (h : k < l.length) : top (l.take (k + 1)) = max (top (l.take k)) (l.getD k zid).t := by
  rw [List.take_succ_eq_append_getElem h, top_append]
  simp [top, List.getD, List.getElem?_eq_getElem h]
theorem top_le : ∀ (l : List Id) (k : Nat), k < l.length → (l.getD k zid).t ≤ top l
  | [], k, h => by simp at h
  | a :: l, 0, _ => by simp [top]; omega
  | a :: l, k + 1, h => by
    have := top_le l k (by simpa using h)
    simp [top] at this ⊢
    omega
theorem top_is : ∀ (l : List Id), top l ≠ 0 → ∃ k, k < l.length ∧ (l.getD k zid).t = top l
  | [], h => by simp [top] at h
  | a :: l, h => by
    by_cases h1 : top l ≤ a.t
    · exact ⟨0, by simp, by simp [top]; omega⟩
    · obtain ⟨k, h2, h3⟩ := top_is l (by omega)
      exact ⟨k + 1, by simpa using h2, by simp [top] at h3 ⊢; omega⟩
/-- The zero stamp, or one that may be. -/
def fine (a : Id) : Prop := a = zid ∨ may a.t a.r = true
instance (a : Id) : Decidable (fine a) := inferInstanceAs (Decidable (_ ∨ _))
def Fine (l : List Id) : Prop := ∀ a ∈ l, fine a
instance (l : List Id) : Decidable (Fine l) := inferInstanceAs (Decidable (∀ a ∈ l, fine a))
theorem fine_lt {a : Id} (h : fine a) : a.t ≤ 1073741824 ∧ a.r < 8 := by
  rcases h with rfl | h
  · simp [zid]
  · exact ⟨(may_iff.1 h).2.1, (may_iff.1 h).2.2⟩
theorem top_fine : ∀ {l : List Id}, Fine l → top l ≤ 1073741824
  | [], _ => by simp [top]
  | a :: l, h => by
    have h1 := (fine_lt (h a (by simp))).1
    have h2 := top_fine (l := l) (fun b hb => h b (by simp [hb]))
    simp [top]; omega
theorem Fine.take_snoc {l : List Id} {k : Nat} (h : k < l.length) (h1 : Fine (l.take k)) (h2 : fine (l.getD k zid)) : Fine (l.take (k + 1)) := by
  intro a ha
  rw [List.take_succ_eq_append_getElem h, List.mem_append] at ha
  rcases ha with ha | ha
  · exact h1 a ha
  · simp only [List.mem_singleton] at ha
    subst ha
    simpa [List.getD, List.getElem?_eq_getElem h] using h2
theorem getD_mem (l : List Id) (k : Nat) (h : k < l.length) : l.getD k zid ∈ l := by
  simp [List.getD, List.getElem?_eq_getElem h]
/-- The next one, and the error. -/
def next (r : Nat) (l : List Id) : Nat × Nat × Int :=
  if 1024 < l.length then (0, 0, 4) else if 8 ≤ r then (0, 0, 8) else if ¬ Fine l then (0, 0, 8) else if top l = 1073741824 then (0, 0, 50) else (top l + 1, r, 0)
theorem next_many {r : Nat} {l : List Id} (h : 1024 < l.length) : next r l = (0, 0, 4) := by simp [next, h]
theorem next_r {r : Nat} {l : List Id} (h : ¬ 1024 < l.length) (h2 : 8 ≤ r) : next r l = (0, 0, 8) := by simp [next, h, h2]
theorem next_bad {r : Nat} {l : List Id} (h : ¬ 1024 < l.length) (h2 : ¬ Fine l) : next r l = (0, 0, 8) := by simp [next, h, h2]
theorem next_time {r : Nat} {l : List Id} (h : ¬ 1024 < l.length) (h1 : ¬ 8 ≤ r) (h2 : Fine l) (h3 : top l = 1073741824) : next r l = (0, 0, 50) := by simp [next, h, h1, h2, h3]
theorem next_ok {r : Nat} {l : List Id} (h : ¬ 1024 < l.length) (h1 : ¬ 8 ≤ r) (h2 : Fine l) (h3 : top l ≠ 1073741824) : next r l = (top l + 1, r, 0) := by simp [next, h, h1, h2, h3]
/-- The next one as a value, with the error. -/
def nextv (r : Nat) (l : List Id) : Value := .tuple #[.agg #[.int .u32 ((next r l).1 : Int), .int .u8 ((next r l).2.1 : Int)], .int .i64 (next r l).2.2]
end Go.Proofs.Ytgeeaipdihlmhaa.Stamp
