/- Operations put in another order make one bag, bags that are joined too. Conditions: none. -/
import Derived.Test.YtocjkegkgnbboaaPk28

namespace Go.Proofs.Ytocjkegkgnbboaa.Bags
open Go.RowKit Go.WideShapes Stamp Go.Proofs.Ytocjkegkgnbboaa.Place Ops Codes

/-- Operations of one stamp are one. -/
def Once (l : List Opn) : Prop := ∀ a ∈ l, ∀ b ∈ l, idO a = idO b → a = b
theorem once_at {l : List Opn} (h : ∀ i k (hi : i < l.length) (hk : k < l.length), k < i → idO (l[i]'hi) = idO (l[k]'hk) → l[i]'hi = l[k]'hk) : Once l := by
  intro a ha b hb e
  obtain ⟨i, hi, rfl⟩ := List.getElem_of_mem ha
  obtain ⟨k, hk, rfl⟩ := List.getElem_of_mem hb
  rcases Nat.lt_trichotomy i k with h1 | h1 | h1
  · exact (h k i hk hi h1 e.symm).symm
  · subst h1; rfl
  · exact h i k hi hk h1 e
theorem Once.sub {l m : List Opn} (h : Once l) (hm : ∀ x ∈ m, x ∈ l) : Once m := fun a ha b hb e => h a (hm a ha) b (hm b hb) e
theorem put_true (l : List Opn) : (putL [] l).2 = true → (∀ o ∈ l, mayO o = true) ∧ (putL [] l).1 = bothO [] l ∧ Bag (putL [] l).1 := by
  induction l using Clocks.list_snoc_ind with
  | h0 => intro _; exact ⟨by simp, rfl, bag_nil⟩
  | h1 l o ih =>
    intro h
    rw [putL_snoc] at h ⊢
    simp only [putS, Bool.and_eq_true, decide_eq_true_eq] at h ⊢
    obtain ⟨h1, h2⟩ := h
    obtain ⟨i1, i2, i3⟩ := ih h1
    obtain ⟨e1, e2⟩ := addL_bag h2
    refine ⟨fun x hx => ?_, by rw [e1, i2, bothO_snoc], e2⟩
    rcases List.mem_append.1 hx with hx | hx
    · exact i1 x hx
    · simp at hx; subst hx
      rcases addE_cases (putL [] l).1 x with ⟨h3, _⟩ | ⟨h3, _⟩ | ⟨_, _, h3, _⟩
      · rw [h2] at h3; cases h3
      · rw [h2] at h3; cases h3
      · exact h3
theorem put_ok (l : List Opn) (hm : ∀ o ∈ l, mayO o = true) (hl : l.length ≤ 1024) : (putL [] l).2 = true := by
  induction l using Clocks.list_snoc_ind with
  | h0 => rfl
  | h1 l o ih =>
    rw [List.length_append] at hl
    simp only [List.length_cons, List.length_nil] at hl
    have h1 := ih (fun x hx => hm x (by simp [hx])) (by omega)
    obtain ⟨_, i2, i3⟩ := put_true l h1
    rw [putL_snoc]
    simp only [putS, Bool.and_eq_true, decide_eq_true_eq]
    refine ⟨h1, ?_⟩
    have hw := (withO_le (putL [] l).1 o).2
    have hb := (bothO_le l []).2
    rw [← i2] at hb
    simp only [List.length_nil] at hb
    rcases addE_cases (putL [] l).1 o with ⟨_, h3⟩ | ⟨_, _, _, h3⟩ | ⟨h3, _⟩
    · exact absurd ⟨i3, hm o (by simp)⟩ h3
    · omega
    · exact h3
theorem mem_put {l : List Opn} (h : Once l) : ∀ x, x ∈ bothO [] l ↔ x ∈ l := by
  induction l using Clocks.list_snoc_ind with
  | h0 => intro x; simp [bothO]
  | h1 l o ih =>
    have ih' := ih (h.sub (fun x hx => by simp [hx]))
    intro x
    rw [bothO_snoc, mem_withO, ih' x, List.mem_append]
    constructor
    · rintro (h1 | ⟨rfl, _⟩)
      · exact .inl h1
      · exact .inr (by simp)
    · rintro (h1 | h1)
      · exact .inl h1
      · simp at h1; subst h1
        cases hh : hasO (bothO [] l) (idO x)
        · exact .inr ⟨rfl, rfl⟩
        · obtain ⟨y, hy, e⟩ := hasO_iff.1 hh
          have hy2 := (ih' y).1 hy
          rw [h y (by simp [hy2]) x (by simp) e] at hy2
          exact .inl hy2
theorem pw_put (l : List Opn) : (bothO [] l).Pairwise lessO := pw_bothO .nil
/-- The same operations in another order. -/
theorem put_same {l m : List Opn} (h : Once l) (hm : ∀ x, x ∈ m ↔ x ∈ l) : bothO [] m = bothO [] l :=
  pw_ext (pw_put m) (pw_put l) (fun x => by rw [mem_put (h.sub (fun y hy => (hm y).1 hy)), mem_put h, hm])
theorem put_join {l a b : List Opn} (h : Once l) (hm : ∀ x, x ∈ l ↔ x ∈ a ∨ x ∈ b) : bothO (bothO [] a) (bothO [] b) = bothO [] l := by
  have ha := h.sub (m := a) (fun y hy => (hm y).2 (.inl hy))
  have hb := h.sub (m := b) (fun y hy => (hm y).2 (.inr hy))
  refine pw_ext (pw_bothO (pw_put a)) (pw_put l) (fun x => ?_)
  rw [mem_bothO (pw_put a) (pw_put b), mem_put ha, mem_put hb, mem_put h, hm]
  constructor
  · rintro (h1 | ⟨h1, _⟩)
    · exact .inl h1
    · exact .inr h1
  · rintro (h1 | h1)
    · exact .inl h1
    · cases hh : hasO (bothO [] a) (idO x)
      · exact .inr ⟨h1, rfl⟩
      · obtain ⟨y, hy, e⟩ := hasO_iff.1 hh
        have hy2 := (mem_put ha y).1 hy
        rw [h y ((hm y).2 (.inl hy2)) x ((hm x).2 (.inr h1)) e] at hy2
        exact .inl hy2
/-- What BagOrder asks. -/
theorem order_all {l : List Opn} {m : Nat} (h : Once l) (hl : l.length ≤ 40) (hp : (putL [] l).2 = true) :
    (putL [] l.reverse).2 = true ∧ (putL [] l.reverse).1 = (putL [] l).1 ∧ joinE (putL [] (l.take m)).1 (putL [] (l.drop m)).1 = 0 ∧ joinO (putL [] (l.take m)).1 (putL [] (l.drop m)).1 = (putL [] l).1 ∧
      joinE (putL [] (l.drop m)).1 (putL [] (l.take m)).1 = 0 ∧ joinO (putL [] (l.drop m)).1 (putL [] (l.take m)).1 = (putL [] l).1 ∧ chkL (putL [] l).1 = 0 := by
  obtain ⟨p1, p2, p3⟩ := put_true l hp
  have r0 := put_ok l.reverse (fun o ho => p1 o (by simpa using ho)) (by simp; omega)
  obtain ⟨_, r2, _⟩ := put_true _ r0
  have t0 := put_ok (l.take m) (fun o ho => p1 o (List.mem_of_mem_take ho)) (by rw [List.length_take]; omega)
  obtain ⟨_, t2, t3⟩ := put_true _ t0
  have d0 := put_ok (l.drop m) (fun o ho => p1 o (List.mem_of_mem_drop ho)) (by rw [List.length_drop]; omega)
  obtain ⟨_, d2, d3⟩ := put_true _ d0
  have hm : ∀ x, x ∈ l ↔ x ∈ l.take m ∨ x ∈ l.drop m := fun x => by
    conv => lhs; rw [← List.take_append_drop m l]
    rw [List.mem_append]
  have j1 := put_join h hm
  have j2 := put_join h (a := l.drop m) (b := l.take m) (fun x => by rw [hm x]; exact Or.comm)
  have lt := (bothO_le (l.take m) []).2
  have ld := (bothO_le (l.drop m) []).2
  have ll := (bothO_le l []).2
  simp only [List.length_nil] at lt ld ll
  refine ⟨r0, by rw [r2, p2]; exact put_same h (fun x => by simp), ?_⟩
  have e1 : joinE (putL [] (l.take m)).1 (putL [] (l.drop m)).1 = 0 := by
    rcases joinE_cases (putL [] (l.take m)).1 (putL [] (l.drop m)).1 with ⟨_, h3⟩ | ⟨_, _, _, h3⟩ | ⟨h3, _⟩
    · exact absurd ⟨t3, d3⟩ h3
    · rw [t2, d2, j1] at h3; omega
    · exact h3
  have e2 : joinE (putL [] (l.drop m)).1 (putL [] (l.take m)).1 = 0 := by
    rcases joinE_cases (putL [] (l.drop m)).1 (putL [] (l.take m)).1 with ⟨_, h3⟩ | ⟨_, _, _, h3⟩ | ⟨h3, _⟩
    · exact absurd ⟨d3, t3⟩ h3
    · rw [t2, d2, j2] at h3; omega
    · exact h3
  refine ⟨e1, by rw [(joinO_bag e1).1, t2, d2, p2, j1], e2, by rw [(joinO_bag e2).1, t2, d2, p2, j2], ?_⟩
  unfold chkL
  rw [if_pos ((bagB_iff _).2 p3)]

/-! ### A part of a slice -/
theorem seq_part {α : Type} {E : Enc α} {w : World} {ao : Option Addr} {n cap m : Nat} {l : List α} (h : Seq E w (.slice ao n cap) l) (hm : m ≤ n) (hl : l ≠ []) :
    ∃ b off o', ao = some ⟨b, off, none⟩ ∧ (if cap = m then (some ⟨b, off, none⟩ : Option Addr) else some ⟨b, off + m * E.sz, none⟩) = some ⟨b, o', none⟩ ∧ Seq E w (.slice (some ⟨b, o', none⟩) (n - m) (cap - m)) (l.drop m) := by
  obtain ⟨cs, ⟨h1, ao', cap', he, h2, h3, h4, h5⟩, h6⟩ := h
  obtain ⟨rfl, rfl, rfl⟩ := Value.slice.inj he
  have hp := E.pos
  have hd := Enc.rows_drop m h6
  have hll : (l.drop m).length = l.length - m := by rw [List.length_drop]
  have hcl : (cs.drop (m * E.sz)).length = (l.length - m) * E.sz := by rw [List.length_drop, h1, Nat.sub_mul]
  rcases h5 with h5 | ⟨b, off, rfl, hb, hc⟩
  · exfalso
    rw [h5] at h1
    have h7 : l.length * E.sz = 0 := by simpa using h1.symm
    rcases Nat.mul_eq_zero.1 h7 with h8 | h8
    · exact hl (List.length_eq_zero_iff.1 h8)
    · omega
  · by_cases hcm : cap = m
    · refine ⟨b, off, off, rfl, by rw [if_pos hcm], cs.drop (m * E.sz), ⟨by rw [hcl, hll], some ⟨b, off, none⟩, cap - m, by rw [hll], by rw [hll]; omega, by omega, by simp, ?_⟩, hd⟩
      left
      exact List.length_eq_zero_iff.1 (by rw [hcl, show l.length - m = 0 by omega, Nat.zero_mul])
    · refine ⟨b, off, off + m * E.sz, rfl, by rw [if_neg hcm], cs.drop (m * E.sz), ⟨by rw [hcl, hll], some ⟨b, off + m * E.sz, none⟩, cap - m, by rw [hll], by rw [hll]; omega, by omega, by simp, ?_⟩, hd⟩
      right
      refine ⟨b, off + m * E.sz, rfl, hb, fun j u hj => ?_⟩
      rw [List.getElem?_drop] at hj
      rw [Nat.add_assoc]
      exact hc _ u hj
theorem seq_none {α : Type} (E : Enc α) (w : World) {ao : Option Addr} {cap : Nat} (hc : cap ≤ 9223372036854775807) (h : ao = none → cap = 0) : Seq E w (.slice ao 0 cap) [] :=
  ⟨[], ⟨by simp, ao, cap, rfl, by simp, hc, h, .inl rfl⟩, rfl⟩
end Go.Proofs.Ytocjkegkgnbboaa.Bags
