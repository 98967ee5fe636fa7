/- Spans, as Bools, and taken one by one. Conditions: none. -/
import Derived.Test.YtinglfhndlklaaaSpanMath
namespace Go.Proofs.Ytinglfhndlklaaa.Spans

def fineB : List Sp → Bool
  | [] => true
  | [x] => decide (Ok x)
  | x :: y :: l => decide (Ok x) && (decide (x.t + 2 ≤ y.f) && fineB (y :: l))
theorem fineB_iff : ∀ l : List Sp, fineB l = true ↔ Fine l
  | [] => by simp [fineB, Fine]
  | [x] => by simp [fineB, Fine]
  | x :: y :: l => by simp [fineB, Fine, fineB_iff (y :: l)]
/-- May spans be? -/
def mayB (l : List Sp) : Bool := fineB l && decide (l.length ≤ 1024)
theorem mayB_iff (l : List Sp) : mayB l = true ↔ Fine l ∧ l.length ≤ 1024 := by simp [mayB, fineB_iff]
theorem mayB_no {l : List Sp} (h : ¬ Fine l) : mayB l = false := by
  cases hb : mayB l
  · rfl
  · exact absurd ((mayB_iff l).1 hb).1 h
theorem fine_ok : ∀ {l : List Sp} {k : Nat}, Fine l → k < l.length → Ok (l.getD k zsp)
  | [], k, _, h => by simp at h
  | x :: l, 0, h, _ => by simpa using h.head
  | x :: l, k + 1, h, hk => by simpa using fine_ok (k := k) h.tail (by simpa using hk)
theorem fine_next : ∀ {l : List Sp} {k : Nat}, Fine l → k + 1 < l.length → (l.getD k zsp).t + 2 ≤ (l.getD (k + 1) zsp).f
  | [], k, _, h => by simp at h
  | [x], k, _, h => by simp at h
  | x :: y :: l, 0, h, _ => by simpa using h.2.1
  | x :: y :: l, k + 1, h, hk => by
    have := fine_next (l := y :: l) (k := k) h.2.2 (by simpa using hk)
    simpa using this
theorem take_snoc (l : List Sp) (k : Nat) (h : k < l.length) : l.take (k + 1) = l.take k ++ [l.getD k zsp] := by
  rw [List.take_succ_eq_append_getElem h]
  simp [List.getD, List.getElem?_eq_getElem h]
theorem fine_front : ∀ {p q : List Sp}, Fine (p ++ q) → Fine p
  | [], _, _ => trivial
  | [_], _, h => h.head
  | _ :: y :: p, _, h => ⟨h.1, h.2.1, fine_front (p := y :: p) h.2.2⟩
theorem fine_take {l : List Sp} (h : Fine l) (k : Nat) : Fine (l.take k) := by
  have := List.take_append_drop k l
  rw [← this] at h
  exact fine_front h
theorem fine_most : ∀ {l : List Sp}, Fine l → ∀ a ∈ l, a.t ≤ (l.getD (l.length - 1) zsp).t
  | [], _, a, ha => by simp at ha
  | [x], _, a, ha => by simp only [List.mem_singleton] at ha; subst ha; simp
  | x :: y :: l, h, a, ha => by
    have ih := fine_most h.2.2
    have e : (x :: y :: l).getD ((x :: y :: l).length - 1) zsp = (y :: l).getD ((y :: l).length - 1) zsp := by simp
    rw [e]
    rw [List.mem_cons] at ha
    rcases ha with rfl | ha
    · have h1 := ih y (by simp)
      have h2 := h.2.1
      have h3 := h.2.2.head
      unfold Ok at h3
      omega
    · exact ih a ha
theorem fine_take_succ {l : List Sp} {k : Nat} (h : k < l.length) (hc : Fine (l.take k)) (h1 : Ok (l.getD k zsp)) (h2 : k = 0 ∨ (l.getD (k - 1) zsp).t + 2 ≤ (l.getD k zsp).f) : Fine (l.take (k + 1)) := by
  rw [take_snoc l k h]
  refine fine_append hc h1 (fun a ha b hb => ?_)
  simp only [List.mem_singleton] at hb
  subst hb
  rcases h2 with rfl | h2
  · simp at ha
  · have h3 := fine_most hc a ha
    have hk : 0 < k := by
      cases k with
      | zero => simp at ha
      | succ k => omega
    rw [List.length_take, Nat.min_eq_left (by omega)] at h3
    have e : (l.take k).getD (k - 1) zsp = l.getD (k - 1) zsp := by
      simp [List.getD, show k - 1 < k by omega]
    rw [e] at h3
    omega
theorem many_snoc (l : List Sp) (x : Sp) : many (l ++ [x]) = many l + (x.t - x.f + 1) := by
  induction l with
  | nil => simp [many]
  | cons y l ih => simp only [List.cons_append, many, ih]; omega
theorem inB_snoc (l : List Sp) (x : Sp) (n : Nat) : inB (l ++ [x]) n = (inB l n || decide (x.f ≤ n ∧ n ≤ x.t)) := by
  induction l with
  | nil => simp [inB]
  | cons y l ih => simp only [List.cons_append, inB, ih, Bool.or_assoc]
theorem many_le {l : List Sp} : many l ≤ 4294967296 * l.length := by
  induction l with
  | nil => simp [many]
  | cons y l ih => have := y.ht; simp only [many, List.length_cons]; omega
theorem gat_snoc : ∀ (l : List Sp) (x y : Sp), gat (l ++ [y]) x = if (gat l x).f ≤ y.t + 1 ∧ y.f ≤ (gat l x).t + 1 then mrg y (gat l x) else gat l x
  | [], _, _ => rfl
  | z :: l, x, y => by
    rw [List.cons_append]
    show (if x.f ≤ z.t + 1 ∧ z.f ≤ x.t + 1 then gat (l ++ [y]) (mrg z x) else gat (l ++ [y]) x) = _
    by_cases h : x.f ≤ z.t + 1 ∧ z.f ≤ x.t + 1
    · rw [if_pos h, gat_snoc l (mrg z x) y]
      have e : gat (z :: l) x = gat l (mrg z x) := by
        show (if x.f ≤ z.t + 1 ∧ z.f ≤ x.t + 1 then gat l (mrg z x) else gat l x) = _
        rw [if_pos h]
      rw [e]
    · rw [if_neg h, gat_snoc l x y]
      have e : gat (z :: l) x = gat l x := by
        show (if x.f ≤ z.t + 1 ∧ z.f ≤ x.t + 1 then gat l (mrg z x) else gat l x) = _
        rw [if_neg h]
      rw [e]
theorem gat_ok : ∀ {l : List Sp} {x : Sp}, (∀ y ∈ l, Ok y) → Ok x → Ok (gat l x)
  | [], _, _, hx => hx
  | y :: l, x, h, hx => by
    unfold gat
    split
    · exact gat_ok (fun z hz => h z (by simp [hz])) (mrg_ok hx (h y (by simp)))
    · exact gat_ok (fun z hz => h z (by simp [hz])) hx
theorem del_snoc (l : List Sp) (y x : Sp) : del (l ++ [y]) x = del l x ++ rem y x := by
  induction l with
  | nil => simp [del]
  | cons z l ih => simp only [List.cons_append, del, ih, List.append_assoc]
theorem both_snoc : ∀ (b a : List Sp) (x : Sp), both a (b ++ [x]) = ins (both a b) x
  | [], _, _ => rfl
  | y :: b, a, x => both_snoc b (ins a y) x
theorem left_snoc : ∀ (b a : List Sp) (x : Sp), left a (b ++ [x]) = del (left a b) x
  | [], _, _ => rfl
  | y :: b, a, x => left_snoc b (del a y) x
theorem both_len : ∀ (b a : List Sp), (both a b).length ≤ a.length + b.length
  | [], _ => by simp [both]
  | x :: b, a => by have h1 := both_len b (ins a x); have h2 := ins_len a x; simp only [both, List.length_cons]; omega
theorem del_len1 : ∀ {l : List Sp} {x : Sp}, Fine l → Ok x → (del l x).length ≤ l.length + 1
  | [], _, _, _ => by simp [del]
  | y :: l, x, h, hx => by
    unfold del
    rw [List.length_append, List.length_cons]
    have h1 := del_len1 h.tail hx
    have h2 := rem_len y x
    by_cases g : x.t < y.t
    · -- what is behind is untouched
      have e : del l x = l := by
        have : ∀ {m : List Sp}, (∀ z ∈ m, x.t < z.f) → del m x = m := by
          intro m
          induction m with
          | nil => intro _; rfl
          | cons z m ih =>
            intro hm
            have hz := hm z (by simp)
            have e1 : rem z x = [z] := by unfold rem; rw [if_pos (.inr hz)]
            show rem z x ++ del m x = z :: m
            rw [e1, ih (fun u hu => hm u (by simp [hu]))]
            rfl
        exact this (fun z hz => by have := h.far z hz; omega)
      rw [e]
      omega
    · have h3 : (rem y x).length ≤ 1 := by
        unfold rem
        split
        · simp
        · split <;> simp
      omega
theorem left_len : ∀ {b a : List Sp}, Fine a → (∀ x ∈ b, Ok x) → (left a b).length ≤ a.length + b.length
  | [], _, _, _ => by simp [left]
  | x :: b, a, h, hb => by
    have hx := hb x (by simp)
    have h1 := left_len (b := b) (del_fine h hx) (fun y hy => hb y (by simp [hy]))
    have h2 := del_len1 h hx
    simp only [left, List.length_cons]
    omega
end Go.Proofs.Ytinglfhndlklaaa.Spans
