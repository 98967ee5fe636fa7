/- Sets of times, cut off below a time; two of them gone through side by side, stretch by stretch. Conditions: the spans may be. -/
import Derived.Test.YtinglfhndlklaaaSpanMath2
namespace Go.Proofs.Ytinglfhndlklaaa.Spans

/-- The set, cut off below a time. -/
def low : List Sp → Nat → List Sp
  | [], _ => []
  | x :: l, n => if x.t < n then x :: low l n else if x.f < n then [mk x.f (n - 1)] else []
theorem low_len : ∀ (l : List Sp) (n : Nat), (low l n).length ≤ l.length
  | [], _ => Nat.le_refl _
  | x :: l, n => by
    have := low_len l n
    unfold low
    by_cases h1 : x.t < n
    · rw [if_pos h1]; simp; omega
    · rw [if_neg h1]
      by_cases h2 : x.f < n
      · rw [if_pos h2]; simp
      · rw [if_neg h2]; simp
theorem low_from : ∀ {l : List Sp} {n : Nat} {y : Sp}, y ∈ low l n → ∃ z ∈ l, z.f = y.f
  | [], _, y, h => by simp [low] at h
  | x :: l, n, y, h => by
    unfold low at h
    by_cases h1 : x.t < n
    · rw [if_pos h1, List.mem_cons] at h
      rcases h with rfl | h
      · exact ⟨y, by simp, rfl⟩
      · obtain ⟨z, h2, h3⟩ := low_from h
        exact ⟨z, by simp [h2], h3⟩
    · rw [if_neg h1] at h
      by_cases h2 : x.f < n
      · rw [if_pos h2, List.mem_singleton] at h
        subst h
        exact ⟨x, by simp, (mk_f x.hf).symm⟩
      · rw [if_neg h2] at h; simp at h
theorem low_fine : ∀ {l : List Sp} (n : Nat), Fine l → Fine (low l n)
  | [], _, _ => trivial
  | x :: l, n, h => by
    have hx := h.head
    have hxt := x.ht
    have hxf := x.hf
    unfold Ok at hx
    unfold low
    by_cases h1 : x.t < n
    · rw [if_pos h1]
      refine Fine.cons h.head (low_fine n h.tail) (fun y hy => ?_)
      obtain ⟨z, h2, h3⟩ := low_from hy
      have := h.far z h2
      omega
    · rw [if_neg h1]
      by_cases h2 : x.f < n
      · rw [if_pos h2]
        show Ok _
        unfold Ok
        rw [mk_f hxf, mk_t (by omega)]
        omega
      · rw [if_neg h2]; trivial
theorem in_low : ∀ {l : List Sp} (n : Nat), Fine l → ∀ m, In (low l n) m ↔ In l m ∧ m < n
  | [], _, _, m => by simp [low, in_nil]
  | x :: l, n, h, m => by
    have hx := h.head
    have hxt := x.ht
    have hxf := x.hf
    unfold Ok at hx
    have ih := in_low n h.tail m
    have hf : In l m → x.t + 2 ≤ m := fun h3 => in_far h h3
    unfold low
    by_cases h1 : x.t < n
    · rw [if_pos h1, in_cons, in_cons, ih]
      constructor
      · rintro (h2 | h2)
        · exact ⟨.inl h2, by omega⟩
        · exact ⟨.inr h2.1, h2.2⟩
      · rintro ⟨h2 | h2, h3⟩
        · exact .inl h2
        · exact .inr ⟨h2, h3⟩
    · rw [if_neg h1]
      by_cases h2 : x.f < n
      · rw [if_pos h2, in_cons, in_cons, mk_f hxf, mk_t (by omega)]
        constructor
        · rintro (h3 | h3)
          · exact ⟨.inl (by omega), by omega⟩
          · exact absurd h3 (in_nil _)
        · rintro ⟨h3 | h3, h4⟩
          · exact .inl (by omega)
          · have := hf h3; omega
      · rw [if_neg h2, in_cons]
        constructor
        · intro h3; exact absurd h3 (in_nil _)
        · rintro ⟨h3 | h3, h4⟩
          · omega
          · have := hf h3; omega
theorem low_all {l : List Sp} (h : Fine l) : low l 1073741825 = l := by
  refine uniq (low_fine _ h) h (fun m => ?_)
  rw [in_low _ h]
  constructor
  · exact fun h1 => h1.1
  · intro h1
    have := in_bound h h1
    exact ⟨h1, by omega⟩
theorem low_one {l : List Sp} (h : Fine l) : low l 1 = [] := by
  refine uniq (low_fine _ h) (by trivial) (fun m => ?_)
  rw [in_low _ h]
  constructor
  · rintro ⟨h1, h2⟩
    have := in_bound h h1
    omega
  · intro h1; exact absurd h1 (in_nil _)
theorem low_t {l : List Sp} (h : Fine l) {n : Nat} : ∀ x ∈ low l n, x.t < n := by
  intro x hx
  have h1 := (low_fine n h).all x hx
  unfold Ok at h1
  have h2 : In (low l n) x.t := ⟨x, hx, by omega, Nat.le_refl _⟩
  exact ((in_low n h x.t).1 h2).2

/-! ### A stretch behind spans -/

def wth : List Sp → Sp → List Sp
  | [], s => [s]
  | [x], s => if x.t + 1 = s.f then [mk x.f s.t] else [x, s]
  | x :: y :: l, s => x :: wth (y :: l) s
theorem wth_snoc : ∀ (l : List Sp) (x s : Sp), wth (l ++ [x]) s = if x.t + 1 = s.f then l ++ [mk x.f s.t] else l ++ [x] ++ [s]
  | [], x, s => rfl
  | [y], x, s => by
    show y :: wth ([] ++ [x]) s = _
    rw [wth_snoc [] x s]
    split <;> rfl
  | y :: z :: l, x, s => by
    show y :: wth ((z :: l) ++ [x]) s = _
    rw [wth_snoc (z :: l) x s]
    split <;> rfl
theorem nil_or_snoc {α : Type} (l : List α) : l = [] ∨ ∃ m x, l = m ++ [x] := by
  rcases List.eq_nil_or_concat l with h | ⟨m, x, h⟩
  · exact .inl h
  · exact .inr ⟨m, x, by rw [h, List.concat_eq_append]⟩
theorem fine_last : ∀ {l : List Sp} {x : Sp}, Fine (l ++ [x]) → ∀ a ∈ l, a.t + 2 ≤ x.f
  | [], _, _, a, ha => by simp at ha
  | y :: l, x, h, a, ha => by
    rw [List.cons_append] at h
    rw [List.mem_cons] at ha
    rcases ha with rfl | ha
    · exact h.far x (by simp)
    · exact fine_last h.tail a ha
theorem fine_snoc_ok {l : List Sp} {x : Sp} (h : Fine (l ++ [x])) : Ok x := h.all x (by simp)
theorem wth_fine {l : List Sp} {s : Sp} (h : Fine l) (hs : Ok s) (hb : ∀ x ∈ l, x.t < s.f) : Fine (wth l s) := by
  rcases nil_or_snoc l with rfl | ⟨m, x, rfl⟩
  · exact hs
  · rw [wth_snoc]
    have hx := fine_snoc_ok h
    have hl := fine_last h
    have hm := fine_front h
    have h1 := hb x (by simp)
    have g1 := x.hf
    have g2 := s.ht
    unfold Ok at hx hs
    by_cases h2 : x.t + 1 = s.f
    · rw [if_pos h2]
      refine fine_append hm (show Ok _ from ?_) (fun a ha b hb' => ?_)
      · unfold Ok; rw [mk_f g1, mk_t g2]; omega
      · rw [List.mem_singleton] at hb'
        subst hb'
        rw [mk_f g1]
        exact hl a ha
    · rw [if_neg h2]
      refine fine_append h hs (fun a ha b hb' => ?_)
      rw [List.mem_singleton] at hb'
      subst hb'
      rw [List.mem_append, List.mem_singleton] at ha
      rcases ha with ha | rfl
      · have := hl a ha; omega
      · omega
theorem in_wth {l : List Sp} {s : Sp} (h : Fine l) (hs : Ok s) (n : Nat) : In (wth l s) n ↔ In l n ∨ (s.f ≤ n ∧ n ≤ s.t) := by
  have h0 := in_nil n
  rcases nil_or_snoc l with rfl | ⟨m, x, rfl⟩
  · show In [s] n ↔ _
    rw [in_cons]
    constructor
    · rintro (h1 | h1)
      · exact .inr h1
      · exact absurd h1 h0
    · rintro (h1 | h1)
      · exact absurd h1 h0
      · exact .inl h1
  · rw [wth_snoc]
    have hx := fine_snoc_ok h
    have g1 := x.hf
    have g2 := s.ht
    unfold Ok at hx hs
    by_cases h2 : x.t + 1 = s.f
    · rw [if_pos h2, in_append, in_append, in_cons, in_cons, mk_f g1, mk_t g2]
      constructor
      · rintro (h3 | h3 | h3)
        · exact .inl (.inl h3)
        · by_cases h4 : n ≤ x.t
          · exact .inl (.inr (.inl ⟨h3.1, h4⟩))
          · exact .inr (by omega)
        · exact absurd h3 h0
      · rintro ((h3 | h3 | h3) | h3)
        · exact .inl h3
        · exact .inr (.inl (by omega))
        · exact absurd h3 h0
        · exact .inr (.inl (by omega))
    · rw [if_neg h2, in_append, in_cons]
      constructor
      · rintro (h3 | h3 | h3)
        · exact .inl h3
        · exact .inr h3
        · exact absurd h3 h0
      · rintro (h3 | h3)
        · exact .inl h3
        · exact .inr (.inl h3)
theorem wth_len (l : List Sp) (s : Sp) : (wth l s).length ≤ l.length + 1 := by
  rcases nil_or_snoc l with rfl | ⟨m, x, rfl⟩
  · simp [wth]
  · rw [wth_snoc]; split <;> simp

/-! ### What is ahead of a time no more -/

def upf : List Sp → Nat → List Sp
  | [], _ => []
  | x :: l, n => if x.t < n then l else x :: l
def nxt : List Sp → Nat → Bool × Nat
  | [], _ => (false, 1073741824)
  | x :: _, n => if n < x.f then (false, x.f - 1) else (true, x.t)
theorem upf_cons (x : Sp) (l : List Sp) (n : Nat) : upf (x :: l) n = if x.t < n then l else x :: l := rfl
theorem nxt_cons (x : Sp) (l : List Sp) (n : Nat) : nxt (x :: l) n = if n < x.f then (false, x.f - 1) else (true, x.t) := rfl
/-- What of spans is left where all below a time has come: the last one that came may still be there. -/
def Rest (l p : List Sp) (n : Nat) : Prop := Fine p ∧ (∀ m, n ≤ m → (In l m ↔ In p m)) ∧ ∀ x ∈ p, n ≤ x.t + 1
def Rest1 (l p : List Sp) (n : Nat) : Prop := Fine p ∧ (∀ m, n ≤ m → (In l m ↔ In p m)) ∧ ∀ x ∈ p, n ≤ x.t
theorem rest_all {l : List Sp} (h : Fine l) : Rest l l 1 := ⟨h, fun _ _ => Iff.rfl, fun x hx => by have := h.all x hx; unfold Ok at this; omega⟩
theorem Rest.up {l p : List Sp} {n : Nat} (h : Rest l p n) : Rest1 l (upf p n) n := by
  obtain ⟨h1, h2, h3⟩ := h
  cases p with
  | nil => exact ⟨trivial, h2, fun x hx => by simp [upf] at hx⟩
  | cons x p =>
    have hx := h1.head
    unfold Ok at hx
    have hn := h3 x (by simp)
    rw [upf_cons]
    by_cases g : x.t < n
    · rw [if_pos g]
      refine ⟨h1.tail, fun m hm => ?_, fun y hy => ?_⟩
      · rw [h2 m hm, in_cons]
        constructor
        · rintro (h4 | h4)
          · omega
          · exact h4
        · exact .inr
      · have h4 := h1.far y hy
        have h5 := h1.tail.all y hy
        unfold Ok at h5
        omega
    · rw [if_neg g]
      refine ⟨h1, h2, fun y hy => ?_⟩
      rw [List.mem_cons] at hy
      rcases hy with rfl | hy
      · omega
      · have h4 := h1.far y hy
        have h5 := h1.tail.all y hy
        unfold Ok at h5
        omega
theorem Rest1.next {l p : List Sp} {n : Nat} (h : Rest1 l p n) (hn : n ≤ 1073741824) : n ≤ (nxt p n).2 ∧ (nxt p n).2 ≤ 1073741824 ∧
    (∀ m, n ≤ m → m ≤ (nxt p n).2 → inB l m = (nxt p n).1) ∧ ∀ s, n ≤ s → s ≤ (nxt p n).2 → Rest l p (s + 1) := by
  obtain ⟨h1, h2, h3⟩ := h
  have hin : ∀ m, n ≤ m → (inB l m = true ↔ In p m) := fun m hm => (inB_iff l m).trans (h2 m hm)
  have hno : ∀ m, n ≤ m → ¬ In p m → inB l m = false := fun m hm h => by
    cases hb : inB l m
    · rfl
    · exact absurd ((hin m hm).1 hb) h
  cases p with
  | nil =>
    refine ⟨hn, Nat.le_refl _, fun m hm _ => hno m hm (in_nil m), fun s hs _ => ⟨trivial, fun m hm => h2 m (by omega), fun x hx => by simp at hx⟩⟩
  | cons x p =>
    have hx := h1.head
    unfold Ok at hx
    have hxn := h3 x (by simp)
    have hall : ∀ y ∈ x :: p, x.t ≤ y.t := fun y hy => by
      rw [List.mem_cons] at hy
      rcases hy with rfl | hy
      · exact Nat.le_refl _
      · have h4 := h1.far y hy
        have h5 := h1.tail.all y hy
        unfold Ok at h5
        omega
    rw [nxt_cons]
    by_cases g : n < x.f
    · rw [if_pos g]
      refine ⟨by simp only; omega, by simp only; omega, fun m hm h4 => hno m hm (fun h5 => ?_), fun s hs h4 => ⟨h1, fun m hm => h2 m (by omega), fun y hy => ?_⟩⟩
      · simp only at h4
        rcases in_cons.1 h5 with h6 | h6
        · omega
        · have := in_far h1 h6; omega
      · have := hall y hy
        simp only at h4
        omega
    · rw [if_neg g]
      refine ⟨hxn, hx.2.2, fun m hm h4 => (hin m hm).2 (in_cons.2 (.inl ⟨by omega, h4⟩)), fun s hs h4 => ⟨h1, fun m hm => h2 m (by omega), fun y hy => ?_⟩⟩
      have := hall y hy
      simp only at h4
      omega

/-! ### A stretch of two, chosen by which of them have it -/

/-- The one of two sets is chosen, time by time. -/
def Chosen (ch : Bool → Bool → Bool) (a b r : List Sp) : Prop := Fine r ∧ ∀ m, inB r m = ch (inB a m) (inB b m)
theorem chosen_both {a b : List Sp} (ha : Fine a) (hb : Fine b) : Chosen (fun x y => x || y) a b (both a b) := by
  have h := both_ok ha hb.all
  refine ⟨h.1, fun m => ?_⟩
  rw [Bool.eq_iff_iff, Bool.or_eq_true, inB_iff, inB_iff, inB_iff]
  exact h.2 m
theorem chosen_left {a b : List Sp} (ha : Fine a) (hb : Fine b) : Chosen (fun x y => x && !y) a b (left a b) := by
  have h := left_ok ha hb.all
  refine ⟨h.1, fun m => ?_⟩
  rw [Bool.eq_iff_iff, Bool.and_eq_true, Bool.not_eq_true', inB_iff, inB_iff, h.2 m]
  constructor
  · rintro ⟨h1, h2⟩
    refine ⟨h1, ?_⟩
    cases hc : inB b m
    · rfl
    · exact absurd ((inB_iff b m).1 hc) h2
  · rintro ⟨h1, h2⟩
    refine ⟨h1, fun h3 => ?_⟩
    rw [(inB_iff b m).2 h3] at h2
    cases h2
theorem stretch_yes {ch : Bool → Bool → Bool} {a b r : List Sp} {n s : Nat} {x y : Bool} (h : Chosen ch a b r) (h1 : 1 ≤ n) (hn : n ≤ s) (hs : s ≤ 1073741824)
    (ha : ∀ m, n ≤ m → m ≤ s → inB a m = x) (hb : ∀ m, n ≤ m → m ≤ s → inB b m = y) (hc : ch x y = true) : low r (s + 1) = wth (low r n) (mk n s) := by
  have hk : Ok (mk n s) := by unfold Ok; rw [mk_f (by omega), mk_t (by omega)]; omega
  have hr := h.1
  refine uniq (low_fine _ hr) (wth_fine (low_fine n hr) hk (fun z hz => by rw [mk_f (by omega)]; exact low_t hr z hz)) (fun m => ?_)
  rw [in_low _ hr, in_wth (low_fine n hr) hk, in_low _ hr, mk_f (by omega), mk_t (by omega)]
  constructor
  · rintro ⟨h2, h3⟩
    by_cases h4 : m < n
    · exact .inl ⟨h2, h4⟩
    · exact .inr (by omega)
  · rintro (⟨h2, h3⟩ | h2)
    · exact ⟨h2, by omega⟩
    · refine ⟨(inB_iff r m).1 ?_, by omega⟩
      rw [h.2 m, ha m h2.1 h2.2, hb m h2.1 h2.2, hc]
theorem stretch_no {ch : Bool → Bool → Bool} {a b r : List Sp} {n s : Nat} {x y : Bool} (h : Chosen ch a b r) (hn : n ≤ s)
    (ha : ∀ m, n ≤ m → m ≤ s → inB a m = x) (hb : ∀ m, n ≤ m → m ≤ s → inB b m = y) (hc : ch x y = false) : low r (s + 1) = low r n := by
  have hr := h.1
  refine uniq (low_fine _ hr) (low_fine _ hr) (fun m => ?_)
  rw [in_low _ hr, in_low _ hr]
  constructor
  · rintro ⟨h2, h3⟩
    refine ⟨h2, ?_⟩
    by_cases h4 : m < n
    · exact h4
    · have h5 := (inB_iff r m).2 h2
      rw [h.2 m, ha m (by omega) (by omega), hb m (by omega) (by omega), hc] at h5
      cases h5
  · rintro ⟨h2, h3⟩
    exact ⟨h2, by omega⟩

/-! ### What is left, said of the whole -/
def fil (l : List Sp) (n : Nat) : List Sp := l.filter (fun x => decide (n ≤ x.t))
theorem fil_cons (x : Sp) (l : List Sp) (n : Nat) : fil (x :: l) n = if n ≤ x.t then x :: fil l n else fil l n := by
  unfold fil
  rw [List.filter_cons]
  by_cases h : n ≤ x.t
  · rw [if_pos h, if_pos (by simpa using h)]
  · rw [if_neg h, if_neg (by simpa using h)]
theorem fil_all {l : List Sp} {n : Nat} (h : ∀ x ∈ l, n ≤ x.t) : fil l n = l := filter_all (fun y hy => decide_eq_true (h y hy))
theorem fil_rest : ∀ {l : List Sp} (n : Nat), Fine l → Rest1 l (fil l n) n
  | [], n, _ => ⟨trivial, fun _ _ => Iff.rfl, fun x hx => by simp [fil] at hx⟩
  | x :: l, n, h => by
    have hx := h.head
    unfold Ok at hx
    rw [fil_cons]
    by_cases g : n ≤ x.t
    · rw [if_pos g]
      have hall : ∀ y ∈ l, n ≤ y.t := fun y hy => by
        have h4 := h.far y hy
        have h5 := h.tail.all y hy
        unfold Ok at h5
        omega
      rw [fil_all hall]
      refine ⟨h, fun _ _ => Iff.rfl, fun y hy => ?_⟩
      rw [List.mem_cons] at hy
      rcases hy with rfl | hy
      · exact g
      · exact hall y hy
    · rw [if_neg g]
      obtain ⟨h1, h2, h3⟩ := fil_rest n h.tail
      refine ⟨h1, fun m hm => ?_, h3⟩
      rw [in_cons, ← h2 m hm]
      constructor
      · rintro (h4 | h4)
        · omega
        · exact h4
      · exact .inr
theorem fil_start {l : List Sp} (h : Fine l) : upf l 1 = fil l 1 := by
  rw [fil_all (fun x hx => by have := h.all x hx; unfold Ok at this; omega)]
  cases l with
  | nil => rfl
  | cons x l =>
    have := h.head
    unfold Ok at this
    rw [upf_cons, if_neg (by omega)]
theorem fil_more : ∀ {l : List Sp} {n k : Nat}, n ≤ k → fil (fil l n) k = fil l k
  | [], _, _, _ => rfl
  | x :: l, n, k, h => by
    rw [fil_cons, fil_cons]
    by_cases g : n ≤ x.t
    · rw [if_pos g, fil_cons, fil_more h]
    · rw [if_neg g, if_neg (by omega), fil_more h]
theorem fil_step {l : List Sp} {n s : Nat} (h : Fine l) (hn : n ≤ s) (hs : s ≤ (nxt (fil l n) n).2) : upf (fil l n) (s + 1) = fil l (s + 1) := by
  obtain ⟨h1, _, h3⟩ := fil_rest n h
  rw [← fil_more (l := l) (show n ≤ s + 1 by omega)]
  cases hf : fil l n with
  | nil => rfl
  | cons x p =>
    rw [hf] at h1 h3 hs
    have hx := h1.head
    unfold Ok at hx
    have hxn := h3 x (by simp)
    rw [nxt_cons] at hs
    have hst : s ≤ x.t := by
      by_cases g : n < x.f
      · rw [if_pos g] at hs; simp only at hs; omega
      · rw [if_neg g] at hs; exact hs
    have hp : fil p (s + 1) = p := fil_all (fun y hy => by
      have h4 := h1.far y hy
      have h5 := h1.tail.all y hy
      unfold Ok at h5
      omega)
    rw [upf_cons, fil_cons, hp]
    by_cases g : x.t < s + 1
    · rw [if_pos g, if_neg (by omega)]
    · rw [if_neg g, if_pos (by omega)]
/-- Up to when it stays so of both. -/
def til (a b : List Sp) (n : Nat) : Nat := min (nxt (fil a n) n).2 (nxt (fil b n) n).2
theorem til_low {a b : List Sp} {n : Nat} (ha : Fine a) (hb : Fine b) (hn : n ≤ 1073741824) : n ≤ til a b n ∧ til a b n ≤ 1073741824 := by
  have h1 := (fil_rest n ha).next hn
  have h2 := (fil_rest n hb).next hn
  unfold til
  omega
end Go.Proofs.Ytinglfhndlklaaa.Spans
