/- The bytes of a number, and the number that bytes begin with, as plain functions of lists; what is written is read back, and what is read is written as just these bytes. Conditions: numbers up to 2^40. -/
import Derived.WalkLawsBesides
namespace Go.Proofs.Ytmjdpmkkcakbdaa.Num

/-- The bytes of a number, with at most f + 1 of them. -/
def encF : Nat → Nat → List UInt8
  | 0, n => [UInt8.ofNat n]
  | f + 1, n => if n < 128 then [UInt8.ofNat n] else UInt8.ofNat (n % 128 + 128) :: encF f (n / 128)

def enc (n : Nat) : List UInt8 := encF 5 n

def most : Nat := 1099511627776

/-- Reading on: f bytes may follow; n and u are what was read and its weight, k how many bytes. -/
def dec : Nat → List UInt8 → Nat → Nat → Nat → Nat × Nat × Nat
  | 0, _, _, _, _ => (0, 0, 8)
  | _ + 1, [], _, _, _ => (0, 0, 8)
  | f + 1, c :: l, n, u, k =>
    if c.toNat < 128 then (if most < n + c.toNat % 128 * u ∨ (k ≠ 0 ∧ c = 0) then (0, 0, 8) else (n + c.toNat % 128 * u, k + 1, 0))
    else dec f l (n + c.toNat % 128 * u) (u * 128) (k + 1)

def get (l : List UInt8) : Nat × Nat × Nat := dec 6 l 0 1 0

/-- What Get answers, as a value. -/
def ans (r : Nat × Nat × Nat) : Go.Value := .tuple #[.int .i64 (r.1 : Int), .int .i64 (r.2.1 : Int), .int .i64 (r.2.2 : Int)]

theorem encF_small (f n : Nat) (h : n < 128) : encF f n = [UInt8.ofNat n] := by
  cases f <;> simp [encF, h]
theorem encF_big (f n : Nat) (h : ¬ n < 128) : encF (f + 1) n = UInt8.ofNat (n % 128 + 128) :: encF f (n / 128) := by
  simp [encF, h]

theorem dec_end (f : Nat) (n u k : Nat) : dec f [] n u k = (0, 0, 8) := by cases f <;> rfl
theorem dec_last (f : Nat) (c : UInt8) (l : List UInt8) (n u k : Nat) (h : c.toNat < 128) :
    dec (f + 1) (c :: l) n u k = if most < n + c.toNat % 128 * u ∨ (k ≠ 0 ∧ c = 0) then (0, 0, 8) else (n + c.toNat % 128 * u, k + 1, 0) := by
  simp [dec, h]
theorem dec_on (f : Nat) (c : UInt8) (l : List UInt8) (n u k : Nat) (h : ¬ c.toNat < 128) :
    dec (f + 1) (c :: l) n u k = dec f l (n + c.toNat % 128 * u) (u * 128) (k + 1) := by
  simp [dec, h]

theorem encF_len (f n : Nat) : 1 ≤ (encF f n).length ∧ (encF f n).length ≤ f + 1 := by
  induction f generalizing n with
  | zero => simp [encF]
  | succ f ih =>
    by_cases h : n < 128
    · simp [encF, h]
    · have := ih (n / 128)
      simp [encF, h]; omega

theorem encF_mono (f n m : Nat) (h : n ≤ m) : (encF f n).length ≤ (encF f m).length := by
  induction f generalizing n m with
  | zero => simp [encF]
  | succ f ih =>
    by_cases hn : n < 128
    · have := (encF_len (f + 1) m).1
      simp [encF_small _ _ hn]; omega
    · have hm : ¬ m < 128 := by omega
      have := ih (n / 128) (m / 128) (Nat.div_le_div_right h)
      simp [encF_big _ _ hn, encF_big _ _ hm]; omega

theorem toNat_ofNat (n : Nat) (h : n < 256) : (UInt8.ofNat n).toNat = n := by simp; omega

/-- What is written is read back, whatever stands behind. -/
theorem dec_encF (f : Nat) (m : Nat) (t : List UInt8) (n u k : Nat) (hm : m < 128 ^ (f + 1)) (hb : n + m * u ≤ most) (hk : k = 0 ∨ m ≠ 0) :
    dec (f + 1) (encF f m ++ t) n u k = (n + m * u, k + (encF f m).length, 0) := by
  induction f generalizing m n u k with
  | zero =>
    have h1 : m < 128 := by simpa using hm
    have h2 := toNat_ofNat m (by omega)
    rw [encF, List.cons_append, List.nil_append, dec_last _ _ _ _ _ _ (by omega), h2, Nat.mod_eq_of_lt h1, if_neg]
    · rfl
    · intro h
      rcases h with h | ⟨h, h'⟩
      · omega
      · rw [h'] at h2; simp at h2; omega
  | succ f ih =>
    by_cases h1 : m < 128
    · have h2 := toNat_ofNat m (by omega)
      rw [encF_small _ _ h1, List.cons_append, List.nil_append, dec_last _ _ _ _ _ _ (by omega), h2, Nat.mod_eq_of_lt h1, if_neg]
      · rfl
      · intro h
        rcases h with h | ⟨h, h'⟩
        · omega
        · rw [h'] at h2; simp at h2; omega
    · have h2 := toNat_ofNat (m % 128 + 128) (by omega)
      have h3 : m % 128 * u + m / 128 * (u * 128) = m * u := by
        have : (m % 128 + 128 * (m / 128)) * u = m * u := by rw [Nat.mod_add_div]
        rw [Nat.add_mul] at this
        rw [← this, Nat.mul_comm u 128, ← Nat.mul_assoc, Nat.mul_comm (m / 128) 128]
      rw [encF_big _ _ h1, List.cons_append, dec_on _ _ _ _ _ _ (by omega), h2, show (m % 128 + 128) % 128 = m % 128 by omega, ih]
      · rw [Nat.add_assoc, h3]
        simp only [List.length_cons, Prod.mk.injEq, and_true, true_and]
        omega
      · rw [Nat.pow_succ] at hm; omega
      · omega
      · right; omega

theorem most_lt : most < 128 ^ 6 := by decide

theorem get_enc (n : Nat) (h : n ≤ most) (t : List UInt8) : get (enc n ++ t) = (n, (enc n).length, 0) := by
  have := dec_encF 5 n t 0 1 0 (Nat.lt_of_le_of_lt h most_lt) (by omega) (.inl rfl)
  simpa [get, enc] using this

/-- What reading answers: a refusal, or a number whose bytes these are. -/
theorem dec_cases (f : Nat) (l : List UInt8) (n u k : Nat) :
    dec f l n u k = (0, 0, 8) ∨ ∃ (m j : Nat) (t : List UInt8), dec f l n u k = (n + m * u, k + j, 0) ∧ n + m * u ≤ most ∧ (k = 0 ∨ m ≠ 0) ∧ j = (encF (f - 1) m).length ∧ l = encF (f - 1) m ++ t ∧ m < 128 ^ f := by
  induction f generalizing l n u k with
  | zero => exact .inl rfl
  | succ f ih =>
    cases l with
    | nil => exact .inl (dec_end _ _ _ _)
    | cons c l =>
      by_cases h : c.toNat < 128
      · rw [dec_last _ _ _ _ _ _ h]
        split
        · exact .inl rfl
        · rename_i hn
          right
          have hc : UInt8.ofNat c.toNat = c := by simp
          refine ⟨c.toNat, 1, l, by rw [Nat.mod_eq_of_lt h], by rw [Nat.mod_eq_of_lt h] at hn; omega, ?_, ?_, ?_, ?_⟩
          · by_cases hk : k = 0
            · exact .inl hk
            · right
              intro h0
              exact hn (.inr ⟨hk, by rw [← hc, h0]; rfl⟩)
          · rw [encF_small _ _ h]; rfl
          · rw [encF_small _ _ h, hc]; rfl
          · have : 1 ≤ 128 ^ f := Nat.one_le_pow _ _ (by omega)
            rw [Nat.pow_succ]; omega
      · rw [dec_on _ _ _ _ _ _ h]
        rcases ih l (n + c.toNat % 128 * u) (u * 128) (k + 1) with h0 | ⟨m, j, t, h1, h2, h3, h4, h5, h6⟩
        · exact .inl h0
        · right
          have hm : m ≠ 0 := by omega
          have hf : f ≠ 0 := by
            intro h0; subst h0; simp at h6; omega
          obtain ⟨g, rfl⟩ : ∃ g, f = g + 1 := ⟨f - 1, by omega⟩
          have hlt := c.toNat_lt
          have e1 : c.toNat % 128 * u + m * (u * 128) = (c.toNat % 128 + 128 * m) * u := by
            rw [Nat.add_mul, Nat.mul_comm u 128, ← Nat.mul_assoc, Nat.mul_comm m 128]
          have hb : ¬ c.toNat % 128 + 128 * m < 128 := by omega
          have e2 : (c.toNat % 128 + 128 * m) % 128 + 128 = c.toNat := by omega
          have e3 : (c.toNat % 128 + 128 * m) / 128 = m := by omega
          have hc : UInt8.ofNat c.toNat = c := by simp
          refine ⟨c.toNat % 128 + 128 * m, j + 1, t, ?_, ?_, .inr (by omega), ?_, ?_, ?_⟩
          · rw [h1, Nat.add_assoc, e1]
            simp only [Prod.mk.injEq, true_and, and_true]; omega
          · rw [Nat.add_assoc, e1] at h2; exact h2
          · rw [show g + 1 + 1 - 1 = g + 1 by omega, encF_big _ _ hb, e3]
            simp at h4
            simp [h4]
          · rw [show g + 1 + 1 - 1 = g + 1 by omega, encF_big _ _ hb, e3, e2, hc]
            simp at h5
            simp [h5]
          · rw [Nat.pow_succ]; omega

theorem get_cases (l : List UInt8) : get l = (0, 0, 8) ∨ ∃ (m : Nat) (t : List UInt8), get l = (m, (enc m).length, 0) ∧ m ≤ most ∧ l = enc m ++ t := by
  rcases dec_cases 6 l 0 1 0 with h | ⟨m, j, t, h1, h2, _, h4, h5, _⟩
  · exact .inl h
  · right
    refine ⟨m, t, ?_, by omega, h5⟩
    rw [get, h1, h4]; simp [enc]

/-- A beginning of a number's bytes, but all of them, is no number. -/
theorem dec_take (f : Nat) (m k : Nat) (n u i : Nat) (hk : k < (encF f m).length) : dec (f + 1) ((encF f m).take k) n u i = (0, 0, 8) := by
  induction f generalizing m k n u i with
  | zero =>
    have : k = 0 := by simp [encF] at hk; omega
    subst this; rfl
  | succ f ih =>
    by_cases h1 : m < 128
    · rw [encF_small _ _ h1] at hk ⊢
      have : k = 0 := by simp at hk; omega
      subst this; rfl
    · rw [encF_big _ _ h1] at hk ⊢
      cases k with
      | zero => rfl
      | succ k =>
        have h2 := toNat_ofNat (m % 128 + 128) (by omega)
        rw [List.take_succ_cons, dec_on _ _ _ _ _ _ (by omega)]
        exact ih _ _ _ _ _ (by simpa using hk)

theorem get_take (n k : Nat) (hk : k < (enc n).length) : get ((enc n).take k) = (0, 0, 8) := dec_take 5 n k 0 1 0 hk
end Go.Proofs.Ytmjdpmkkcakbdaa.Num
