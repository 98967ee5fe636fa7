/- Frames of bytes, as plain functions of lists: what is a frame, which bytes it has, and that what is turned, cut or grown is none. Conditions: bodies of up to 16384 bytes. -/
import Derived.Test.YtmjdpmkkcakbdaaNumMath
import Derived.Test.YtmjdpmkkcakbdaaCrcMath
namespace Go.Proofs.Ytmjdpmkkcakbdaa.Frame
open Num Crc

/-- The four bytes of a number, the lowest first. -/
def le4 (s : Nat) : List UInt8 := [UInt8.ofNat (s % 256), UInt8.ofNat (s / 256 % 256), UInt8.ofNat (s / 65536 % 256), UInt8.ofNat (s / 16777216)]
/-- All but the sum. -/
def pre (b : List UInt8) : List UInt8 := 70 :: (enc b.length ++ b)
def framed (b : List UInt8) : List UInt8 := pre b ++ le4 (sumT entry (pre b))
/-- Bytes are a frame of a body that isn't too long. -/
def IsFrame (f : List UInt8) : Prop := ∃ b : List UInt8, b.length ≤ 16384 ∧ f = framed b

theorem le4_len (s : Nat) : (le4 s).length = 4 := rfl
theorem pre_len (b : List UInt8) : (pre b).length = 1 + (enc b.length).length + b.length := by simp [pre]; omega
theorem framed_len (b : List UInt8) : (framed b).length = 1 + (enc b.length).length + b.length + 4 := by simp [framed, pre_len, le4_len]
theorem enc_len (n : Nat) : 1 ≤ (enc n).length ∧ (enc n).length ≤ 6 := encF_len 5 n
theorem framed_cons (b : List UInt8) (r : List UInt8) : framed b ++ r = 70 :: (enc b.length ++ (b ++ le4 (sumT entry (pre b)) ++ r)) := by simp [framed, pre]
theorem get_framed (b r : List UInt8) (h : b.length ≤ 16384) : get (enc b.length ++ (b ++ le4 (sumT entry (pre b)) ++ r)) = (b.length, (enc b.length).length, 0) := get_enc _ (by unfold Num.most; omega) _

/-- Where a frame begins with a frame, both are one. -/
theorem framed_begins {a b : List UInt8} {r : List UInt8} (ha : a.length ≤ 16384) (hb : b.length ≤ 16384) (h : framed a = framed b ++ r) : r = [] ∧ a = b := by
  have h1 : framed a ++ [] = framed b ++ r := by rw [List.append_nil]; exact h
  rw [framed_cons, framed_cons] at h1
  have h2 : get (enc a.length ++ (a ++ le4 (sumT entry (pre a)) ++ [])) = get (enc b.length ++ (b ++ le4 (sumT entry (pre b)) ++ r)) := by rw [(List.cons.inj h1).2]
  rw [get_framed a [] ha, get_framed b r hb] at h2
  have hl : a.length = b.length := (Prod.mk.inj h2).1
  have h3 := (List.cons.inj h1).2
  rw [hl] at h3
  have h4 := List.append_cancel_left h3
  have h5 : a = b := by
    rw [List.append_assoc, List.append_assoc] at h4
    exact (List.append_inj h4 hl).1
  subst h5
  have h6 : r.length = 0 := by
    have := congrArg List.length h
    rw [List.length_append] at this
    omega
  exact ⟨List.length_eq_zero_iff.1 h6, rfl⟩
theorem framed_inj {a b : List UInt8} (ha : a.length ≤ 16384) (hb : b.length ≤ 16384) (h : framed a = framed b) : a = b := (framed_begins (r := []) ha hb (by rw [List.append_nil]; exact h)).2

theorem no_more {a r : List UInt8} (ha : a.length ≤ 16384) (hr : r ≠ []) : ¬ IsFrame (framed a ++ r) := by
  rintro ⟨b, hb, h⟩
  exact hr (framed_begins hb ha h.symm).1
theorem no_less {a : List UInt8} (ha : a.length ≤ 16384) {k : Nat} (hk : k < (framed a).length) : ¬ IsFrame ((framed a).take k) := by
  rintro ⟨b, hb, h⟩
  have h1 := List.take_append_drop k (framed a)
  rw [h] at h1
  have h2 := (framed_begins ha hb h1.symm).1
  have : ((framed a).drop k).length = 0 := by rw [h2]; rfl
  simp at this
  omega
theorem sum_framed (a : List UInt8) : sumT entry (framed a) = 558161692 := own_sum (pre a) _ rfl

/-! What tells that bytes are no frame, in the order of asking. -/
theorem no_nil : ¬ IsFrame [] := by
  rintro ⟨b, _, h⟩
  have := congrArg List.length h
  rw [framed_len] at this
  simp at this
theorem frame_cons {c : UInt8} {t : List UInt8} (h : IsFrame (c :: t)) : c = 70 ∧ ∃ b : List UInt8, b.length ≤ 16384 ∧ c :: t = framed b ∧ get t = (b.length, (enc b.length).length, 0) := by
  obtain ⟨b, hb, h⟩ := h
  have h1 : c :: t = framed b ++ [] := by rw [List.append_nil]; exact h
  rw [framed_cons] at h1
  refine ⟨(List.cons.inj h1).1, b, hb, h, ?_⟩
  rw [(List.cons.inj h1).2]
  exact get_framed b [] hb

/-- Bytes that begin with 70, a length that may be, and have as many behind it, and four more. -/
def Shaped (f x s : List UInt8) : Prop := x.length ≤ 16384 ∧ s.length = 4 ∧ f = pre x ++ s
theorem shaped_frame {f x s : List UInt8} (h : Shaped f x s) : IsFrame f ↔ s = le4 (sumT entry (pre x)) := by
  obtain ⟨h1, h2, rfl⟩ := h
  constructor
  · rintro ⟨b, hb, h⟩
    have e1 : pre x ++ s = 70 :: (enc x.length ++ (x ++ s)) := by simp [pre]
    have e2 := h
    rw [e1] at e2
    have hf : IsFrame (70 :: (enc x.length ++ (x ++ s))) := ⟨b, hb, e2⟩
    obtain ⟨_, b', hb', e3, e4⟩ := frame_cons hf
    rw [get_enc _ (by unfold Num.most; omega)] at e4
    have hl : x.length = b'.length := (Prod.mk.inj e4).1
    have e5 : 70 :: (enc x.length ++ (x ++ s)) = framed b' ++ [] := by rw [List.append_nil]; exact e3
    rw [framed_cons, ← hl] at e5
    have e6 := List.append_cancel_left (List.cons.inj e5).2
    rw [List.append_nil] at e6
    obtain ⟨e7, e8⟩ := List.append_inj e6 hl
    rw [e8, e7]
  · intro h
    exact ⟨x, h1, by rw [h]; rfl⟩
/-- The bytes behind the first one, as they are read. -/
theorem shaped_of {t : List UInt8} {m : Nat} {r : List UInt8} (ht : t = enc m ++ r) (hm : m ≤ 16384) (hl : 1 + (enc m).length + m + 4 = (70 :: t).length) : Shaped (70 :: t) (r.take m) (r.drop m) := by
  subst ht
  simp at hl
  refine ⟨by simp; omega, by simp; omega, ?_⟩
  have e : (r.take m).length = m := by simp; omega
  unfold pre
  rw [e, List.cons_append, List.append_assoc, List.take_append_drop]
theorem not_shaped {t : List UInt8} {m k : Nat} (hg : get t = (m, k, 0)) (h : 16384 < m ∨ 1 + k + m + 4 ≠ (70 :: t).length) : ¬ IsFrame (70 :: t) := by
  intro hf
  obtain ⟨_, b, hb, e, hg2⟩ := frame_cons hf
  rw [hg] at hg2
  obtain ⟨rfl, h2⟩ := Prod.mk.inj hg2
  obtain ⟨rfl, _⟩ := Prod.mk.inj h2
  rcases h with h | h
  · omega
  · rw [e, framed_len] at h
    omega
theorem not_read {t : List UInt8} {c : UInt8} (hg : get t = (0, 0, 8)) : ¬ IsFrame (c :: t) := by
  intro hf
  obtain ⟨_, b, hb, e, hg2⟩ := frame_cons hf
  rw [hg] at hg2
  have h2 := (Prod.mk.inj (Prod.mk.inj hg2).2).2
  omega
theorem not_first {t : List UInt8} {c : UInt8} (h : c ≠ 70) : ¬ IsFrame (c :: t) := fun hf => h (frame_cons hf).1

/-- What bytes are, as they are asked. -/
theorem asked (f : List UInt8) : f = [] ∨ (∃ c t, f = c :: t ∧ c ≠ 70) ∨ (∃ t, f = 70 :: t ∧ get t = (0, 0, 8)) ∨
    (∃ t m, f = 70 :: t ∧ get t = (m, (enc m).length, 0) ∧ m ≤ Num.most ∧ (16384 < m ∨ 1 + (enc m).length + m + 4 ≠ f.length)) ∨
    (∃ t x s, f = 70 :: t ∧ get t = (x.length, (enc x.length).length, 0) ∧ Shaped f x s) := by
  cases f with
  | nil => exact .inl rfl
  | cons c t =>
    by_cases hc : c = 70
    · subst hc
      rcases get_cases t with hg | ⟨m, r, hg, hm, ht⟩
      · exact .inr (.inr (.inl ⟨t, rfl, hg⟩))
      · by_cases h : 16384 < m ∨ 1 + (enc m).length + m + 4 ≠ (70 :: t).length
        · exact .inr (.inr (.inr (.inl ⟨t, m, rfl, hg, hm, h⟩)))
        · have h1 : ¬ 16384 < m := fun h' => h (.inl h')
          have h2 : 1 + (enc m).length + m + 4 = (70 :: t).length := Classical.not_not.1 fun h' => h (.inr h')
          have e : (r.take m).length = m := by
            have := congrArg List.length ht
            simp at h2 this
            simp; omega
          refine .inr (.inr (.inr (.inr ⟨t, r.take m, r.drop m, rfl, ?_, shaped_of ht (by omega) h2⟩)))
          rw [e]; exact hg
    · exact .inr (.inl ⟨c, t, rfl, hc⟩)
theorem shaped_len {f x s : List UInt8} (h : Shaped f x s) : f.length = 1 + (enc x.length).length + x.length + 4 := by
  obtain ⟨_, h2, rfl⟩ := h
  rw [List.length_append, pre_len, h2]
theorem shaped_take {f x s : List UInt8} (h : Shaped f x s) : f.take (1 + (enc x.length).length + x.length) = pre x := by
  obtain ⟨_, h2, rfl⟩ := h
  rw [← pre_len]
  exact List.take_left
theorem shaped_drop {f x s : List UInt8} (h : Shaped f x s) : f.drop (1 + (enc x.length).length + x.length) = s := by
  obtain ⟨_, h2, rfl⟩ := h
  rw [← pre_len]
  exact List.drop_left
theorem shaped_body {f x s : List UInt8} (h : Shaped f x s) : (f.drop (1 + (enc x.length).length)).take x.length = x := by
  obtain ⟨_, h2, rfl⟩ := h
  have e : pre x ++ s = (70 :: enc x.length) ++ (x ++ s) := by simp [pre]
  rw [e, show 1 + (enc x.length).length = (70 :: enc x.length).length by simp; omega, List.drop_left, List.take_left]
end Go.Proofs.Ytmjdpmkkcakbdaa.Frame
