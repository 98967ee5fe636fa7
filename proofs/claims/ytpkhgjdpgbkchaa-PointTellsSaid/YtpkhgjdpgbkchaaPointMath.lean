/- Code points and their bytes: plain lists. Conditions: none. -/
import Derived.Test.YtpkhgjdpgbkchaaBytes
import Derived.Lib.DecodeN
import Derived.Lib.RuneBytes
namespace Go.Proofs.Ytpkhgjdpgbkchaa.Point
open Go.RowKit

/-- A code point. -/
def IsPt (n : Int) : Prop := 0 ≤ n ∧ n ≤ 1114111 ∧ (n < 55296 ∨ 57343 < n)
instance (n : Int) : Decidable (IsPt n) := by unfold IsPt; infer_instance
/-- Its bytes. -/
def enc (n : Int) : List UInt8 := Lib.encodeRune n
/-- The bytes of code points, one behind the other. -/
def flat (l : List Int) : List UInt8 := l.flatMap enc

theorem flat_nil : flat [] = [] := rfl
theorem flat_cons (n : Int) (l : List Int) : flat (n :: l) = enc n ++ flat l := rfl
theorem flat_append (l m : List Int) : flat (l ++ m) = flat l ++ flat m := by simp [flat]
theorem enc_len (n : Int) : 1 ≤ (enc n).length ∧ (enc n).length ≤ 4 := by
  have := Lib.encodeRuneZ_length n
  simpa [enc, Lib.encodeRune] using this
theorem flat_len (l : List Int) : l.length ≤ (flat l).length ∧ (flat l).length ≤ 4 * l.length := by
  induction l with
  | nil => simp [flat]
  | cons n l ih =>
    have := enc_len n
    rw [flat_cons, List.length_append, List.length_cons]
    omega

/-- What the model's own reading finds at a list's head. -/
def dec (l : List UInt8) : Nat × Nat := Lib.decodeN l.length (l.getD 0 0).toNat (l.getD 1 0).toNat (l.getD 2 0).toNat (l.getD 3 0).toNat
theorem get_bang (s : ByteArray) (i : Nat) : s.get! i = s.data.toList.getD i 0 := by
  cases s with
  | mk d =>
    show d[i]! = d.toList.getD i 0
    by_cases h : i < d.size
    · rw [getElem!_pos d i h]; simp [List.getD, h]
    · rw [getElem!_neg d i h]; simp [List.getD, h]; rfl
theorem dec_at (s : ByteArray) (pos : Nat) : Utf8.decode s pos = dec (s.data.toList.drop pos) := by
  have h : ∀ k, (s.data.toList.drop pos).getD k 0 = s.data.toList.getD (pos + k) 0 := fun k => by simp [List.getD, List.getElem?_drop]
  rw [Lib.decode_at, dec, List.length_drop, h, h, h, h, get_bang, get_bang, get_bang, get_bang, Nat.add_zero]
  rfl

/-- The code point that a text begins with, and how many bytes it has. -/
def lead (l : List UInt8) : Option (Int × Nat) :=
  if (dec l).1 = 65533 ∧ ¬ ([239, 191, 189] : List UInt8).isPrefixOf l = true then none else some (((dec l).1 : Int), (dec l).2)

theorem u8lt (x : UInt8) : x.toNat < 256 := UInt8.toNat_lt x
theorem u8eq {x : UInt8} {n : Nat} (h : x.toNat = n) : x = n.toUInt8 := by
  apply UInt8.toNat_inj.1
  have := u8lt x
  simp; omega

/-- Each code point's bytes are read as it, whatever follows. -/
theorem dec_enc (n : Int) (h : IsPt n) (r : List UInt8) : dec (enc n ++ r) = (n.toNat, (enc n).length) := by
  obtain ⟨h0, h1, h2⟩ := h
  obtain ⟨k, rfl⟩ := Int.eq_ofNat_of_zero_le h0
  by_cases c1 : k < 128
  · have e : enc (k : Int) = [k.toUInt8] := by simp [enc, Lib.encodeRune, Lib.encodeRuneZ_one h0 (by omega)]
    rw [e]
    have e1 : k.toUInt8.toNat = k := by simp; omega
    simp [dec, Lib.decodeN, e1, c1]
  · by_cases c2 : k < 2048
    · have e : enc (k : Int) = [(192 + k / 64).toUInt8, (128 + k % 64).toUInt8] := by
        simp only [enc, Lib.encodeRune, Lib.encodeRuneZ_two (r := (k : Int)) (by omega) (by omega), List.map_cons, List.map_nil]
        congr 2
      rw [e]
      have e1 : (192 + k / 64).toUInt8.toNat = 192 + k / 64 := by simp; omega
      have e2 : (128 + k % 64).toUInt8.toNat = 128 + k % 64 := by simp; omega
      simp only [dec, List.cons_append, List.nil_append, List.length_cons, List.length_nil, List.getD_cons_zero, List.getD_cons_succ, e1, e2, Lib.decodeN]
      rw [if_neg (by omega), if_pos (by omega), if_pos (by omega)]
      ext <;> simp <;> omega
    · by_cases c3 : k < 65536
      · have e : enc (k : Int) = [(224 + k / 4096).toUInt8, (128 + k / 64 % 64).toUInt8, (128 + k % 64).toUInt8] := by
          simp only [enc, Lib.encodeRune, Lib.encodeRuneZ_three (r := (k : Int)) (by omega), List.map_cons, List.map_nil]
          congr 3
        rw [e]
        have e1 : (224 + k / 4096).toUInt8.toNat = 224 + k / 4096 := by simp; omega
        have e2 : (128 + k / 64 % 64).toUInt8.toNat = 128 + k / 64 % 64 := by simp; omega
        have e3 : (128 + k % 64).toUInt8.toNat = 128 + k % 64 := by simp; omega
        simp only [dec, List.cons_append, List.nil_append, List.length_cons, List.length_nil, List.getD_cons_zero, List.getD_cons_succ, e1, e2, e3, Lib.decodeN]
        rw [if_neg (by omega), if_neg (by omega), if_pos (by omega), if_pos (by omega)]
        ext <;> simp <;> omega
      · have e : enc (k : Int) = [(240 + k / 262144).toUInt8, (128 + k / 4096 % 64).toUInt8, (128 + k / 64 % 64).toUInt8, (128 + k % 64).toUInt8] := by
          simp only [enc, Lib.encodeRune, Lib.encodeRuneZ_four (r := (k : Int)) (by omega) (by omega), List.map_cons, List.map_nil]
          congr 4
        rw [e]
        have e1 : (240 + k / 262144).toUInt8.toNat = 240 + k / 262144 := by simp; omega
        have e2 : (128 + k / 4096 % 64).toUInt8.toNat = 128 + k / 4096 % 64 := by simp; omega
        have e3 : (128 + k / 64 % 64).toUInt8.toNat = 128 + k / 64 % 64 := by simp; omega
        have e4 : (128 + k % 64).toUInt8.toNat = 128 + k % 64 := by simp; omega
        simp only [dec, List.cons_append, List.nil_append, List.length_cons, List.length_nil, List.getD_cons_zero, List.getD_cons_succ, e1, e2, e3, e4, Lib.decodeN]
        rw [if_neg (by omega), if_neg (by omega), if_neg (by omega), if_pos (by omega), if_pos (by omega)]
        ext <;> simp <;> omega

theorem enc_form (k : Nat) (h : IsPt (k : Int)) :
    (k < 128 ∧ enc (k : Int) = [k.toUInt8]) ∨ (128 ≤ k ∧ k < 2048 ∧ enc (k : Int) = [(192 + k / 64).toUInt8, (128 + k % 64).toUInt8]) ∨
    (2048 ≤ k ∧ k < 65536 ∧ enc (k : Int) = [(224 + k / 4096).toUInt8, (128 + k / 64 % 64).toUInt8, (128 + k % 64).toUInt8]) ∨
    (65536 ≤ k ∧ k ≤ 1114111 ∧ enc (k : Int) = [(240 + k / 262144).toUInt8, (128 + k / 4096 % 64).toUInt8, (128 + k / 64 % 64).toUInt8, (128 + k % 64).toUInt8]) := by
  obtain ⟨h0, h1, h2⟩ := h
  by_cases c1 : k < 128
  · left
    exact ⟨c1, by simp [enc, Lib.encodeRune, Lib.encodeRuneZ_one h0 (by omega)]⟩
  · by_cases c2 : k < 2048
    · right; left
      refine ⟨by omega, c2, ?_⟩
      simp only [enc, Lib.encodeRune, Lib.encodeRuneZ_two (r := (k : Int)) (by omega) (by omega), List.map_cons, List.map_nil]
      congr 2
    · by_cases c3 : k < 65536
      · right; right; left
        refine ⟨by omega, c3, ?_⟩
        simp only [enc, Lib.encodeRune, Lib.encodeRuneZ_three (r := (k : Int)) (by omega), List.map_cons, List.map_nil]
        congr 3
      · right; right; right
        refine ⟨by omega, by omega, ?_⟩
        simp only [enc, Lib.encodeRune, Lib.encodeRuneZ_four (r := (k : Int)) (by omega) (by omega), List.map_cons, List.map_nil]
        congr 4

theorem lead_enc (n : Int) (h : IsPt n) (r : List UInt8) : lead (enc n ++ r) = some (n, (enc n).length) := by
  have hd := dec_enc n h r
  have hn : ((n.toNat : Nat) : Int) = n := Int.toNat_of_nonneg h.1
  unfold lead
  rw [hd]
  simp only [hn]
  rw [if_neg]
  rintro ⟨h1, h2⟩
  apply h2
  have : n = 65533 := by omega
  subst this
  have e : enc 65533 = [239, 191, 189] := by decide
  rw [e]
  simp

set_option maxHeartbeats 1000000 in
theorem decN_cases (n b0 b1 b2 b3 : Nat) (h0 : b0 < 256) (h3 : b3 < 256) {c k : Nat} (he : Lib.decodeN n b0 b1 b2 b3 = (c, k)) (h : c ≠ 65533) :
    (k = 1 ∧ c = b0 ∧ c < 128) ∨ (k = 2 ∧ 1 < n ∧ 128 ≤ c ∧ c < 2048 ∧ b0 = 192 + c / 64 ∧ b1 = 128 + c % 64) ∨
    (k = 3 ∧ 2 < n ∧ 2048 ≤ c ∧ c < 65536 ∧ (c < 55296 ∨ 57343 < c) ∧ b0 = 224 + c / 4096 ∧ b1 = 128 + c / 64 % 64 ∧ b2 = 128 + c % 64) ∨
    (k = 4 ∧ 3 < n ∧ 65536 ≤ c ∧ c ≤ 1114111 ∧ b0 = 240 + c / 262144 ∧ b1 = 128 + c / 4096 % 64 ∧ b2 = 128 + c / 64 % 64 ∧ b3 = 128 + c % 64) := by
  unfold Lib.decodeN at he
  by_cases c1 : b0 < 128
  · rw [if_pos c1] at he
    simp only [Prod.mk.injEq] at he
    left; omega
  rw [if_neg c1] at he
  by_cases c2 : b0 / 32 = 6 ∧ (1 < n ∧ b1 / 64 = 2)
  · rw [if_pos c2] at he
    split at he <;> simp only [Prod.mk.injEq] at he
    · right; left; obtain ⟨rfl, rfl⟩ := he; refine ⟨rfl, ?_, ?_, ?_, ?_, ?_⟩ <;> omega
    · exact absurd he.1.symm h
  rw [if_neg c2] at he
  by_cases c3 : b0 / 16 = 14 ∧ (1 < n ∧ b1 / 64 = 2) ∧ (2 < n ∧ b2 / 64 = 2)
  · rw [if_pos c3] at he
    split at he <;> simp only [Prod.mk.injEq] at he
    · right; right; left; obtain ⟨rfl, rfl⟩ := he; refine ⟨rfl, ?_, ?_, ?_, ?_, ?_, ?_, ?_⟩ <;> omega
    · exact absurd he.1.symm h
  rw [if_neg c3] at he
  by_cases c4 : b0 / 8 = 30 ∧ (1 < n ∧ b1 / 64 = 2) ∧ (2 < n ∧ b2 / 64 = 2) ∧ (3 < n ∧ b3 / 64 = 2)
  · rw [if_pos c4] at he
    split at he <;> simp only [Prod.mk.injEq] at he
    · right; right; right; obtain ⟨rfl, rfl⟩ := he; refine ⟨rfl, ?_, ?_, ?_, ?_, ?_, ?_, ?_⟩ <;> omega
    · exact absurd he.1.symm h
  rw [if_neg c4] at he
  simp only [Prod.mk.injEq] at he
  exact absurd he.1.symm h

theorem take_getD (l : List UInt8) (k : Nat) (h : k ≤ l.length) : l.take k = (List.range k).map fun i => l.getD i 0 := by
  apply List.ext_getElem (by simp; omega)
  intro i h1 h2
  simp at h1
  simp [List.getD, List.getElem?_eq_getElem (show i < l.length by omega)]

theorem dec_sound (l : List UInt8) (hl : l ≠ []) (h : (dec l).1 ≠ 65533) : IsPt ((dec l).1 : Int) ∧ enc ((dec l).1 : Int) = l.take (dec l).2 ∧ (dec l).2 ≤ l.length := by
  obtain ⟨⟨c, k⟩, he⟩ : ∃ d, dec l = d := ⟨_, rfl⟩
  rw [he] at h ⊢
  have hn : 1 ≤ l.length := List.length_pos_iff.2 hl
  have := decN_cases l.length (l.getD 0 0).toNat (l.getD 1 0).toNat (l.getD 2 0).toNat (l.getD 3 0).toNat (u8lt _) (u8lt _) he h
  show IsPt (c : Int) ∧ enc (c : Int) = l.take k ∧ k ≤ l.length
  rcases this with ⟨rfl, h1, h2⟩ | ⟨rfl, h1, h2, h3, h4, h5⟩ | ⟨rfl, h1, h2, h3, h4, h5, h6, h7⟩ | ⟨rfl, h1, h2, h3, h4, h5, h6, h7⟩
  · refine ⟨⟨by omega, by omega, by omega⟩, ?_, hn⟩
    rw [take_getD l 1 hn]
    simp only [enc, Lib.encodeRune, Lib.encodeRuneZ_one (r := (c : Int)) (by omega) (by omega), List.range_succ, List.range_zero, List.map_cons, List.map_nil, List.nil_append]
    rw [u8eq (x := l.getD 0 0) (n := ((c : Int)).toNat) (by omega)]
  · refine ⟨⟨by omega, by omega, by omega⟩, ?_, by omega⟩
    rw [take_getD l 2 (by omega)]
    simp only [enc, Lib.encodeRune, Lib.encodeRuneZ_two (r := (c : Int)) (by omega) (by omega), List.range_succ, List.range_zero, List.map_cons, List.map_nil, List.nil_append, List.cons_append]
    rw [u8eq (x := l.getD 0 0) (n := (192 + (c : Int) / 64).toNat) (by omega), u8eq (x := l.getD 1 0) (n := (128 + (c : Int) % 64).toNat) (by omega)]
  · refine ⟨⟨by omega, by omega, by omega⟩, ?_, by omega⟩
    rw [take_getD l 3 (by omega)]
    simp only [enc, Lib.encodeRune, Lib.encodeRuneZ_three (r := (c : Int)) (by omega), List.range_succ, List.range_zero, List.map_cons, List.map_nil, List.nil_append, List.cons_append]
    rw [u8eq (x := l.getD 0 0) (n := (224 + (c : Int) / 4096).toNat) (by omega), u8eq (x := l.getD 1 0) (n := (128 + (c : Int) / 64 % 64).toNat) (by omega), u8eq (x := l.getD 2 0) (n := (128 + (c : Int) % 64).toNat) (by omega)]
  · refine ⟨⟨by omega, by omega, by omega⟩, ?_, by omega⟩
    rw [take_getD l 4 (by omega)]
    simp only [enc, Lib.encodeRune, Lib.encodeRuneZ_four (r := (c : Int)) (by omega) (by omega), List.range_succ, List.range_zero, List.map_cons, List.map_nil, List.nil_append, List.cons_append]
    rw [u8eq (x := l.getD 0 0) (n := (240 + (c : Int) / 262144).toNat) (by omega), u8eq (x := l.getD 1 0) (n := (128 + (c : Int) / 4096 % 64).toNat) (by omega), u8eq (x := l.getD 2 0) (n := (128 + (c : Int) / 64 % 64).toNat) (by omega), u8eq (x := l.getD 3 0) (n := (128 + (c : Int) % 64).toNat) (by omega)]

theorem lead_sound {l : List UInt8} (hl : l ≠ []) {n : Int} {k : Nat} (h : lead l = some (n, k)) : IsPt n ∧ l = enc n ++ l.drop k ∧ k = (enc n).length := by
  by_cases hp : ([239, 191, 189] : List UInt8).isPrefixOf l = true
  · obtain ⟨r, rfl⟩ : ∃ r, l = [239, 191, 189] ++ r := by
      obtain ⟨r, hr⟩ := List.isPrefixOf_iff_prefix.1 hp
      exact ⟨r, hr.symm⟩
    have e : ([239, 191, 189] : List UInt8) = enc 65533 := by decide
    rw [e, lead_enc 65533 (by decide)] at h
    simp only [Option.some.injEq, Prod.mk.injEq] at h
    obtain ⟨rfl, rfl⟩ := h
    rw [e]
    exact ⟨by decide, by simp, rfl⟩
  · unfold lead at h
    by_cases hd : (dec l).1 = 65533
    · rw [if_pos ⟨hd, hp⟩] at h; cases h
    · rw [if_neg (fun h' => hd h'.1)] at h
      simp only [Option.some.injEq, Prod.mk.injEq] at h
      obtain ⟨rfl, rfl⟩ := h
      obtain ⟨h1, h2, h3⟩ := dec_sound l hl hd
      exact ⟨h1, by rw [h2, List.take_append_drop], by rw [h2, List.length_take]; omega⟩

/-- All are code points. -/
def Pts (l : List Int) : Prop := ∀ x ∈ l, IsPt x
instance (l : List Int) : Decidable (Pts l) := by unfold Pts; infer_instance
theorem pts_cons {n : Int} {l : List Int} : Pts (n :: l) ↔ IsPt n ∧ Pts l := by simp [Pts]
theorem pts_append {l m : List Int} : Pts (l ++ m) ↔ Pts l ∧ Pts m := by
  constructor
  · intro h; exact ⟨fun x hx => h x (by simp [hx]), fun x hx => h x (by simp [hx])⟩
  · rintro ⟨h1, h2⟩ x hx
    rcases List.mem_append.1 hx with h | h
    · exact h1 x h
    · exact h2 x h

theorem flat_ne (n : Int) (l : List Int) : flat (n :: l) ≠ [] := by
  intro h0
  have h1 := enc_len n
  have h2 := congrArg List.length h0
  rw [flat_cons, List.length_append, List.length_nil] at h2
  omega
/-- A text is these code points' bytes, of one list at most. -/
theorem flat_inj : ∀ {l m : List Int}, Pts l → Pts m → flat l = flat m → l = m
  | [], [], _, _, _ => rfl
  | [], n :: m, _, _, h => absurd h.symm (flat_ne n m)
  | n :: l, [], _, _, h => absurd h (flat_ne n l)
  | a :: l, b :: m, h1, h2, h => by
    rw [flat_cons, flat_cons] at h
    have e1 := lead_enc a (pts_cons.1 h1).1 (flat l)
    have e2 := lead_enc b (pts_cons.1 h2).1 (flat m)
    rw [h, e2] at e1
    simp only [Option.some.injEq, Prod.mk.injEq] at e1
    obtain ⟨rfl, _⟩ := e1
    rw [flat_inj (pts_cons.1 h1).2 (pts_cons.1 h2).2 (List.append_cancel_left h)]

/-- Behind whole code points stands what is none: the text is none of code points. -/
theorem flat_stuck {l : List Int} (hl : Pts l) {r : List UInt8} (hr : r ≠ []) (hn : lead r = none) : ∀ m, Pts m → flat l ++ r ≠ flat m := by
  induction l with
  | nil =>
    intro m hm h
    cases m with
    | nil => exact hr (by simpa [flat] using h)
    | cons b m =>
      have h' : r = enc b ++ flat m := h
      rw [h', lead_enc b (pts_cons.1 hm).1] at hn
      cases hn
  | cons a l ih =>
    intro m hm h
    rw [flat_cons, List.append_assoc] at h
    have e1 := lead_enc a (pts_cons.1 hl).1 (flat l ++ r)
    cases m with
    | nil =>
      have h1 := congrArg List.length h
      have h2 := enc_len a
      rw [List.length_append, flat_nil, List.length_nil] at h1
      omega
    | cons b m =>
      rw [h, flat_cons, lead_enc b (pts_cons.1 hm).1] at e1
      simp only [Option.some.injEq, Prod.mk.injEq] at e1
      obtain ⟨rfl, _⟩ := e1
      rw [flat_cons] at h
      exact ih (pts_cons.1 hl).2 m (pts_cons.1 hm).2 (List.append_cancel_left h)

/-- The code points of a text. -/
def ptsF : Nat → List UInt8 → Option (List Int)
  | 0, l => if l = [] then some [] else none
  | f + 1, l => if l = [] then some [] else match lead l with
    | none => none
    | some (n, k) => (ptsF f (l.drop k)).map (n :: ·)
def pts (s : List UInt8) : Option (List Int) := ptsF s.length s

theorem ptsF_flat : ∀ (f : Nat) (l : List Int), Pts l → l.length ≤ f → ptsF f (flat l) = some l
  | 0, l, _, h => by
    obtain rfl : l = [] := List.length_eq_zero_iff.1 (by omega)
    rfl
  | f + 1, [], _, _ => by simp [ptsF, flat]
  | f + 1, n :: l, h, hf => by
    have hne := flat_ne n l
    simp only [ptsF, if_neg hne]
    rw [flat_cons, lead_enc n (pts_cons.1 h).1]
    simp only [List.drop_left]
    rw [ptsF_flat f l (pts_cons.1 h).2 (by simpa using hf)]
    rfl
theorem pts_flat {l : List Int} (h : Pts l) : pts (flat l) = some l := ptsF_flat _ l h (flat_len l).1
theorem ptsF_some : ∀ (f : Nat) (s : List UInt8) (l : List Int), ptsF f s = some l → Pts l ∧ s = flat l
  | 0, s, l, h => by
    unfold ptsF at h
    split at h
    · rename_i h0
      simp only [Option.some.injEq] at h
      subst h h0
      exact ⟨by simp [Pts], rfl⟩
    · cases h
  | f + 1, s, l, h => by
    unfold ptsF at h
    split at h
    · rename_i h0
      simp only [Option.some.injEq] at h
      subst h h0
      exact ⟨by simp [Pts], rfl⟩
    · rename_i h0
      split at h
      · cases h
      · rename_i n k hk
        obtain ⟨h1, h2, h3⟩ := lead_sound h0 hk
        obtain ⟨m, hm, rfl⟩ := Option.map_eq_some_iff.1 h
        obtain ⟨g1, g2⟩ := ptsF_some f _ m hm
        refine ⟨pts_cons.2 ⟨h1, g1⟩, ?_⟩
        rw [flat_cons, ← g2]
        exact h2
theorem pts_some {s : List UInt8} {l : List Int} (h : pts s = some l) : Pts l ∧ s = flat l := ptsF_some _ _ _ h
theorem pts_none {s : List UInt8} (h : ∀ m, Pts m → s ≠ flat m) : pts s = none := by
  cases hp : pts s with
  | none => rfl
  | some m =>
    obtain ⟨h1, h2⟩ := pts_some hp
    exact absurd h2 (h m h1)
end Go.Proofs.Ytpkhgjdpgbkchaa.Point
