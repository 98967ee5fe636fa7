/- Code points and their bytes: plain lists. Conditions: none. What is seen of a section, in plain words. Conditions: none. Calls as operations, in plain words: what an insert and a delete make of what is seen. Conditions: none. An insert at a number, a delete of one that is seen: what is seen then. Conditions: none. What the calls of edit answer, and that it is what was put one behind the other. Conditions: none. Elements in cells. Conditions: none. octavoref13.Where, Begin, All, Of, Ahead, Span: what each answers. Conditions: the slices' cells are operations, runs. octavoref13.Begin, All, Of, Ahead, Span: what each answers. Conditions: the slices' cells are operations, runs. octavoref13.Ahead, Span: what each answers. Conditions: the slice's cells are operations. octavoref15.Of, Elements, Before, Offset, At: what each answers. Conditions: the slices' cells are operations, runs. Elements o -/
import Derived.Test.YtgjbnbojjgbmcaaGreatChecked
import Derived.WalkKit
import Derived.WalkSpells
import Derived.WalkLawsBesides
import Derived.Laws.BytesArg
import Derived.Lib.Hide
import Derived.Lib.DecodeN
import Derived.Lib.RuneBytes
import Derived.Deep.LoopGhost
import Derived.Laws.AppendOwnNone
import Derived.Laws.OwnMore
import Derived.WideShapes
import Derived.Maps.AppendAt
import Derived.RegionTactic
import Derived.Deep.RegionHeld3
import Derived.Deep.DrawnRows
import Derived.Deep.QuietTactic
import Derived.BigQuiet
import Derived.IntWalk
import Derived.Deep.DeepCutAuto
import Derived.ScopeJumps
import Derived.Test.YtgjbnbojjgbmcaaGreatProg
import Derived.LoopTactic
import Derived.Laws.EntriesVeiled
import Derived.RowKit
import Derived.Maps.Own
import Derived.Maps.OwnOps
import Derived.Maps.OwnSet
import Derived.Maps.Views
import Derived.DeepKeys4
import Derived.Test.YtgjbnbojjgbmcaaGreatPk01
import Derived.Test.YtgjbnbojjgbmcaaGreatPk05
import Derived.Test.YtgjbnbojjgbmcaaGreatPk04
import Derived.Test.YtgjbnbojjgbmcaaGreatPk03
import Derived.Test.YtgjbnbojjgbmcaaGreatPk02

namespace Go.Proofs.YtgjbnbojjgbmcaaGreat.Point
open Go.RowKit
/-- A code point. -/
def IsPt (n : Int) : Prop := 0 ≤ n ∧ n ≤ 1114111 ∧ (n < 55296 ∨ 57343 < n)
instance (n : Int) : Decidable (IsPt n) := by unfold IsPt; infer_instance
/-- Its bytes. -/
def enc (n : Int) : List UInt8 := Lib.encodeRune n
/-- The bytes of code points, one behind the other. -/
def flat (l : List Int) : List UInt8 := l.flatMap enc
theorem flat_nil : flat [] = [] := rfl
theorem flat_cons (n : Int) (l : List Int) : flat (n :: l) = enc n ++ flat l := rfl
theorem flat_append (l m : List Int) : flat (l ++ m) = flat l ++ flat m := by simp [flat]
theorem enc_len (n : Int) : 1 ≤ (enc n).length ∧ (enc n).length ≤ 4 := by
  have := Lib.encodeRuneZ_length n
  simpa [enc, Lib.encodeRune] using this
theorem flat_len (l : List Int) : l.length ≤ (flat l).length ∧ (flat l).length ≤ 4 * l.length := by
  induction l with
  | nil => simp [flat]
  | cons n l ih =>
    have := enc_len n
    rw [flat_cons, List.length_append, List.length_cons]
    omega
/-- What the model's own reading finds at a list's head. -/
def dec (l : List UInt8) : Nat × Nat := Lib.decodeN l.length (l.getD 0 0).toNat (l.getD 1 0).toNat (l.getD 2 0).toNat (l.getD 3 0).toNat
theorem get_bang (s : ByteArray) (i : Nat) : s.get! i = s.data.toList.getD i 0 := by
  cases s with
  | mk d =>
    show d[i]! = d.toList.getD i 0
    by_cases h : i < d.size
    · rw [getElem!_pos d i h]; simp [List.getD, h]
    · rw [getElem!_neg d i h]; simp [List.getD, h]; rfl
theorem dec_at (s : ByteArray) (pos : Nat) : Utf8.decode s pos = dec (s.data.toList.drop pos) := by
  have h : ∀ k, (s.data.toList.drop pos).getD k 0 = s.data.toList.getD (pos + k) 0 := fun k => by simp [List.getD, List.getElem?_drop]
  rw [Lib.decode_at, dec, List.length_drop, h, h, h, h, get_bang, get_bang, get_bang, get_bang, Nat.add_zero]
  rfl
/-- The code point that a text begins with, and how many bytes it has. -/
def lead (l : List UInt8) : Option (Int × Nat) :=
  if (dec l).1 = 65533 ∧ ¬ ([239, 191, 189] : List UInt8).isPrefixOf l = true then none else some (((dec l).1 : Int), (dec l).2)
theorem u8lt (x : UInt8) : x.toNat < 256 := UInt8.toNat_lt x
theorem u8eq {x : UInt8} {n : Nat} (h : x.toNat = n) : x = n.toUInt8 := by
  apply UInt8.toNat_inj.1
  have := u8lt x
  simp; omega
/-- Each code point's bytes are read as it, whatever follows. -/
theorem dec_enc (n : Int) (h : IsPt n) (r : List UInt8) : dec (enc n ++ r) = (n.toNat, (enc n).length) := by
  obtain ⟨h0, h1, h2⟩ := h
  obtain ⟨k, rfl⟩ := Int.eq_ofNat_of_zero_le h0
  by_cases c1 : k < 128
  · have e : enc (k : Int) = [k.toUInt8] := by simp [enc, Lib.encodeRune, Lib.encodeRuneZ_one h0 (by omega)]
    rw [e]
    have e1 : k.toUInt8.toNat = k := by simp; omega
    simp [dec, Lib.decodeN, e1, c1]
  · by_cases c2 : k < 2048
    · have e : enc (k : Int) = [(192 + k / 64).toUInt8, (128 + k % 64).toUInt8] := by
        simp only [enc, Lib.encodeRune, Lib.encodeRuneZ_two (r := (k : Int)) (by omega) (by omega), List.map_cons, List.map_nil]
        congr 2
      rw [e]
      have e1 : (192 + k / 64).toUInt8.toNat = 192 + k / 64 := by simp; omega
      have e2 : (128 + k % 64).toUInt8.toNat = 128 + k % 64 := by simp; omega
      simp only [dec, List.cons_append, List.nil_append, List.length_cons, List.length_nil, List.getD_cons_zero, List.getD_cons_succ, e1, e2, Lib.decodeN]
      rw [if_neg (by omega), if_pos (by omega), if_pos (by omega)]
      ext <;> simp <;> omega
    · by_cases c3 : k < 65536
      · have e : enc (k : Int) = [(224 + k / 4096).toUInt8, (128 + k / 64 % 64).toUInt8, (128 + k % 64).toUInt8] := by
          simp only [enc, Lib.encodeRune, Lib.encodeRuneZ_three (r := (k : Int)) (by omega), List.map_cons, List.map_nil]
          congr 3
        rw [e]
        have e1 : (224 + k / 4096).toUInt8.toNat = 224 + k / 4096 := by simp; omega
        have e2 : (128 + k / 64 % 64).toUInt8.toNat = 128 + k / 64 % 64 := by simp; omega
        have e3 : (128 + k % 64).toUInt8.toNat = 128 + k % 64 := by simp; omega
        simp only [dec, List.cons_append, List.nil_append, List.length_cons, List.length_nil, List.getD_cons_zero, List.getD_cons_succ, e1, e2, e3, Lib.decodeN]
        rw [if_neg (by omega), if_neg (by omega), if_pos (by omega), if_pos (by omega)]
        ext <;> simp <;> omega
      · have e : enc (k : Int) = [(240 + k / 262144).toUInt8, (128 + k / 4096 % 64).toUInt8, (128 + k / 64 % 64).toUInt8, (128 + k % 64).toUInt8] := by
          simp only [enc, Lib.encodeRune, Lib.encodeRuneZ_four (r := (k : Int)) (by omega) (by omega), List.map_cons, List.map_nil]
          congr 4
        rw [e]
        have e1 : (240 + k / 262144).toUInt8.toNat = 240 + k / 262144 := by simp; omega
        have e2 : (128 + k / 4096 % 64).toUInt8.toNat = 128 + k / 4096 % 64 := by simp; omega
        have e3 : (128 + k / 64 % 64).toUInt8.toNat = 128 + k / 64 % 64 := by simp; omega
        have e4 : (128 + k % 64).toUInt8.toNat = 128 + k % 64 := by simp; omega
        simp only [dec, List.cons_append, List.nil_append, List.length_cons, List.length_nil, List.getD_cons_zero, List.getD_cons_succ, e1, e2, e3, e4, Lib.decodeN]
        rw [if_neg (by omega), if_neg (by omega), if_neg (by omega), if_pos (by omega), if_pos (by omega)]
        ext <;> simp <;> omega
theorem lead_enc (n : Int) (h : IsPt n) (r : List UInt8) : lead (enc n ++ r) = some (n, (enc n).length) := by
  have hd := dec_enc n h r
  have hn : ((n.toNat : Nat) : Int) = n := Int.toNat_of_nonneg h.1
  unfold lead
  rw [hd]
  simp only [hn]
  rw [if_neg]
  rintro ⟨h1, h2⟩
  apply h2
  have : n = 65533 := by omega
  subst this
  have e : enc 65533 = [239, 191, 189] := by decide
  rw [e]
  simp
set_option maxHeartbeats 1000000 in
theorem decN_cases (n b0 b1 b2 b3 : Nat) (h0 : b0 < 256) (h3 : b3 < 256) {c k : Nat} (he : Lib.decodeN n b0 b1 b2 b3 = (c, k)) (h : c ≠ 65533) :
    (k = 1 ∧ c = b0 ∧ c < 128) ∨ (k = 2 ∧ 1 < n ∧ 128 ≤ c ∧ c < 2048 ∧ b0 = 192 + c / 64 ∧ b1 = 128 + c % 64) ∨
    (k = 3 ∧ 2 < n ∧ 2048 ≤ c ∧ c < 65536 ∧ (c < 55296 ∨ 57343 < c) ∧ b0 = 224 + c / 4096 ∧ b1 = 128 + c / 64 % 64 ∧ b2 = 128 + c % 64) ∨
    (k = 4 ∧ 3 < n ∧ 65536 ≤ c ∧ c ≤ 1114111 ∧ b0 = 240 + c / 262144 ∧ b1 = 128 + c / 4096 % 64 ∧ b2 = 128 + c / 64 % 64 ∧ b3 = 128 + c % 64) := by
  unfold Lib.decodeN at he
  by_cases c1 : b0 < 128
  · rw [if_pos c1] at he
    simp only [Prod.mk.injEq] at he
    left; omega
  rw [if_neg c1] at he
  by_cases c2 : b0 / 32 = 6 ∧ (1 < n ∧ b1 / 64 = 2)
  · rw [if_pos c2] at he
    split at he <;> simp only [Prod.mk.injEq] at he
    · right; left; obtain ⟨rfl, rfl⟩ := he; refine ⟨rfl, ?_, ?_, ?_, ?_, ?_⟩ <;> omega
    · exact absurd he.1.symm h
  rw [if_neg c2] at he
  by_cases c3 : b0 / 16 = 14 ∧ (1 < n ∧ b1 / 64 = 2) ∧ (2 < n ∧ b2 / 64 = 2)
  · rw [if_pos c3] at he
    split at he <;> simp only [Prod.mk.injEq] at he
    · right; right; left; obtain ⟨rfl, rfl⟩ := he; refine ⟨rfl, ?_, ?_, ?_, ?_, ?_, ?_, ?_⟩ <;> omega
    · exact absurd he.1.symm h
  rw [if_neg c3] at he
  by_cases c4 : b0 / 8 = 30 ∧ (1 < n ∧ b1 / 64 = 2) ∧ (2 < n ∧ b2 / 64 = 2) ∧ (3 < n ∧ b3 / 64 = 2)
  · rw [if_pos c4] at he
    split at he <;> simp only [Prod.mk.injEq] at he
    · right; right; right; obtain ⟨rfl, rfl⟩ := he; refine ⟨rfl, ?_, ?_, ?_, ?_, ?_, ?_, ?_⟩ <;> omega
    · exact absurd he.1.symm h
  rw [if_neg c4] at he
  simp only [Prod.mk.injEq] at he
  exact absurd he.1.symm h
theorem take_getD (l : List UInt8) (k : Nat) (h : k ≤ l.length) : l.take k = (List.range k).map fun i => l.getD i 0 := by
  apply List.ext_getElem (by simp; omega)
  intro i h1 h2
  simp at h1
  simp [List.getD, List.getElem?_eq_getElem (show i < l.length by omega)]
theorem dec_sound (l : List UInt8) (hl : l ≠ []) (h : (dec l).1 ≠ 65533) : IsPt ((dec l).1 : Int) ∧ enc ((dec l).1 : Int) = l.take (dec l).2 ∧ (dec l).2 ≤ l.length := by
  obtain ⟨⟨c, k⟩, he⟩ : ∃ d, dec l = d := ⟨_, rfl⟩
  rw [he] at h ⊢
  have hn : 1 ≤ l.length := List.length_pos_iff.2 hl
  have := decN_cases l.length (l.getD 0 0).toNat (l.getD 1 0).toNat (l.getD 2 0).toNat (l.getD 3 0).toNat (u8lt _) (u8lt _) he h
  show IsPt (c : Int) ∧ enc (c : Int) = l.take k ∧ k ≤ l.length
  rcases this with ⟨rfl, h1, h2⟩ | ⟨rfl, h1, h2, h3, h4, h5⟩ | ⟨rfl, h1, h2, h3, h4, h5, h6, h7⟩ | ⟨rfl, h1, h2, h3, h4, h5, h6, h7⟩
  · refine ⟨⟨by omega, by omega, by omega⟩, ?_, hn⟩
    rw [take_getD l 1 hn]
    simp only [enc, Lib.encodeRune, Lib.encodeRuneZ_one (r := (c : Int)) (by omega) (by omega), List.range_succ, List.range_zero, List.map_cons, List.map_nil, List.nil_append]
    rw [u8eq (x := l.getD 0 0) (n := ((c : Int)).toNat) (by omega)]
  · refine ⟨⟨by omega, by omega, by omega⟩, ?_, by omega⟩
    rw [take_getD l 2 (by omega)]
    simp only [enc, Lib.encodeRune, Lib.encodeRuneZ_two (r := (c : Int)) (by omega) (by omega), List.range_succ, List.range_zero, List.map_cons, List.map_nil, List.nil_append, List.cons_append]
    rw [u8eq (x := l.getD 0 0) (n := (192 + (c : Int) / 64).toNat) (by omega), u8eq (x := l.getD 1 0) (n := (128 + (c : Int) % 64).toNat) (by omega)]
  · refine ⟨⟨by omega, by omega, by omega⟩, ?_, by omega⟩
    rw [take_getD l 3 (by omega)]
    simp only [enc, Lib.encodeRune, Lib.encodeRuneZ_three (r := (c : Int)) (by omega), List.range_succ, List.range_zero, List.map_cons, List.map_nil, List.nil_append, List.cons_append]
    rw [u8eq (x := l.getD 0 0) (n := (224 + (c : Int) / 4096).toNat) (by omega), u8eq (x := l.getD 1 0) (n := (128 + (c : Int) / 64 % 64).toNat) (by omega), u8eq (x := l.getD 2 0) (n := (128 + (c : Int) % 64).toNat) (by omega)]
  · refine ⟨⟨by omega, by omega, by omega⟩, ?_, by omega⟩
    rw [take_getD l 4 (by omega)]
    simp only [enc, Lib.encodeRune, Lib.encodeRuneZ_four (r := (c : Int)) (by omega) (by omega), List.range_succ, List.range_zero, List.map_cons, List.map_nil, List.nil_append, List.cons_append]
    rw [u8eq (x := l.getD 0 0) (n := (240 + (c : Int) / 262144).toNat) (by omega), u8eq (x := l.getD 1 0) (n := (128 + (c : Int) / 4096 % 64).toNat) (by omega), u8eq (x := l.getD 2 0) (n := (128 + (c : Int) / 64 % 64).toNat) (by omega), u8eq (x := l.getD 3 0) (n := (128 + (c : Int) % 64).toNat) (by omega)]
theorem lead_sound {l : List UInt8} (hl : l ≠ []) {n : Int} {k : Nat} (h : lead l = some (n, k)) : IsPt n ∧ l = enc n ++ l.drop k ∧ k = (enc n).length := by
  by_cases hp : ([239, 191, 189] : List UInt8).isPrefixOf l = true
  · obtain ⟨r, rfl⟩ : ∃ r, l = [239, 191, 189] ++ r := by
      obtain ⟨r, hr⟩ := List.isPrefixOf_iff_prefix.1 hp
      exact ⟨r, hr.symm⟩
    have e : ([239, 191, 189] : List UInt8) = enc 65533 := by decide
    rw [e, lead_enc 65533 (by decide)] at h
    simp only [Option.some.injEq, Prod.mk.injEq] at h
    obtain ⟨rfl, rfl⟩ := h
    rw [e]
    exact ⟨by decide, by simp, rfl⟩
  · unfold lead at h
    by_cases hd : (dec l).1 = 65533
    · rw [if_pos ⟨hd, hp⟩] at h; cases h
    · rw [if_neg (fun h' => hd h'.1)] at h
      simp only [Option.some.injEq, Prod.mk.injEq] at h
      obtain ⟨rfl, rfl⟩ := h
      obtain ⟨h1, h2, h3⟩ := dec_sound l hl hd
      exact ⟨h1, by rw [h2, List.take_append_drop], by rw [h2, List.length_take]; omega⟩
/-- All are code points. -/
def Pts (l : List Int) : Prop := ∀ x ∈ l, IsPt x
instance (l : List Int) : Decidable (Pts l) := by unfold Pts; infer_instance
theorem pts_cons {n : Int} {l : List Int} : Pts (n :: l) ↔ IsPt n ∧ Pts l := by simp [Pts]
theorem pts_append {l m : List Int} : Pts (l ++ m) ↔ Pts l ∧ Pts m := by
  constructor
  · intro h; exact ⟨fun x hx => h x (by simp [hx]), fun x hx => h x (by simp [hx])⟩
  · rintro ⟨h1, h2⟩ x hx
    rcases List.mem_append.1 hx with h | h
    · exact h1 x h
    · exact h2 x h
theorem flat_ne (n : Int) (l : List Int) : flat (n :: l) ≠ [] := by
  intro h0
  have h1 := enc_len n
  have h2 := congrArg List.length h0
  rw [flat_cons, List.length_append, List.length_nil] at h2
  omega
/-- Behind whole code points stands what is none: the text is none of code points. -/
theorem flat_stuck {l : List Int} (hl : Pts l) {r : List UInt8} (hr : r ≠ []) (hn : lead r = none) : ∀ m, Pts m → flat l ++ r ≠ flat m := by
  induction l with
  | nil =>
    intro m hm h
    cases m with
    | nil => exact hr (by simpa [flat] using h)
    | cons b m =>
      have h' : r = enc b ++ flat m := h
      rw [h', lead_enc b (pts_cons.1 hm).1] at hn
      cases hn
  | cons a l ih =>
    intro m hm h
    rw [flat_cons, List.append_assoc] at h
    have e1 := lead_enc a (pts_cons.1 hl).1 (flat l ++ r)
    cases m with
    | nil =>
      have h1 := congrArg List.length h
      have h2 := enc_len a
      rw [List.length_append, flat_nil, List.length_nil] at h1
      omega
    | cons b m =>
      rw [h, flat_cons, lead_enc b (pts_cons.1 hm).1] at e1
      simp only [Option.some.injEq, Prod.mk.injEq] at e1
      obtain ⟨rfl, _⟩ := e1
      rw [flat_cons] at h
      exact ih (pts_cons.1 hl).2 m (pts_cons.1 hm).2 (List.append_cancel_left h)
/-- The code points of a text. -/
def ptsF : Nat → List UInt8 → Option (List Int)
  | 0, l => if l = [] then some [] else none
  | f + 1, l => if l = [] then some [] else match lead l with
    | none => none
    | some (n, k) => (ptsF f (l.drop k)).map (n :: ·)
def pts (s : List UInt8) : Option (List Int) := ptsF s.length s
theorem ptsF_flat : ∀ (f : Nat) (l : List Int), Pts l → l.length ≤ f → ptsF f (flat l) = some l
  | 0, l, _, h => by
    obtain rfl : l = [] := List.length_eq_zero_iff.1 (by omega)
    rfl
  | f + 1, [], _, _ => by simp [ptsF, flat]
  | f + 1, n :: l, h, hf => by
    have hne := flat_ne n l
    simp only [ptsF, if_neg hne]
    rw [flat_cons, lead_enc n (pts_cons.1 h).1]
    simp only [List.drop_left]
    rw [ptsF_flat f l (pts_cons.1 h).2 (by simpa using hf)]
    rfl
theorem pts_flat {l : List Int} (h : Pts l) : pts (flat l) = some l := ptsF_flat _ l h (flat_len l).1
theorem ptsF_some : ∀ (f : Nat) (s : List UInt8) (l : List Int), ptsF f s = some l → Pts l ∧ s = flat l
  | 0, s, l, h => by
    unfold ptsF at h
    split at h
    · rename_i h0
      simp only [Option.some.injEq] at h
      subst h h0
      exact ⟨by simp [Pts], rfl⟩
    · cases h
  | f + 1, s, l, h => by
    unfold ptsF at h
    split at h
    · rename_i h0
      simp only [Option.some.injEq] at h
      subst h h0
      exact ⟨by simp [Pts], rfl⟩
    · rename_i h0
      split at h
      · cases h
      · rename_i n k hk
        obtain ⟨h1, h2, h3⟩ := lead_sound h0 hk
        obtain ⟨m, hm, rfl⟩ := Option.map_eq_some_iff.1 h
        obtain ⟨g1, g2⟩ := ptsF_some f _ m hm
        refine ⟨pts_cons.2 ⟨h1, g1⟩, ?_⟩
        rw [flat_cons, ← g2]
        exact h2
theorem pts_some {s : List UInt8} {l : List Int} (h : pts s = some l) : Pts l ∧ s = flat l := ptsF_some _ _ _ h
theorem pts_none {s : List UInt8} (h : ∀ m, Pts m → s ≠ flat m) : pts s = none := by
  cases hp : pts s with
  | none => rfl
  | some m =>
    obtain ⟨h1, h2⟩ := pts_some hp
    exact absurd h2 (h m h1)
end Go.Proofs.YtgjbnbojjgbmcaaGreat.Point

namespace Go.Proofs.YtgjbnbojjgbmcaaGreat.Views
open Ops Stamp Bags Marks Homes Covers Go.Proofs.YtgjbnbojjgbmcaaGreat.Place
/-- Does a delete among some take a stamp away? -/
def goneM (c : List Opn) (a : Id) : Bool := c.any (fun o => decide (o.k = 3) && decide (tgt o = a))
def seenStep (C out : List Opn) (x : Opn) : List Opn := if x.k = 1 ∧ goneM C (idO x) = false then insM out x else out
/-- Of some operations the inserts that none of C takes away, in the order of their places. -/
def seenF (C l : List Opn) : List Opn := l.foldl (seenStep C) []
theorem seenF_snoc (C l : List Opn) (x : Opn) : seenF C (l ++ [x]) = seenStep C (seenF C l) x := by unfold seenF; rw [List.foldl_append]; rfl
theorem seenF_le (C : List Opn) : ∀ l : List Opn, (seenF C l).length ≤ l.length := by
  intro l
  induction l using Clocks.list_snoc_ind with
  | h0 => simp [seenF]
  | h1 l x ih =>
    rw [seenF_snoc, List.length_append]
    unfold seenStep
    split
    · rw [insM_len]; simp; omega
    · simp; omega
theorem mem_seenF {C l : List Opn} {y : Opn} : y ∈ seenF C l ↔ y ∈ l ∧ y.k = 1 ∧ goneM C (idO y) = false := by
  induction l using Clocks.list_snoc_ind with
  | h0 => simp [seenF]
  | h1 l x ih =>
    rw [seenF_snoc, List.mem_append, List.mem_singleton]
    unfold seenStep
    split
    · rename_i h
      rw [mem_insM, ih]
      constructor
      · rintro (⟨h1, h2⟩ | rfl)
        · exact ⟨.inl h1, h2⟩
        · exact ⟨.inr rfl, h⟩
      · rintro ⟨h1 | rfl, h2⟩
        · exact .inl ⟨h1, h2⟩
        · exact .inr rfl
    · rename_i h
      rw [ih]
      constructor
      · rintro ⟨h1, h2⟩; exact ⟨.inl h1, h2⟩
      · rintro ⟨h1 | rfl, h2⟩
        · exact ⟨h1, h2⟩
        · exact absurd h2 h
/-- An insert's place ends with its own stamp. -/
theorem ins_tgt {o : Opn} (h : mayO o = true) (hk : o.k = 1) : tgt o = idO o := by
  have h3 := (mayO_parts h).2.2
  have hc := tgt_cells h
  unfold kindB kindF at h3
  rw [hk] at h3
  simp only [if_true, Bool.and_eq_true, decide_eq_true_eq, Prod.mk.injEq] at h3
  refine Id.ext' ?_ ?_
  · show (tgt o).t = o.t; omega
  · show (tgt o).r = o.r; omega
theorem ins_ne {a b : Opn} (ha : mayO a = true) (hb : mayO b = true) (ka : a.k = 1) (kb : b.k = 1) (h : idO a ≠ idO b) : pre a b ∨ pre b a := by
  rw [pre_iff ha hb, pre_iff hb ha, hold_neg (all a.pl) (all b.pl)]
  have h0 : Go.Proofs.YtgjbnbojjgbmcaaGreat.Place.hold (all a.pl) (all b.pl) ≠ 0 := fun e => by
    have ma := (mayB_iff _).1 (mayO_parts ha).2.1
    have mb := (mayB_iff _).1 (mayO_parts hb).2.1
    have e2 := (hold_same ma.2.2.1 mb.2.2.1).1 e
    apply h
    rw [← ins_tgt ha ka, ← ins_tgt hb kb]
    unfold tgt
    simp only [e2]
  have := hold_val (all a.pl) (all b.pl)
  omega
theorem put_sorted {x : Opn} (hx : mayO x = true) (kx : x.k = 1) : ∀ {out : List Opn}, out.Pairwise pre → (∀ y ∈ out, mayO y = true ∧ y.k = 1) → (∀ y ∈ out, idO y ≠ idO x) → (insM out x).Pairwise pre
  | [], _, _, _ => by rw [insM_nil]; exact List.pairwise_singleton _ _
  | y :: out, hs, hm, hne => by
    have hs' := List.pairwise_cons.1 hs
    have hy := hm y (by simp)
    rw [insM_cons]
    by_cases h : Go.Proofs.YtgjbnbojjgbmcaaGreat.Marks.ahead y x = true
    · rw [if_pos h]
      refine List.Pairwise.cons (fun z hz => ?_) (put_sorted hx kx hs'.2 (fun z hz => hm z (by simp [hz])) (fun z hz => hne z (by simp [hz])))
      rcases mem_insM.1 hz with hz | rfl
      · exact hs'.1 z hz
      · exact ahead_iff.1 h
    · rw [if_neg h]
      have hxy : pre x y := by
        rcases ins_ne hy.1 hx hy.2 kx (hne y (by simp)) with h1 | h1
        · exact absurd (ahead_iff.2 h1) h
        · exact h1
      refine List.Pairwise.cons (fun z hz => ?_) hs
      rcases List.mem_cons.1 hz with rfl | hz
      · exact hxy
      · exact pre_trans hx hy.1 (hm z (by simp [hz])).1 hxy (hs'.1 z hz)
theorem seen_sorted {C : List Opn} : ∀ {l : List Opn}, (∀ o ∈ l, mayO o = true) → l.Pairwise lessO → (seenF C l).Pairwise pre := by
  intro l
  induction l using Clocks.list_snoc_ind with
  | h0 => intro _ _; exact .nil
  | h1 l x ih =>
    intro hm hp
    have hp' := List.pairwise_append.1 hp
    have ih' := ih (fun o ho => hm o (by simp [ho])) hp'.1
    rw [seenF_snoc]
    unfold seenStep
    split
    · rename_i h
      refine put_sorted (hm x (by simp)) h.1 ih' (fun y hy => ?_) (fun y hy => ?_)
      · have := mem_seenF.1 hy; exact ⟨hm y (by simp [this.1]), this.2.1⟩
      · have := mem_seenF.1 hy; exact lessO_ne (hp'.2.2 y this.1 x (by simp))
    · exact ih'
/-- What is seen of content that counts. -/
def seenM (c : List Opn) : List Opn := seenF c c
/-- A list in order, of the inserts that are not gone, is what is seen. -/
theorem seen_ext {c m : List Opn} (hm : ∀ o ∈ c, mayO o = true) (hp : c.Pairwise lessO) (hs : m.Pairwise pre) (h : ∀ y, y ∈ m ↔ y ∈ c ∧ y.k = 1 ∧ goneM c (idO y) = false) : seenM c = m :=
  sorted_ext (fun x hx => hm x (mem_seenF.1 hx).1) (fun x hx => hm x ((h x).1 hx).1) (seen_sorted hm hp) hs (fun y => mem_seenF.trans (h y).symm)
def elmL (l : List Opn) (s : Id) : List Opn := seenM (countsL l s)
def atE (l : List Opn) (s : Id) (k : Int) : Int := if spanE l s = 0 then (if 0 ≤ k ∧ k < ((elmL l s).length : Int) then 0 else 2) else spanE l s
def atL (l : List Opn) (s : Id) (k : Int) : Opn := if spanE l s = 0 ∧ 0 ≤ k ∧ k < ((elmL l s).length : Int) then (elmL l s).getD k.toNat Codes.zop else Codes.zop
theorem elm_no {l : List Opn} {s : Id} (h : spanE l s ≠ 0) : elmL l s = [] := by
  unfold elmL countsL
  rw [if_neg h]
  rfl
theorem elm_yes {l : List Opn} {s : Id} (h : spanE l s = 0) : elmL l s = seenM (countL l (livesM l l) s) := by
  unfold elmL countsL
  rw [if_pos h]
theorem mem_elm {l : List Opn} {s : Id} {y : Opn} (h : y ∈ elmL l s) : y ∈ countsL l s ∧ y.k = 1 := by
  have := mem_seenF.1 h
  exact ⟨this.1, this.2.1⟩
theorem mem_elm_l {l : List Opn} {s : Id} {y : Opn} (h : y ∈ elmL l s) : spanE l s = 0 ∧ Bag l ∧ y ∈ l ∧ homeM (livesM l l) y.pl = s ∧ mayO y = true ∧ y.k = 1 := by
  by_cases h0 : spanE l s = 0
  · have h1 := mem_elm h
    unfold countsL at h1
    rw [if_pos h0] at h1
    have hb := (spanE_zero.1 h0).1
    have hm := mem_countL.1 h1.1
    exact ⟨h0, hb, hm.1.1, hm.1.2.2, hb.2.1 y hm.1.1, h1.2⟩
  · rw [elm_no h0] at h
    simp at h
theorem elm_len (l : List Opn) (s : Id) : (elmL l s).length ≤ l.length := by
  by_cases h0 : spanE l s = 0
  · rw [elm_yes h0]
    exact Nat.le_trans (seenF_le _ _) (countL_sub _ _ _).length_le
  · rw [elm_no h0]; simp
end Go.Proofs.YtgjbnbojjgbmcaaGreat.Views

namespace Go.Proofs.YtgjbnbojjgbmcaaGreat.Edits
open Ops Stamp Bags Marks Homes Covers Views Go.Proofs.YtgjbnbojjgbmcaaGreat.Place
/-- Stamps no younger than a time. -/
def Upto (t : Nat) (q : List Id) : Prop := ∀ b ∈ q, b.t ≤ t
theorem rises_last : ∀ {l : List Id} {z : Id}, Rises l → l.getLast? = some z → ∀ b ∈ l, b.t ≤ z.t
  | [a], z, _, h, b, hb => by
    simp only [List.getLast?_singleton, Option.some.injEq] at h
    subst h
    rw [List.mem_singleton.1 hb]
    exact Nat.le_refl _
  | a :: c :: l, z, hr, h, b, hb => by
    have h' : (c :: l).getLast? = some z := by simpa using h
    have ih := rises_last hr.2 h'
    rcases List.mem_cons.1 hb with rfl | hb
    · exact Nat.le_trans (Nat.le_of_lt hr.1) (ih c (by simp))
    · exact ih b hb
theorem last_tgt {o : Opn} (h : mayO o = true) : (all o.pl).getLast? = some (tgt o) := by
  have hm := (mayB_iff _).1 (mayO_parts h).2.1
  have hl := last_all hm.2.2.1 (by have := hm.1; omega)
  have hc := tgt_cells h
  have ho := chain_one hm.2.2.1 (k := o.pl.length - 1) (by have := hm.1; omega)
  rw [hl]
  unfold lastV at hc
  rw [if_pos (mayO_parts h).2.1] at hc
  obtain ⟨x, hx⟩ : ∃ x, o.pl.getD (o.pl.length - 1) zrun = x := ⟨_, rfl⟩
  rw [hx] at hc ho ⊢
  obtain ⟨n, hn, n1, n2, n3, n4⟩ := ho.nat
  congr 1
  refine Id.ext' ?_ ?_
  · rw [mk_t (by omega)]; omega
  · rw [mk_r x.hr]; omega
theorem tgt_le {o : Opn} (h : mayO o = true) : (tgt o).t ≤ o.t := by
  have h3 := (mayO_parts h).2.2
  have hc := tgt_cells h
  unfold kindB kindF at h3
  split at h3
  · simp only [Bool.and_eq_true, decide_eq_true_eq, Prod.mk.injEq] at h3; omega
  · split at h3
    · simp only [Bool.and_eq_true, decide_eq_true_eq, Prod.mk.injEq] at h3; omega
    · split at h3
      · simp only [Bool.and_eq_true, decide_eq_true_eq] at h3; omega
      · cases h3
theorem upto_any {o : Opn} (h : mayO o = true) {t : Nat} (ht : o.t ≤ t) : Upto t (all o.pl) := fun b hb => by
  have := rises_last (chain_rises ((mayB_iff _).1 (mayO_parts h).2.1).2.2.1) (last_tgt h) b hb
  have := tgt_le h
  omega
/-- The place left of k, of what is seen of a section. -/
def leftM (live : List Opn) (j : Nat) (X : List Opn) (k : Nat) : List Run := if 0 < k then (X.getD (k - 1) Codes.zop).pl else beginM live (j : Int)
/-- All that is there is no younger than a time. -/
def Old (l : List Opn) (t : Nat) : Prop := ∀ o ∈ l, o.t ≤ t
theorem old_lives {l : List Opn} (hl : Bag l) {t : Nat} (h : Old l t) : ∀ o ∈ livesM l l, Upto t (all o.pl) := fun o ho => by
  have := (mem_livesM.1 ho).1
  exact upto_any (hl.2.1 o this) (h o this)
theorem getD_of {l : List Opn} {k : Nat} (h : k < l.length) : l.getD k Codes.zop = l[k]'h := by rw [List.getD_eq_getElem?_getD, List.getElem?_eq_getElem h]; rfl
end Go.Proofs.YtgjbnbojjgbmcaaGreat.Edits

namespace Go.Proofs.YtgjbnbojjgbmcaaGreat.Edits
open Ops Stamp Bags Marks Homes Covers Views Go.Proofs.YtgjbnbojjgbmcaaGreat.Place
/-- A section by its place among all. -/
abbrev sec (l : List Opn) (j : Nat) : Id := (sectsM (livesM l l)).getD j zid
end Go.Proofs.YtgjbnbojjgbmcaaGreat.Edits

namespace Go.Proofs.YtgjbnbojjgbmcaaGreat.Edits
open Ops Stamp Bags Marks Homes Covers Views Go.Proofs.YtgjbnbojjgbmcaaGreat.Place
/-- An operation of a stamp. -/
def mkO (k : Nat) (a : Id) (q : List Run) (c : Int) : Opn := ⟨k % 256, a.t, a.r, q, if -9223372036854775808 ≤ c ∧ c ≤ 9223372036854775807 then c else 0, Nat.mod_lt _ (by decide), a.ht, a.hr, by split <;> omega⟩
/-- The inserts of code points under a place: each under the one ahead; false: too deep. -/
def typed : List Run → Nat → Nat → List Int → List Opn × Bool
  | _, _, _, [] => ([], true)
  | p, r, t, c :: cs => if (und p (mk (t + 1) r)).2 = 0 then (mkO 1 (mk (t + 1) r) (und p (mk (t + 1) r)).1 c :: (typed (und p (mk (t + 1) r)).1 r (t + 1) cs).1, (typed (und p (mk (t + 1) r)).1 r (t + 1) cs).2) else ([], false)
theorem und_ok {p : List Run} {a : Id} (h : (und p a).2 = 0) : anyB p = true ∧ may a.t a.r = true ∧ mayB (und p a).1 = true ∧ all (und p a).1 = all p ++ [a] := by
  rcases und_cases p a with ⟨c, e, h2⟩ | ⟨L, e, h1, h2, h3, h4⟩
  · rw [e] at h; exact absurd h h2
  · rw [e]; exact ⟨h1, h2, h3, h4⟩
def oldB (l : List Opn) (t : Nat) : Bool := l.all (fun o => decide (o.t ≤ t))
theorem oldB_iff {l : List Opn} {t : Nat} : oldB l t = true ↔ Old l t := by unfold oldB Old; simp
/-- The error of what is asked of all. -/
def askE (l : List Opn) (r t : Nat) (s : Id) : Int := if r < 8 ∧ oldB l t = true then spanE l s else 8
theorem askE_zero {l : List Opn} {r t : Nat} {s : Id} : askE l r t s = 0 ↔ r < 8 ∧ Old l t ∧ spanE l s = 0 := by
  unfold askE
  by_cases h : r < 8 ∧ oldB l t = true
  · rw [if_pos h]
    exact ⟨fun h2 => ⟨h.1, oldB_iff.1 h.2, h2⟩, fun h2 => h2.2.2⟩
  · rw [if_neg h]
    exact ⟨fun h2 => absurd h2 (by decide), fun h2 => absurd ⟨h2.1, oldB_iff.2 h2.2.1⟩ h⟩
/-- The place left of a number in a section. -/
def leftP (l : List Opn) (s : Id) (k : Nat) : List Run := leftM (livesM l l) (whereN (livesM l l) s) (elmL l s) k
def insE (l : List Opn) (r t : Nat) (s : Id) (k : Int) (cs : List Int) (f : Int) : Int :=
  if askE l r t s = 0 then
    if 0 ≤ k ∧ k ≤ ((elmL l s).length : Int) then
      if f = 0 then if cs = [] then 2 else if 64 < cs.length then 4 else if 1073741824 < t + cs.length then 50 else if (typed (leftP l s k.toNat) r t cs).2 = true then 0 else 60
      else f
    else 2
  else askE l r t s
def insL (l : List Opn) (r t : Nat) (s : Id) (k : Int) (cs : List Int) (f : Int) : List Opn := if insE l r t s k cs f = 0 then (typed (leftP l s k.toNat) r t cs).1 else []
def delE (l : List Opn) (r t : Nat) (s : Id) (k m : Int) : Int :=
  if askE l r t s = 0 then
    if 0 ≤ k ∧ 1 ≤ m ∧ k + m ≤ ((elmL l s).length : Int) then if 64 < m then 4 else if 1073741824 < (t : Int) + m then 50 else 0
    else 2
  else askE l r t s
/-- The deletes of some, in their order. -/
def delO (r t : Nat) : List Opn → List Opn
  | [] => []
  | y :: ys => mkO 3 (mk (t + 1) r) y.pl 0 :: delO r (t + 1) ys
def delL (l : List Opn) (r t : Nat) (s : Id) (k m : Int) : List Opn := if delE l r t s k m = 0 then delO r t (((elmL l s).drop k.toNat).take m.toNat) else []
theorem sec_where {l : List Opn} {s : Id} (h : spanE l s = 0) : whereN (livesM l l) s < (livesM l l).length + 1 ∧ sec l (whereN (livesM l l) s) = s := by
  have h2 := (spanE_zero.1 h).2
  unfold whereM at h2
  have h3 : whereN (livesM l l) s < (livesM l l).length + 1 := by
    by_cases h4 : whereN (livesM l l) s < (livesM l l).length + 1
    · exact h4
    · rw [if_neg h4] at h2
      omega
  exact ⟨h3, where_of h3⟩
theorem left_any {l : List Opn} {s : Id} (h : spanE l s = 0) {k : Nat} (hk : k ≤ (elmL l s).length) : anyB (leftP l s k) = true := by
  obtain ⟨hb, -⟩ := spanE_zero.1 h
  obtain ⟨hj, -⟩ := sec_where h
  unfold leftP leftM
  split
  · rename_i h0
    have hk1 : k - 1 < (elmL l s).length := by omega
    rw [getD_of hk1]
    exact anyB_may (mayO_parts (mem_elm_l (List.getElem_mem hk1)).2.2.2.2.1).2.1
  · obtain ⟨j, hjj⟩ : ∃ j, whereN (livesM l l) s = j := ⟨_, rfl⟩
    rw [hjj] at hj ⊢
    cases j with
    | zero => exact (anyB_iff _).2 (.inl rfl)
    | succ j =>
      have hj' : j < (livesM l l).length := by omega
      rw [show ((j + 1 : Nat) : Int) = (j : Int) + 1 by omega, begin_succ hj']
      exact anyB_may (mayO_parts (hb.2.1 _ (mem_livesM.1 (List.getElem_mem hj')).1)).2.1
end Go.Proofs.YtgjbnbojjgbmcaaGreat.Edits

namespace Go.Proofs.YtgjbnbojjgbmcaaGreat.Views
open Go.RowKit Go.WideShapes Stamp Go.Proofs.YtgjbnbojjgbmcaaGreat.Place Ops Codes Bags Marks Homes Covers
attribute [local go_sem ↓] Go.wp_at_zero Go.wp_at_succ
attribute [local go_sem] yielded_undef
/-- An insert as an element. -/
def elv (o : Opn) (v : Value) : Value := .agg #[.int .u32 (o.t : Int), .int .u8 (o.r : Int), v, .int .i64 o.p]
def elmE : Enc Opn where
  sz := 4
  pos := by decide
  inn w cs o := ∃ v, cs = [.int .u32 (o.t : Int), .int .u8 (o.r : Int), v, .int .i64 o.p] ∧ Runs w v o.pl
  len := by rintro w cs o ⟨v, rfl, _⟩; rfl
  one := by
    rintro w cs o ⟨v, rfl, h⟩ u hu
    obtain ⟨ao, cap, rfl⟩ := h.shape
    simp only [List.mem_cons, List.not_mem_nil, or_false] at hu
    rcases hu with rfl | rfl | rfl | rfl <;> rfl
  keep := by rintro w w' cs o hb ⟨v, rfl, h⟩; exact ⟨v, rfl, h.keeps hb⟩
abbrev ElL (w : World) (v : Value) (l : List Opn) : Prop := Seq elmE w v l
theorem el_at {w : World} {ao : Option Addr} {m cap : Nat} {l : List Opn} (h : ElL w (.slice ao m cap) l) (k : Nat) (hk : k < l.length) :
    ∃ b off v, ao = some ⟨b, off, none⟩ ∧ b < w.heap.size ∧ Runs w v (l[k]'hk).pl ∧ w.cell? ⟨b, off + k * 4, none⟩ = some (.int .u32 ((l[k]'hk).t : Int)) ∧ w.cell? ⟨b, off + k * 4 + 1, none⟩ = some (.int .u8 ((l[k]'hk).r : Int)) ∧
      w.cell? ⟨b, off + k * 4 + 2, none⟩ = some v ∧ w.cell? ⟨b, off + k * 4 + 3, none⟩ = some (.int .i64 (l[k]'hk).p) := by
  obtain ⟨b, off, c, h1, h2, ⟨v, rfl, h3⟩, h4⟩ := h.at k hk
  exact ⟨b, off, v, h1, h2, h3, h4 0 (by decide), h4 1 (by decide), h4 2 (by decide), h4 3 (by decide)⟩
theorem elm_info : (Tryz.prog.info? 91).map (fun i => (i.zero, i.size, i.bytes)) = some (some (.agg #[.int .u32 0, .int .u8 0, .slice none 0 0, .int .i64 0]), 4, 40) := by kernel_rfl
theorem cells4 {X : World} {g : Nat} {c0 c1 c2 c3 : Value} {e : TypeId} (h : X.heap[g]? = some (.cells #[c0, c1, c2, c3] e)) :
    X.cell? ⟨g, 0, none⟩ = some c0 ∧ X.cell? ⟨g, 1, none⟩ = some c1 ∧ X.cell? ⟨g, 2, none⟩ = some c2 ∧ X.cell? ⟨g, 3, none⟩ = some c3 :=
  ⟨cell_of_row _ g 0 #[c0, c1, c2, c3] e _ h, cell_of_row _ g 1 #[c0, c1, c2, c3] e _ h, cell_of_row _ g 2 #[c0, c1, c2, c3] e _ h, cell_of_row _ g 3 #[c0, c1, c2, c3] e _ h⟩
end Go.Proofs.YtgjbnbojjgbmcaaGreat.Views

namespace Go.Proofs.YtgjbnbojjgbmcaaGreat.Homes
open Go.RowKit Go.WideShapes Stamp Go.Proofs.YtgjbnbojjgbmcaaGreat.Place Ops Codes Bags Marks
attribute [local go_sem ↓] Go.wp_at_zero Go.wp_at_succ
attribute [local go_sem] yielded_undef
theorem where_is {live : List Opn} {s : Id} {j : Nat} (hj : j < (sectsM live).length) (h1 : ∀ i (h : i < (sectsM live).length), i < j → (sectsM live)[i]'h ≠ s) (h2 : (sectsM live)[j]'hj = s) : whereM live s = j := by
  have : whereN live s = j := by
    unfold whereN
    rw [List.findIdx_eq hj]
    exact ⟨by simpa using h2, fun i hi => by simpa using h1 i (by omega) hi⟩
  unfold whereM
  rw [this, if_pos (by rw [← sectsM_len]; exact hj)]
theorem where_no {live : List Opn} {s : Id} (h1 : ∀ i (h : i < (sectsM live).length), (sectsM live)[i]'h ≠ s) : whereM live s = -1 := by
  unfold whereM
  rw [if_neg]
  intro h
  have h' : whereN live s < (sectsM live).length := by rw [sectsM_len]; exact h
  have := List.findIdx_getElem (p := fun x => decide (x = s)) (xs := sectsM live) (w := h')
  exact h1 _ h' (of_decide_eq_true this)
theorem getD_get {l : List Id} {j : Nat} (h : j < l.length) : l.getD j zid = l[j]'h := by rw [List.getD_eq_getElem?_getD, List.getElem?_eq_getElem h]; rfl
end Go.Proofs.YtgjbnbojjgbmcaaGreat.Homes

namespace Go.Proofs.YtgjbnbojjgbmcaaGreat.Homes
open Go.RowKit Go.WideShapes Stamp Go.Proofs.YtgjbnbojjgbmcaaGreat.Place Ops Codes Bags Marks
attribute [local go_sem ↓] Go.wp_at_zero Go.wp_at_succ
attribute [local go_sem] yielded_undef
theorem begin_low {live : List Opn} {a : Int} (h : a < 1) : beginM live a = [] := by unfold beginM; rw [if_neg (by omega)]
theorem begin_high {live : List Opn} {a : Int} (h : (live.length : Int) < a) : beginM live a = [] := by unfold beginM; rw [if_neg (by omega)]
theorem lives_fits {l : List Opn} (h : Bag l) : (livesM l l).length ≤ 1024 ∧ ∀ o ∈ livesM l l, mayO o = true := ⟨Nat.le_trans (livesM_le l l) h.1, lives_may h.2.1⟩
end Go.Proofs.YtgjbnbojjgbmcaaGreat.Homes

namespace Go.Proofs.YtgjbnbojjgbmcaaGreat.Homes
open Go.RowKit Go.WideShapes Stamp Go.Proofs.YtgjbnbojjgbmcaaGreat.Place Ops Codes Bags Marks
attribute [local go_sem ↓] Go.wp_at_zero Go.wp_at_succ
attribute [local go_sem] yielded_undef
theorem where_lo (live : List Opn) (s : Id) : -1 ≤ whereM live s ∧ whereM live s ≤ live.length := by
  unfold whereM
  split <;> omega
end Go.Proofs.YtgjbnbojjgbmcaaGreat.Homes

namespace Go.Proofs.YtgjbnbojjgbmcaaGreat.Views
open Go.RowKit Go.WideShapes Stamp Go.Proofs.YtgjbnbojjgbmcaaGreat.Place Ops Codes Bags Marks Homes Covers
attribute [local go_sem ↓] Go.wp_at_zero Go.wp_at_succ
attribute [local go_sem] yielded_undef
theorem elm_fits (l : List Opn) (s : Id) : (elmL l s).length ≤ 1024 ∧ (∀ o ∈ elmL l s, mayO o = true) := by
  refine ⟨?_, fun o ho => (mem_elm_l ho).2.2.2.2.1⟩
  by_cases h0 : spanE l s = 0
  · exact Nat.le_trans (elm_len l s) (spanE_zero.1 h0).1.1
  · rw [elm_no h0]; simp
end Go.Proofs.YtgjbnbojjgbmcaaGreat.Views

namespace Go.Proofs.YtgjbnbojjgbmcaaGreat.Views
open Go.RowKit Go.WideShapes Stamp Go.Proofs.YtgjbnbojjgbmcaaGreat.Place Ops Codes Bags Marks Homes Covers
attribute [local go_sem ↓] Go.wp_at_zero Go.wp_at_succ
attribute [local go_sem] yielded_undef
/-- Elements in cells, each place of the call's own. -/
def HoldE (w : World) (base : Nat) : List Value → List Opn → Prop
  | cs, [] => cs = []
  | cs, o :: l => ∃ v d, cs = [.int .u32 (o.t : Int), .int .u8 (o.r : Int), v, .int .i64 o.p] ++ d ∧ w.ownsRow base 32 3 v o.pl.length (runs o.pl) ∧ HoldE w base d l
theorem HoldE.rows {w : World} {base : Nat} : ∀ {cs : List Value} {l : List Opn}, HoldE w base cs l → elmE.rows w cs l
  | _, [], h => h
  | _, _ :: _, ⟨v, d, h1, h2, h3⟩ => ⟨_, d, h1, ⟨v, rfl, Runs.own h2⟩, HoldE.rows h3⟩
theorem HoldE.keeps {w w' : World} {base : Nat} (hb : Below w.heap.size w w') : ∀ {cs : List Value} {l : List Opn}, HoldE w base cs l → HoldE w' base cs l
  | _, [], h => h
  | _, _ :: _, ⟨v, d, h1, h2, h3⟩ => ⟨v, d, h1, own_stays h2 hb, HoldE.keeps hb h3⟩
theorem HoldE.append {w : World} {base : Nat} : ∀ {cs ds : List Value} {l m : List Opn}, HoldE w base cs l → HoldE w base ds m → HoldE w base (cs ++ ds) (l ++ m)
  | cs, _, [], _, h, h2 => by rw [show cs = [] from h]; exact h2
  | _, ds, _ :: _, _, ⟨v, d, h1, h3, h4⟩, h2 => ⟨v, d ++ ds, by rw [h1, List.append_assoc], h3, HoldE.append h4 h2⟩
theorem HoldE.base {w : World} {b b' : Nat} (hb : b' ≤ b) : ∀ {cs : List Value} {l : List Opn}, HoldE w b cs l → HoldE w b' cs l
  | _, [], h => h
  | _, _ :: _, ⟨v, d, h1, h2, h3⟩ => ⟨v, d, h1, op_base h2 hb, HoldE.base hb h3⟩
theorem HoldE.grown {w w' : World} {base sz n B : Nat} {v : Value} {rs : List Value} (hg : w.grownBy w' v.ownBlock) (hv : w.ownsRow B 91 sz v n rs) : ∀ {cs : List Value} {l : List Opn}, HoldE w base cs l → HoldE w' base cs l
  | _, [], h => h
  | _, _ :: _, ⟨u, d, h1, h2, h3⟩ => by
    refine ⟨u, d, h1, ?_, HoldE.grown hg hv h3⟩
    refine ⟨h2.1, h2.2.imp id fun ⟨g, cap, cur, e1, e2, e3, e4⟩ => ⟨g, cap, cur, e1, e2, ?_, e4⟩⟩
    exact blk_grown hg (own_ne hv e3 (by intro c h; injection h with h1 h2 h3; exact absurd h2 (by decide))) e3
/-- A list of elements of the call's own, its places too. -/
def OwnE (w : World) (base : Nat) (v : Value) (l : List Opn) : Prop := ∃ cs, w.ownsRow base 91 4 v l.length cs ∧ HoldE w base cs l
theorem OwnE.el {w : World} {base : Nat} {v : Value} {l : List Opn} (h : OwnE w base v l) : ElL w v l := by
  obtain ⟨cs, h1, h2⟩ := h
  exact ⟨cs, Sees.own h1, h2.rows⟩
theorem OwnE.nil (w : World) (base : Nat) : OwnE w base (.slice none 0 0) [] := ⟨[], World.ownsRow_nil _ _ _ _, rfl⟩
theorem OwnE.base {w : World} {b b' : Nat} {v : Value} {l : List Opn} (h : OwnE w b v l) (hb : b' ≤ b) : OwnE w b' v l := by
  obtain ⟨cs, h1, h2⟩ := h
  exact ⟨cs, op_base h1 hb, h2.base hb⟩
/-- Elements of the call's own, and an error. -/
def DoneOE (L : List Opn) (x : Int) (w : World) (e : Ending) (w' : World) : Prop := ∃ v, e = .returned (.tuple #[v, .int .i64 x]) ∧ OwnE w' w.heap.size v L ∧ Below w.heap.size w w'
/-- An element of the call's own, and an error. -/
def OneE (o : Opn) (x : Int) (w : World) (e : Ending) (w' : World) : Prop := ∃ vt, e = .returned (.tuple #[elv o vt, .int .i64 x]) ∧ w'.ownsRow w.heap.size 32 3 vt o.pl.length (runs o.pl) ∧ Below w.heap.size w w'
end Go.Proofs.YtgjbnbojjgbmcaaGreat.Views

namespace Go.Proofs.YtgjbnbojjgbmcaaGreat
open Go.RowKit Go.WideShapes
open Go.Maps (Keyed IsMap)
theorem laidOut : laidOutB Tryz.prog = true := by kernel_rfl
theorem idRow : (28 : TypeId) < Tryz.prog.types.size := of_decide_eq_true (by kernel_rfl)
theorem idWide : (match Tryz.prog.underlying 28 with | some (.array _ _) | some (.struct _) => true | _ => false) = true := by rw [Tryz.underlying28]
set_option maxRecDepth 100000 in
theorem idLaw : Keyed Tryz.prog 28 := Keyed.of_law (deep_law_laid laidOut (m := 2) (by omega) idRow (by kernel_rfl) idWide)
theorem idType : Tryz.prog.keyType 28 = true := by kernel_rfl
theorem idCells : Tryz.prog.cellsOf 28 = 2 := by kernel_rfl
theorem idCell0 : Tryz.prog.cellsOf 26 = 1 := by kernel_rfl
theorem idCell1 : Tryz.prog.cellsOf 5 = 1 := by kernel_rfl
theorem idKey_some (a : Id) : ∃ l, keyOf Tryz.prog 28 (idv a) = some l := by
  obtain ⟨n, hn⟩ : ∃ n, Tryz.prog.types.size = n + 1 := by
    have h := idRow
    generalize Tryz.prog.types.size = s at h ⊢
    cases s with
    | zero => exact absurd h (Nat.not_lt_zero _)
    | succ n => exact ⟨n, rfl⟩
  have w0 : (Lit.int .u32 (a.t : Int)).wf = true := by
    have h1 : IntKind.u32.min = 0 := by decide
    have h2 : IntKind.u32.max = 4294967295 := by decide
    have := a.ht
    simp [Lit.wf, h1, h2]
    omega
  have w1 : (Lit.int .u8 (a.r : Int)).wf = true := by
    have h1 : IntKind.u8.min = 0 := by decide
    have h2 : IntKind.u8.max = 255 := by decide
    have := a.hr
    simp [Lit.wf, h1, h2]
    omega
  unfold keyOf idv
  rw [Tryz.underlying28, idType, hn]
  simp [Value.formed, Program.keyLits, Tryz.underlying28, Tryz.underlying26, Tryz.underlying5, idCells, idCell0, idCell1, w0, w1, Value.cells]
/-- A stamp as a key. -/
noncomputable def key (a : Id) : Lit := (keyOf Tryz.prog 28 (idv a)).getD (.bool true)
theorem key_of (a : Id) : keyOf Tryz.prog 28 (idv a) = some (key a) := by
  obtain ⟨l, hl⟩ := idKey_some a
  unfold key
  rw [hl]
  rfl
theorem key_inj {a b : Id} (h : key a = key b) : a = b := by
  have h1 := key_of a
  rw [h] at h1
  have := idLaw.inj h1 (key_of b)
  unfold idv at this
  simp at this
  exact Id.ext' (by omega) (by omega)
/-- Block b is a map with just these stamps. -/
def SetI (w : World) (b n : Nat) (S : Id → Bool) : Prop := ∃ D : DataW Value, w.ownsMap Tryz.prog 28 unitElem b n D ∧ ∀ a : Id, Maps.has D (key a) = S a
theorem SetI.made (w : World) : SetI (w.alloc (.map #[] 0)) w.heap.size 0 (fun _ => false) := ⟨_, World.ownsMap_made w _ _ _, fun _ => rfl⟩
theorem SetI.keeps {w w' : World} {b n : Nat} {S : Id → Bool} (h : SetI w b n S) (hb : Below w.heap.size w w') : SetI w' b n S := by
  obtain ⟨D, ⟨es, clock, h1, h2, h3, h4⟩, h5⟩ := h
  exact ⟨D, ⟨es, clock, (hb.block b (Array.getElem?_eq_some_iff.1 h1).1).trans h1, h2, h3, h4⟩, h5⟩
theorem SetI.lt {w : World} {b n : Nat} {S : Id → Bool} (h : SetI w b n S) : b < w.heap.size := by
  obtain ⟨D, h1, _⟩ := h
  exact h1.lt
theorem SetI.ext {w : World} {b n : Nat} {S T : Id → Bool} (h : SetI w b n S) (e : ∀ a, S a = T a) : SetI w b n T := by
  obtain ⟨D, h1, h2⟩ := h
  exact ⟨D, h1, fun a => (h2 a).trans (e a)⟩
set_option maxRecDepth 100000 in
/-- A store of one more, at the operation. -/
theorem wpList_put_set (w : World) {ops : Array Oper} {rest : List Oper} {o : Oper} {a : Act} {Q : Exit → Act → World → Prop}
    (hg : o.guard = none) (m x v : Operand) (t e : TypeId) (hop : o.op = Op.mapUpdate t m x v) (ht : Tryz.prog.underlying t = some (.map 28 e))
    (b n : Nat) (i : Id) (S : Id → Bool) (hM : SetI w b n S) (hn : n < 9223372036854775807) (hm : a.eval m = .map (some b)) (hx : a.eval x = .agg #[.int .u32 (i.t : Int), .int .u8 (i.r : Int)]) (hv : a.eval v = .agg #[])
    (hK : ∀ w', SetI w' b (n + 1) (fun k => decide (k = i) || S k) → w.grownBy w' (some b) → wpList Tryz.prog ops Q rest (a.put o.dst undef) w') : wpList Tryz.prog ops Q (o :: rest) a w := by
  obtain ⟨D, h1, h2⟩ := hM
  refine wpList_mapUpdate_own w hg m x v t hop 28 e idLaw ht unitElem b n D hm h1 (by unfold maxLen; omega) (idv i) (.agg #[]) (key i) hx hv (key_of i) (.agg []) [] unitElem_mk (fun w' h g => hK w' ⟨_, h, fun k => ?_⟩ g)
  by_cases hk : k = i
  · subst hk
    rw [Maps.has_put_same h1.isMap (idLaw.key (key_of k))]
    simp
  · rw [Maps.has_put_other (fun e => hk (key_inj e)), h2 k]
    simp [hk]
theorem del_size {w : World} {b n : Nat} {D : DataW Value} (h : w.ownsMap Tryz.prog 28 unitElem b n D) (i : Id) : decide (Maps.size (D.del (key i)) < Maps.size D) = Maps.has D (key i) := by
  have e := Maps.size_del (h.tidy idLaw) (k := key i)
  cases hh : Maps.has D (key i) <;> rw [hh] at e <;> simp at e
  · exact decide_eq_false (by omega)
  · exact decide_eq_true (by omega)
theorem del_has {D : DataW Value} {S : Id → Bool} (h : ∀ a : Id, Maps.has D (key a) = S a) (i : Id) : ∀ a : Id, Maps.has (D.del (key i)) (key a) = (S a && !decide (a = i)) := fun a => by
  by_cases e : a = i
  · subst e
    rw [Maps.has_del_same]
    simp
  · rw [Maps.has_del_other (fun k => e (key_inj k)), h a]
    simp [e]
end Go.Proofs.YtgjbnbojjgbmcaaGreat

namespace Go.Proofs.YtgjbnbojjgbmcaaGreat.Marks
open Go.RowKit Go.WideShapes Stamp Go.Proofs.YtgjbnbojjgbmcaaGreat.Place Ops Codes Bags
attribute [local go_sem ↓] Go.wp_at_zero Go.wp_at_succ
theorem ended_snoc (l : List Opn) (x : Opn) (a : Id) : ended (l ++ [x]) a = (ended l a || (decide (x.k = 4) && decide (tgt x = a))) := by
  unfold ended
  rw [List.any_append]
  simp
set_option maxRecDepth 100000 in
set_option maxHeartbeats 4000000 in
theorem joinedIn_any {v : Value} {l : List Opn} {w : World} (hv : OpL w v l) (hm : ∀ o ∈ l, mayO o = true) (hl : l.length ≤ 1024) :
    Calls Tryz.prog 79 #[v] w fun e w' => e = .returned (.map (some w.heap.size)) ∧ SetI w' w.heap.size l.length (ended l) ∧ Below w.heap.size w w' := by
  obtain ⟨ao, cap, rfl⟩ := hv.shape
  obtain ⟨n, hn⟩ : ∃ n, n = l.length := ⟨_, rfl⟩
  have HV : Hid (∀ W : World, Below w.heap.size w W → OpL W (.slice ao l.length cap) l) := fun W h => hv.keeps h
  have HN := Lib.hid hn
  have HMY := Lib.hid hm
  rw [← hn] at hl ⊢
  have hmm := @run_makeMap Tryz.prog
  have S0 : Hid (SetI (w.alloc (.map #[] 0)) w.heap.size 0 (ended (l.take 0))) := (SetI.made w).ext (fun a => by rw [List.take_zero]; rfl)
  have B0 := Lib.hid ((Below.refl w.heap.size w).alloc (Nat.le_refl _) (.map #[] 0))
  clear hv hn hm
  go_enter Tryz.func79, Tryz.ntmps79
  go_wp2
  go_loopw [9] (fun i wr => ∃ j : Nat, j ≤ n ∧ i = .int .i64 (j : Int) ∧ Hid (SetI wr w.heap.size j (ended (l.take j))) ∧ Hid (Below w.heap.size w wr)) (fun i _ => n - (intOf i).toNat)
  case atStart => exact ⟨0, by omega, rfl, S0, B0⟩
  case round =>
    clear S0 B0
    obtain ⟨j, hj, rfl, hset, hbel⟩ := hrel
    by_cases hjn : j < n
    rotate_left
    · have q3 : decide (j < n) = false := by simpa using hjn
      have hkk : l.take j = l := List.take_of_length_le (by have := HN.out; omega)
      rw [hkk] at hset
      obtain rfl : j = n := by omega
      clear hkk
      go_wp2
      go_ret
      exact ⟨rfl, hset.out, hbel.out⟩
    have q3 : decide (j < n) = true := by simpa using hjn
    have q4 : (0 : Int) ≤ (j : Int) := by omega
    have q5 : (j : Int) < (n : Int) := by omega
    have hjl : j < l.length := by rw [← HN.out]; exact hjn
    obtain ⟨bb, oo, u, e, hbb, hru, h0, h1, h2, h3, h4⟩ := opl_at (HV.out wr hbel.out) j hjl
    subst e
    obtain ⟨x, hx⟩ : ∃ x, x = l[j]'hjl := ⟨_, rfl⟩
    rw [← hx] at hru h0 h1 h2 h4
    have hxm : x ∈ l := by rw [hx]; exact List.getElem_mem _
    have MX := HMY.out x hxm
    have hsn : ∀ a, ended (l.take (j + 1)) a = (ended (l.take j) a || (decide (x.k = 4) && decide (tgt x = a))) := fun a => by rw [List.take_succ_eq_append_getElem hjl, ended_snoc, hx]
    have HSN := Lib.hid hsn
    have hc := tgt_cells MX
    have LS : Hid (∀ W : World, Below wr.heap.size wr W → Calls Tryz.prog 74 #[u] W fun e w' => e = .returned (.agg #[.int .u32 ((tgt x).t : Int), .int .u8 ((tgt x).r : Int)]) ∧ Below W.heap.size W w') := fun W h => by
      rw [hc.1, hc.2]
      exact pLast_any (hru.keeps h)
    obtain ⟨g, hg⟩ : ∃ g, tgt x = g := ⟨_, rfl⟩
    rw [hg] at LS HSN
    obtain ⟨T, R, hT, hR⟩ := g
    simp only at LS
    obtain ⟨uo, uc, rfl⟩ := hru.shape
    obtain ⟨nu, hnu⟩ : ∃ n, n = x.pl.length := ⟨_, rfl⟩
    rw [← hnu] at h3 LS
    obtain ⟨k, hk⟩ : ∃ z, x.k = z := ⟨_, rfl⟩
    obtain ⟨t, ht⟩ : ∃ z, x.t = z := ⟨_, rfl⟩
    obtain ⟨r, hr⟩ : ∃ z, x.r = z := ⟨_, rfl⟩
    obtain ⟨p, hp⟩ : ∃ z, x.p = z := ⟨_, rfl⟩
    rw [hk] at h0 HSN
    rw [ht] at h1
    rw [hr] at h2
    rw [hp] at h4
    have BL : Hid (Below wr.heap.size wr (wr.alloc (.cells #[.int .u8 (k : Int), .int .u32 (t : Int), .int .u8 (r : Int), .slice uo nu uc, .int .i64 p] 38))) := (Below.refl _ _).alloc (Nat.le_refl _) _
    have SL := Lib.hid (hset.out.keeps BL.out)
    have BW := Lib.hid (bt hbel.out BL.out)
    clear hru hx hxm MX hc hg hnu hk ht hr hp hsn hset
    by_cases hk4 : k = 4
    rotate_left
    · have qk : ((k : Int) == 4) = false := by simp; omega
      have qk2 : decide ((k : Int) = 4) = false := decide_eq_false (by omega)
      have S6 : Hid (SetI (wr.alloc (.cells #[.int .u8 (k : Int), .int .u32 (t : Int), .int .u8 (r : Int), .slice uo nu uc, .int .i64 p] 38)) w.heap.size (j + 1) (ended (l.take (j + 1)))) := by
        obtain ⟨D, d1, d2⟩ := SL.out
        exact ⟨D, d1.mono (Nat.le_succ _), fun a => by rw [d2 a, HSN.out a, decide_eq_false hk4]; simp⟩
      clear SL LS hk4 HSN
      go_wp2
      go_roundw
      case rel => exact ⟨j + 1, by omega, by go_num, S6, BW⟩
      case measure => simp [intOf]; omega
    · subst hk4
      have qk : ((((4 : Nat) : Int)) == 4) = true := by rfl
      go_wp2_with fail
      refine (LS.out _ BL.out).mono ?_
      rintro e w2 ⟨rfl, b2⟩
      have S2 := Lib.hid (SL.out.keeps b2)
      have B2 := Lib.hid (bt BW.out b2)
      clear b2 SL BW
      go_wp2_with (at_mapUpdate; refine wpList_put_set _ rfl _ _ _ 100 102 rfl Tryz.underlying100 w.heap.size j ⟨T, R, hT, hR⟩ (ended (l.take j)) S2.out (by omega) rfl rfl rfl ?_)
      intro w3 s3 g3
      have S3 : Hid (SetI w3 w.heap.size (j + 1) (ended (l.take (j + 1)))) := s3.ext (fun a => by
        rw [HSN.out a, Bool.or_comm]
        simp [eq_comm])
      have B3 : Hid (Below w.heap.size w w3) := B2.out.grown g3 B2.out.size (fun i e => by cases e; exact Nat.le_refl _)
      clear s3 g3 S2 B2 LS BL
      go_wp2
      go_roundw
      case rel => exact ⟨j + 1, by omega, by go_num, S3, B3⟩
      case measure => simp [intOf]; omega
set_option maxRecDepth 100000 in
set_option maxHeartbeats 4000000 in
theorem takeOut_any {b n : Nat} {S : Id → Bool} (i : Id) {w : World} (hs : SetI w b n S) :
    Calls Tryz.prog 80 #[.map (some b), .agg #[.int .u32 (i.t : Int), .int .u8 (i.r : Int)]] w fun e w' => e = .returned (.bool (S i)) ∧ SetI w' b n (fun a => S a && !decide (a = i)) ∧ w.grownBy w' (some b) := by
  obtain ⟨D, d1, d2⟩ := hs
  have D1 : Hid ((w.alloc (.cells #[.int .u32 (i.t : Int), .int .u8 (i.r : Int)] 28)).ownsMap Tryz.prog 28 unitElem b n D) := d1.alloc _
  have G1 : Hid (w.grownBy (w.alloc (.cells #[.int .u32 (i.t : Int), .int .u8 (i.r : Int)] 28)) none) := World.grownBy_alloc _ _ _
  have h := del_size d1 i
  rw [d2 i] at h
  obtain ⟨m1, hm1⟩ : ∃ z, Maps.size D = z := ⟨_, rfl⟩
  obtain ⟨m2, hm2⟩ : ∃ z, Maps.size (D.del (key i)) = z := ⟨_, rfl⟩
  rw [hm1, hm2] at h
  have HM1 := Lib.hid hm1
  have HM2 := Lib.hid hm2
  obtain ⟨q, hq⟩ : ∃ q, S i = q := ⟨_, rfl⟩
  rw [hq] at h ⊢
  have h' : decide ((m2 : Int) < (m1 : Int)) = q := by rw [← h]; exact decide_eq_decide.2 (by omega)
  have HD : Hid (∀ a : Id, Maps.has (D.del (key i)) (key a) = (S a && !decide (a = i))) := del_has d2 i
  clear d1 d2 hm1 hm2 hq
  obtain ⟨w3, hrun, d3, t3⟩ := D1.out.drop idLaw Tryz.underlying100 (key_of i) 0
  unfold idv at hrun
  have D3 := Lib.hid d3
  have G3 := Lib.hid t3.grown
  clear d3 t3
  have hl1 := D1.out.len Tryz.underlying100 3
  rw [HM1.out] at hl1
  have hl3 := D3.out.len Tryz.underlying100 3
  rw [HM2.out] at hl3
  go_enter Tryz.func80, Tryz.ntmps80
  go_wp2
  go_ret
  exact ⟨rfl, ⟨_, D3.out, HD.out⟩, ⟨G3.out.os.trans G1.out.os, G3.out.tape.trans G1.out.tape, G3.out.output.trans G1.out.output, Nat.le_trans G1.out.size G3.out.size, fun k hk hne => (G3.out.block k (Nat.lt_of_lt_of_le hk G1.out.size) hne).trans (G1.out.block k hk (by simp))⟩⟩
end Go.Proofs.YtgjbnbojjgbmcaaGreat.Marks

namespace Go.Proofs.YtgjbnbojjgbmcaaGreat.Views
open Go.RowKit Go.WideShapes Stamp Go.Proofs.YtgjbnbojjgbmcaaGreat.Place Ops Codes Bags Marks Homes Covers
attribute [local go_sem ↓] Go.wp_at_zero Go.wp_at_succ
theorem gone_snoc (l : List Opn) (x : Opn) (a : Id) : goneM (l ++ [x]) a = (goneM l a || (decide (x.k = 3) && decide (tgt x = a))) := by
  unfold goneM
  rw [List.any_append]
  simp
set_option maxRecDepth 100000 in
set_option maxHeartbeats 4000000 in
theorem takenAway_any {v : Value} {l : List Opn} {w : World} (hv : OpL w v l) (hm : ∀ o ∈ l, mayO o = true) (hl : l.length ≤ 1024) :
    Calls Tryz.prog 57 #[v] w fun e w' => e = .returned (.map (some w.heap.size)) ∧ SetI w' w.heap.size l.length (goneM l) ∧ Below w.heap.size w w' := by
  obtain ⟨ao, cap, rfl⟩ := hv.shape
  obtain ⟨n, hn⟩ : ∃ n, n = l.length := ⟨_, rfl⟩
  have HV : Hid (∀ W : World, Below w.heap.size w W → OpL W (.slice ao l.length cap) l) := fun W h => hv.keeps h
  have HN := Lib.hid hn
  have HMY := Lib.hid hm
  rw [← hn] at hl ⊢
  have hmm := @run_makeMap Tryz.prog
  have S0 : Hid (SetI (w.alloc (.map #[] 0)) w.heap.size 0 (goneM (l.take 0))) := (SetI.made w).ext (fun a => by rw [List.take_zero]; rfl)
  have B0 := Lib.hid ((Below.refl w.heap.size w).alloc (Nat.le_refl _) (.map #[] 0))
  clear hv hn hm
  go_enter Tryz.func57, Tryz.ntmps57
  go_wp2
  go_loopw [9] (fun i wr => ∃ j : Nat, j ≤ n ∧ i = .int .i64 (j : Int) ∧ Hid (SetI wr w.heap.size j (goneM (l.take j))) ∧ Hid (Below w.heap.size w wr)) (fun i _ => n - (intOf i).toNat)
  case atStart => exact ⟨0, by omega, rfl, S0, B0⟩
  case round =>
    clear S0 B0
    obtain ⟨j, hj, rfl, hset, hbel⟩ := hrel
    by_cases hjn : j < n
    rotate_left
    · have q3 : decide (j < n) = false := by simpa using hjn
      have hkk : l.take j = l := List.take_of_length_le (by have := HN.out; omega)
      rw [hkk] at hset
      obtain rfl : j = n := by omega
      clear hkk
      go_wp2
      go_ret
      exact ⟨rfl, hset.out, hbel.out⟩
    have q3 : decide (j < n) = true := by simpa using hjn
    have q4 : (0 : Int) ≤ (j : Int) := by omega
    have q5 : (j : Int) < (n : Int) := by omega
    have hjl : j < l.length := by rw [← HN.out]; exact hjn
    obtain ⟨bb, oo, u, e, hbb, hru, h0, h1, h2, h3, h4⟩ := opl_at (HV.out wr hbel.out) j hjl
    subst e
    obtain ⟨x, hx⟩ : ∃ x, x = l[j]'hjl := ⟨_, rfl⟩
    rw [← hx] at hru h0 h1 h2 h4
    have hxm : x ∈ l := by rw [hx]; exact List.getElem_mem _
    have MX := HMY.out x hxm
    have hsn : ∀ a, goneM (l.take (j + 1)) a = (goneM (l.take j) a || (decide (x.k = 3) && decide (tgt x = a))) := fun a => by rw [List.take_succ_eq_append_getElem hjl, gone_snoc, hx]
    have HSN := Lib.hid hsn
    have hc := tgt_cells MX
    have LS : Hid (∀ W : World, Below wr.heap.size wr W → Calls Tryz.prog 74 #[u] W fun e w' => e = .returned (.agg #[.int .u32 ((tgt x).t : Int), .int .u8 ((tgt x).r : Int)]) ∧ Below W.heap.size W w') := fun W h => by
      rw [hc.1, hc.2]
      exact pLast_any (hru.keeps h)
    obtain ⟨g, hg⟩ : ∃ g, tgt x = g := ⟨_, rfl⟩
    rw [hg] at LS HSN
    obtain ⟨T, R, hT, hR⟩ := g
    simp only at LS
    obtain ⟨uo, uc, rfl⟩ := hru.shape
    obtain ⟨nu, hnu⟩ : ∃ n, n = x.pl.length := ⟨_, rfl⟩
    rw [← hnu] at h3 LS
    obtain ⟨k, hk⟩ : ∃ z, x.k = z := ⟨_, rfl⟩
    obtain ⟨t, ht⟩ : ∃ z, x.t = z := ⟨_, rfl⟩
    obtain ⟨r, hr⟩ : ∃ z, x.r = z := ⟨_, rfl⟩
    obtain ⟨p, hp⟩ : ∃ z, x.p = z := ⟨_, rfl⟩
    rw [hk] at h0 HSN
    rw [ht] at h1
    rw [hr] at h2
    rw [hp] at h4
    have BL : Hid (Below wr.heap.size wr (wr.alloc (.cells #[.int .u8 (k : Int), .int .u32 (t : Int), .int .u8 (r : Int), .slice uo nu uc, .int .i64 p] 38))) := (Below.refl _ _).alloc (Nat.le_refl _) _
    have SL := Lib.hid (hset.out.keeps BL.out)
    have BW := Lib.hid (bt hbel.out BL.out)
    clear hru hx hxm MX hc hg hnu hk ht hr hp hsn hset
    by_cases hk3 : k = 3
    rotate_left
    · have qk : ((k : Int) == 3) = false := by simp; omega
      have qk2 : decide ((k : Int) = 3) = false := decide_eq_false (by omega)
      have S6 : Hid (SetI (wr.alloc (.cells #[.int .u8 (k : Int), .int .u32 (t : Int), .int .u8 (r : Int), .slice uo nu uc, .int .i64 p] 38)) w.heap.size (j + 1) (goneM (l.take (j + 1)))) := by
        obtain ⟨D, d1, d2⟩ := SL.out
        exact ⟨D, d1.mono (Nat.le_succ _), fun a => by rw [d2 a, HSN.out a, decide_eq_false hk3]; simp⟩
      clear SL LS hk3 HSN
      go_wp2
      go_roundw
      case rel => exact ⟨j + 1, by omega, by go_num, S6, BW⟩
      case measure => simp [intOf]; omega
    · subst hk3
      have qk : ((((3 : Nat) : Int)) == 3) = true := by rfl
      go_wp2_with fail
      refine (LS.out _ BL.out).mono ?_
      rintro e w2 ⟨rfl, b2⟩
      have S2 := Lib.hid (SL.out.keeps b2)
      have B2 := Lib.hid (bt BW.out b2)
      clear b2 SL BW
      go_wp2_with (at_mapUpdate; refine wpList_put_set _ rfl _ _ _ 100 102 rfl Tryz.underlying100 w.heap.size j ⟨T, R, hT, hR⟩ (goneM (l.take j)) S2.out (by omega) rfl rfl rfl ?_)
      intro w3 s3 g3
      have S3 : Hid (SetI w3 w.heap.size (j + 1) (goneM (l.take (j + 1)))) := s3.ext (fun a => by
        rw [HSN.out a, Bool.or_comm]
        simp [eq_comm])
      have B3 : Hid (Below w.heap.size w w3) := B2.out.grown g3 B2.out.size (fun i e => by cases e; exact Nat.le_refl _)
      clear s3 g3 S2 B2 LS BL
      go_wp2
      go_roundw
      case rel => exact ⟨j + 1, by omega, by go_num, S3, B3⟩
      case measure => simp [intOf]; omega
/-- Of some operations the inserts that none of C takes away, as they come. -/
def pickE (C l : List Opn) : List Opn := l.filter (fun o => decide (o.k = 1) && !goneM C (idO o))
theorem pickE_yes {C l : List Opn} {x : Opn} (hk : x.k = 1) (he : goneM C (idO x) = false) : pickE C (l ++ [x]) = pickE C l ++ [x] := by
  unfold pickE
  rw [List.filter_append, List.filter_cons_of_pos (by simp [hk, he])]
  rfl
theorem pickE_no {C l : List Opn} {x : Opn} (h : ¬ (x.k = 1 ∧ goneM C (idO x) = false)) : pickE C (l ++ [x]) = pickE C l := by
  unfold pickE
  rw [List.filter_append, List.filter_cons_of_neg (by simpa using h)]
  simp
theorem mem_pickE {C l : List Opn} {y : Opn} : y ∈ pickE C l ↔ y ∈ l ∧ y.k = 1 ∧ goneM C (idO y) = false := by
  unfold pickE
  simp
theorem pickE_is {l m : List Opn} (hm : ∀ o ∈ l, mayO o = true) (hl : l.Pairwise lessO) (hp : m.Perm (pickE l l)) (hs : m.Pairwise (fun a b => ¬ cmp b.pl a.pl < 0)) : seenM l = m := by
  have hmem : ∀ y, y ∈ m ↔ y ∈ l ∧ y.k = 1 ∧ goneM l (idO y) = false := fun y => by rw [hp.mem_iff, mem_pickE]
  refine seen_ext hm hl ?_ hmem
  have hd : m.Pairwise (fun a b => idO a ≠ idO b) := by
    refine (hp.pairwise_iff (fun {a b} h => Ne.symm h)).2 ?_
    unfold pickE
    exact (hl.imp (fun h => lessO_ne h)).filter _
  refine List.Pairwise.imp_of_mem ?_ (hs.and hd)
  intro a b ha hb h
  have h1 := (hmem a).1 ha
  have h2 := (hmem b).1 hb
  rcases ins_ne (hm a h1.1) (hm b h2.1) h1.2.1 h2.2.1 h.2 with h3 | h3
  · exact h3
  · exact absurd h3 h.1
/-- Elements in a row of the call's own (from B on), their places from A on. -/
def TwE (w : World) (B A : Nat) (v : Value) (l : List Opn) : Prop := ∃ cs, w.ownsRow B 91 4 v l.length cs ∧ HoldE w A cs l
theorem TwE.nil (w : World) (B A : Nat) : TwE w B A (.slice none 0 0) [] := ⟨[], World.ownsRow_nil _ _ _ _, rfl⟩
theorem TwE.keeps {w w' : World} {B A : Nat} {v : Value} {l : List Opn} (h : TwE w B A v l) (hb : Below w.heap.size w w') : TwE w' B A v l := by
  obtain ⟨cs, h1, h2⟩ := h
  exact ⟨cs, own_stays h1 hb, h2.keeps hb⟩
theorem TwE.own {w : World} {B A : Nat} {v : Value} {l : List Opn} (h : TwE w B A v l) (hb : A ≤ B) : OwnE w A v l := by
  obtain ⟨cs, h1, h2⟩ := h
  exact ⟨cs, op_base h1 hb, h2⟩
theorem TwE.snoc {W W8 w5 : World} {B A m : Nat} {v v5 u : Value} {cs : List Value} {l : List Opn} {o : Opn} (h1 : W.ownsRow B 91 4 v l.length cs) (h2 : HoldE W A cs l) (hb : Below W.heap.size W W8)
    (hu : W8.ownsRow A 32 3 u o.pl.length (runs o.pl)) (g5 : W8.grownBy w5 v.ownBlock) (o5 : w5.ownsRow B 91 4 v5 m (cs ++ [.int .u32 (o.t : Int), .int .u8 (o.r : Int), u, .int .i64 o.p])) (hm : m = l.length + 1) : TwE w5 B A v5 (l ++ [o]) := by
  have hx := own_stays h1 hb
  refine ⟨_, by rw [List.length_append, List.length_singleton, ← hm]; exact o5, ?_⟩
  refine HoldE.append (HoldE.grown g5 hx (h2.keeps hb)) ?_
  exact HoldE.grown g5 hx ⟨u, [], rfl, hu, rfl⟩
end Go.Proofs.YtgjbnbojjgbmcaaGreat.Views
