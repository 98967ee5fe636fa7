/- Slices of bytes: what a slice value reads as, in a world; rows that a call has made. Conditions: none. -/
import Derived.Test.YtelilmhnfmojkaaChecked
import Derived.WalkKit
import Derived.WalkSpells
import Derived.WalkLawsBesides
import Derived.Laws.BytesArg
import Derived.Lib.Hide
import Derived.Test.YtelilmhnfmojkaaRows
import Derived.ProofKit
import Derived.SizedLaws
import Derived.Deep.LoopGhost
import Derived.Laws.AppendOwnNone
import Derived.Laws.OwnMore
import Derived.WideShapes


namespace Go.Proofs.Ytelilmhnfmojkaa
open Go.RowKit

/-- Bytes as cells. -/
def bs (l : List UInt8) : List Value := l.map fun x => .int .u8 (x.toNat : Int)
theorem bs_len (l : List UInt8) : (bs l).length = l.length := by simp [bs]
theorem bs_append (l m : List UInt8) : bs (l ++ m) = bs l ++ bs m := by simp [bs]
theorem bs_one (n : Nat) (h : n < 256) : bs [UInt8.ofNat n] = [.int .u8 (n : Int)] := by simp [bs]; omega
theorem bs_oneCell (l : List UInt8) : ∀ u ∈ bs l, u.oneCell' = true := by
  intro u hu
  simp only [bs, List.mem_map] at hu
  obtain ⟨x, _, rfl⟩ := hu
  rfl
theorem bs_get (l : List UInt8) (j : Nat) (h : j < l.length) : (bs l)[j]? = some (.int .u8 ((l.getD j 0).toNat : Int)) := by
  simp [bs, List.getD, List.getElem?_eq_getElem h]

/-- In the world w the slice value v reads as the bytes xs. -/
def Reads (w : World) (v : Value) (xs : List UInt8) : Prop :=
  xs.length ≤ 9223372036854775807 ∧ ∃ ao cap, v = .slice ao xs.length cap ∧ xs.length ≤ cap ∧ cap ≤ 9223372036854775807 ∧ (ao = none → cap = 0) ∧
    (xs = [] ∨ ∃ b off, ao = some ⟨b, off, none⟩ ∧ b < w.heap.size ∧ ∀ j, j < xs.length → w.cell? ⟨b, off + j, none⟩ = some (.int .u8 ((xs.getD j 0).toNat : Int)))

theorem Reads.nil (w : World) : Reads w (.slice none 0 0) [] := ⟨by simp, none, 0, rfl, by simp, by simp, fun _ => rfl, .inl rfl⟩

/-- What lies below a number of blocks stays read, where these blocks stay. -/
def Lies (B : Nat) (v : Value) : Prop := ∀ b, v.ownBlock = some b → b < B

theorem Reads.lies {w : World} {v : Value} {xs : List UInt8} (h : Reads w v xs) (hne : xs ≠ []) : Lies w.heap.size v := by
  obtain ⟨_, ao, cap, rfl, _, _, _, h | ⟨b, off, rfl, hb, _⟩⟩ := h
  · exact absurd h hne
  · intro k hk; simp [Value.ownBlock] at hk; omega

theorem Reads.below {w w' : World} {v : Value} {xs : List UInt8} {B : Nat} (h : Reads w v xs) (hb : Below B w w') (hl : xs ≠ [] → Lies B v) : Reads w' v xs := by
  obtain ⟨h1, ao, cap, rfl, h2, h3, h4, h5⟩ := h
  refine ⟨h1, ao, cap, rfl, h2, h3, h4, ?_⟩
  rcases h5 with h5 | ⟨b, off, rfl, hlt, hc⟩
  · exact .inl h5
  · by_cases hx : xs = []
    · exact .inl hx
    · have hB : b < B := hl hx b rfl
      exact .inr ⟨b, off, rfl, Nat.lt_of_lt_of_le hlt hb.size, fun j hj => (hb.cell (p := ⟨b, off + j, none⟩) hB).trans (hc j hj)⟩

/-- A row of the call's own reads as its bytes. -/
theorem Reads.own {w : World} {base : Nat} {e : TypeId} {v : Value} {xs : List UInt8} (h : w.ownsRow base e 1 v xs.length (bs xs)) : Reads w v xs := by
  have hk := h
  obtain ⟨_, hcase⟩ := h
  rcases hcase with ⟨rfl, h0⟩ | ⟨g, cap, cur, rfl, hg, hh, hn, hcap, hsz, htake⟩
  · have : xs = [] := List.length_eq_zero_iff.1 h0
    subst this
    exact Reads.nil w
  · unfold maxLen at hcap
    refine ⟨by omega, some ⟨g, 0, none⟩, cap, rfl, hn, hcap, by simp, .inr ⟨g, 0, rfl, (Array.getElem?_eq_some_iff.1 hh).1, fun j hj => ?_⟩⟩
    rw [Nat.zero_add, hk.cellAt j (by rw [Nat.mul_one]; omega)]
    exact bs_get xs j hj

/-- A beginning of a row that the call owns. -/
theorem Reads.take {w : World} {ao : Option Addr} {cap k : Nat} {xs : List UInt8} (h : Reads w (.slice ao xs.length cap) xs) (hk : k ≤ xs.length) : Reads w (.slice ao k cap) (xs.take k) := by
  obtain ⟨h1, ao', cap', he, h2, h3, h4, h5⟩ := h
  simp only [Value.slice.injEq, true_and] at he
  obtain ⟨rfl, rfl⟩ := he
  have hl : (xs.take k).length = k := by simp; omega
  refine ⟨by omega, ao, cap, by rw [hl], by omega, h3, h4, ?_⟩
  rcases h5 with rfl | ⟨b, off, rfl, hlt, hc⟩
  · left; simp
  · right
    refine ⟨b, off, rfl, hlt, fun j hj => ?_⟩
    rw [hl] at hj
    rw [hc j (by omega)]
    simp [List.getD, hj]

theorem own_lies {w : World} {base : Nat} {e : TypeId} {v : Value} {n : Nat} {xs : List Value} (h : w.ownsRow base e 1 v n xs) : Lies w.heap.size v := fun k hk => (h.lt k hk).2

/-- The bytes as a string. -/
def str (xs : List UInt8) : ByteArray := ⟨xs.toArray⟩

theorem strOfNums_bytes (xs : List UInt8) : strOfNums (xs.map fun x => (x.toNat : Int)) = str xs := by
  have : xs.map ((fun n : Int => UInt8.ofNat n.toNat) ∘ fun x : UInt8 => (x.toNat : Int)) = xs := by
    conv => rhs; rw [← List.map_id xs]
    apply List.map_congr_left
    intro x _
    simp
  simp [strOfNums, str, this]

theorem run_string {w : World} {v : Value} {xs : List UInt8} (h : Reads w v xs) : (convert 22 9 v).run Try.prog w = .ok (.string (str xs)) w := by
  obtain ⟨h1, ao, cap, rfl, h2, h3, h4, h5⟩ := h
  rcases h5 with h5 | ⟨b, off, rfl, hlt, hc⟩
  · subst h5
    cases ao with
    | none => exact run_convert_bytes_nil w 22 5 Try.underlying22 Try.underlying5 _ _ _ Try.underlying9
    | some a =>
      rw [run_convert_bytes_string w _ _ 5 (some a) _ _ Try.underlying22 Try.underlying5 Try.underlying9]
      exact run_bytesToString w a 0 cap [] (run_loadCells_list (P := Try.prog) w a [] (by simp))
  · have := run_convert_bytes_arg (P := Try.prog) w 22 5 Try.underlying22 Try.underlying5 b off xs.length cap (xs.map fun x => (x.toNat : Int)) (by simp)
      (fun i hi => by rw [hc i hi]; simp [List.getD, List.getElem?_eq_getElem hi]) 9 Try.underlying9
    rw [strOfNums_bytes] at this
    exact this

theorem bt {a b c : World} (h1 : Below a.heap.size a b) (h2 : Below b.heap.size b c) : Below a.heap.size a c := h1.trans (h2.mono h1.size)

theorem own_shape {w : World} {base : Nat} {e : TypeId} {v : Value} {n : Nat} {xs : List Value} (h : w.ownsRow base e 1 v n xs) : ∃ ao cap, v = .slice ao n cap := by
  obtain ⟨_, hcase⟩ := h
  rcases hcase with ⟨rfl, rfl⟩ | ⟨g, cap, cur, rfl, _⟩
  · exact ⟨_, _, rfl⟩
  · exact ⟨_, _, rfl⟩
end Go.Proofs.Ytelilmhnfmojkaa

/- A slice of bytes that came in: what it reads as. Conditions: none. -/
namespace Go.Proofs.Ytelilmhnfmojkaa
open Go.ChangeShapes Go.WideShapes Go.ChangeAt Go.RowKit

theorem kit_own : ownKnob Try.prog.godebug = none := by kernel_rfl
theorem kit_laidOut : laidOutB Try.prog = true := by kernel_rfl
theorem kit_cells8 : Try.prog.cellsOf 5 = 1 := by kernel_rfl

theorem reads_of {H : Type} {enc : TypeId × Value → H} {W : World} {v : Value} {d : DataW H} {p : List MemPlace} {base : Nat}
    (hv : Value.okWide Try.prog W .any base 22 v) (h : DataW.Trod enc Try.prog W 0 (fun _ => true) true 22 v d p) :
    ∃ (ao : Option Addr) (cap : Nat) (xs : List UInt8), v = .slice ao xs.length cap ∧ Reads W (.slice ao xs.length cap) xs := by
  obtain ⟨a0, len, cap, rfl⟩ := okWide_slice Try.underlying22 hv
  obtain ⟨fuel, hf⟩ := h
  rcases open_ints Try.underlying22 Try.underlying5 kit_cells8 hf with ⟨hcs, hx⟩ | ⟨a, len', cap', zs, hcs, _, hl, hm, hz, hx, hcell, hwz⟩
  · simp [Value.cells] at hcs
    obtain ⟨rfl, rfl, rfl⟩ := hcs
    exact ⟨none, 0, [], rfl, Reads.nil W⟩
  · simp [Value.cells] at hcs
    obtain ⟨rfl, rfl, rfl⟩ := hcs
    simp only [if_true] at hz
    unfold maxLen at hm
    have hxl : ((zs.take len).map fun z => UInt8.ofNat z.toNat).length = len := by simp; omega
    refine ⟨some a, cap, (zs.take len).map fun z => UInt8.ofNat z.toNat, by rw [hxl], by omega, some a, cap, rfl, by omega, hm, by simp, ?_⟩
    by_cases hl0 : len = 0
    · left; subst hl0; rfl
    · right
      obtain ⟨b, off, spot⟩ := a
      have hspot : spot = none := by simpa [Addr.add] using World.cell?_spot (hcell 0 (by omega))
      subst hspot
      refine ⟨b, off, rfl, World.block_lt_of_cell? W ⟨b, off, none⟩ (by simpa [Addr.add] using hcell 0 (by omega)), fun j hj => ?_⟩
      have hjz : j < zs.length := by omega
      rw [hxl] at hj
      rw [← add_plain, hcell j hjz]
      have hw := hwz (zs[j]) (List.getElem_mem hjz)
      have hb : 0 ≤ zs[j] ∧ zs[j] ≤ 255 := by simpa [Lit.wf, IntKind.min, IntKind.max, IntKind.signed, IntKind.bits] using hw
      have e1 : ((zs.take len).map fun z => UInt8.ofNat z.toNat).getD j 0 = UInt8.ofNat (zs[j]).toNat := by
        simp [List.getD, hj, List.getElem?_eq_getElem hjz]
      rw [e1]
      simp [List.getD, List.getElem?_eq_getElem hjz]
      omega
end Go.Proofs.Ytelilmhnfmojkaa

/- The bytes of a number, and the number that bytes begin with, as plain functions of lists; what is written is read back, and what is read is written as just these bytes. Conditions: numbers up to 2^40. -/
namespace Go.Proofs.Ytelilmhnfmojkaa.Num

/-- The bytes of a number, with at most f + 1 of them. -/
def encF : Nat → Nat → List UInt8
  | 0, n => [UInt8.ofNat n]
  | f + 1, n => if n < 128 then [UInt8.ofNat n] else UInt8.ofNat (n % 128 + 128) :: encF f (n / 128)

def enc (n : Nat) : List UInt8 := encF 5 n

def most : Nat := 1099511627776

/-- Reading on: f bytes may follow; n and u are what was read and its weight, k how many bytes. -/
def dec : Nat → List UInt8 → Nat → Nat → Nat → Nat × Nat × Nat
  | 0, _, _, _, _ => (0, 0, 8)
  | _ + 1, [], _, _, _ => (0, 0, 8)
  | f + 1, c :: l, n, u, k =>
    if c.toNat < 128 then (if most < n + c.toNat % 128 * u ∨ (k ≠ 0 ∧ c = 0) then (0, 0, 8) else (n + c.toNat % 128 * u, k + 1, 0))
    else dec f l (n + c.toNat % 128 * u) (u * 128) (k + 1)

def get (l : List UInt8) : Nat × Nat × Nat := dec 6 l 0 1 0

/-- What Get answers, as a value. -/
def ans (r : Nat × Nat × Nat) : Go.Value := .tuple #[.int .i64 (r.1 : Int), .int .i64 (r.2.1 : Int), .int .i64 (r.2.2 : Int)]

theorem encF_small (f n : Nat) (h : n < 128) : encF f n = [UInt8.ofNat n] := by
  cases f <;> simp [encF, h]
theorem encF_big (f n : Nat) (h : ¬ n < 128) : encF (f + 1) n = UInt8.ofNat (n % 128 + 128) :: encF f (n / 128) := by
  simp [encF, h]

theorem dec_end (f : Nat) (n u k : Nat) : dec f [] n u k = (0, 0, 8) := by cases f <;> rfl
theorem dec_last (f : Nat) (c : UInt8) (l : List UInt8) (n u k : Nat) (h : c.toNat < 128) :
    dec (f + 1) (c :: l) n u k = if most < n + c.toNat % 128 * u ∨ (k ≠ 0 ∧ c = 0) then (0, 0, 8) else (n + c.toNat % 128 * u, k + 1, 0) := by
  simp [dec, h]
theorem dec_on (f : Nat) (c : UInt8) (l : List UInt8) (n u k : Nat) (h : ¬ c.toNat < 128) :
    dec (f + 1) (c :: l) n u k = dec f l (n + c.toNat % 128 * u) (u * 128) (k + 1) := by
  simp [dec, h]

theorem encF_len (f n : Nat) : 1 ≤ (encF f n).length ∧ (encF f n).length ≤ f + 1 := by
  induction f generalizing n with
  | zero => simp [encF]
  | succ f ih =>
    by_cases h : n < 128
    · simp [encF, h]
    · have := ih (n / 128)
      simp [encF, h]; omega

theorem encF_mono (f n m : Nat) (h : n ≤ m) : (encF f n).length ≤ (encF f m).length := by
  induction f generalizing n m with
  | zero => simp [encF]
  | succ f ih =>
    by_cases hn : n < 128
    · have := (encF_len (f + 1) m).1
      simp [encF_small _ _ hn]; omega
    · have hm : ¬ m < 128 := by omega
      have := ih (n / 128) (m / 128) (Nat.div_le_div_right h)
      simp [encF_big _ _ hn, encF_big _ _ hm]; omega

theorem toNat_ofNat (n : Nat) (h : n < 256) : (UInt8.ofNat n).toNat = n := by simp; omega

/-- What is written is read back, whatever stands behind. -/
theorem dec_encF (f : Nat) (m : Nat) (t : List UInt8) (n u k : Nat) (hm : m < 128 ^ (f + 1)) (hb : n + m * u ≤ most) (hk : k = 0 ∨ m ≠ 0) :
    dec (f + 1) (encF f m ++ t) n u k = (n + m * u, k + (encF f m).length, 0) := by
  induction f generalizing m n u k with
  | zero =>
    have h1 : m < 128 := by simpa using hm
    have h2 := toNat_ofNat m (by omega)
    rw [encF, List.cons_append, List.nil_append, dec_last _ _ _ _ _ _ (by omega), h2, Nat.mod_eq_of_lt h1, if_neg]
    · rfl
    · intro h
      rcases h with h | ⟨h, h'⟩
      · omega
      · rw [h'] at h2; simp at h2; omega
  | succ f ih =>
    by_cases h1 : m < 128
    · have h2 := toNat_ofNat m (by omega)
      rw [encF_small _ _ h1, List.cons_append, List.nil_append, dec_last _ _ _ _ _ _ (by omega), h2, Nat.mod_eq_of_lt h1, if_neg]
      · rfl
      · intro h
        rcases h with h | ⟨h, h'⟩
        · omega
        · rw [h'] at h2; simp at h2; omega
    · have h2 := toNat_ofNat (m % 128 + 128) (by omega)
      have h3 : m % 128 * u + m / 128 * (u * 128) = m * u := by
        have : (m % 128 + 128 * (m / 128)) * u = m * u := by rw [Nat.mod_add_div]
        rw [Nat.add_mul] at this
        rw [← this, Nat.mul_comm u 128, ← Nat.mul_assoc, Nat.mul_comm (m / 128) 128]
      rw [encF_big _ _ h1, List.cons_append, dec_on _ _ _ _ _ _ (by omega), h2, show (m % 128 + 128) % 128 = m % 128 by omega, ih]
      · rw [Nat.add_assoc, h3]
        simp only [List.length_cons, Prod.mk.injEq, and_true, true_and]
        omega
      · rw [Nat.pow_succ] at hm; omega
      · omega
      · right; omega

theorem most_lt : most < 128 ^ 6 := by decide

theorem get_enc (n : Nat) (h : n ≤ most) (t : List UInt8) : get (enc n ++ t) = (n, (enc n).length, 0) := by
  have := dec_encF 5 n t 0 1 0 (Nat.lt_of_le_of_lt h most_lt) (by omega) (.inl rfl)
  simpa [get, enc] using this

/-- What reading answers: a refusal, or a number whose bytes these are. -/
theorem dec_cases (f : Nat) (l : List UInt8) (n u k : Nat) :
    dec f l n u k = (0, 0, 8) ∨ ∃ (m j : Nat) (t : List UInt8), dec f l n u k = (n + m * u, k + j, 0) ∧ n + m * u ≤ most ∧ (k = 0 ∨ m ≠ 0) ∧ j = (encF (f - 1) m).length ∧ l = encF (f - 1) m ++ t ∧ m < 128 ^ f := by
  induction f generalizing l n u k with
  | zero => exact .inl rfl
  | succ f ih =>
    cases l with
    | nil => exact .inl (dec_end _ _ _ _)
    | cons c l =>
      by_cases h : c.toNat < 128
      · rw [dec_last _ _ _ _ _ _ h]
        split
        · exact .inl rfl
        · rename_i hn
          right
          have hc : UInt8.ofNat c.toNat = c := by simp
          refine ⟨c.toNat, 1, l, by rw [Nat.mod_eq_of_lt h], by rw [Nat.mod_eq_of_lt h] at hn; omega, ?_, ?_, ?_, ?_⟩
          · by_cases hk : k = 0
            · exact .inl hk
            · right
              intro h0
              exact hn (.inr ⟨hk, by rw [← hc, h0]; rfl⟩)
          · rw [encF_small _ _ h]; rfl
          · rw [encF_small _ _ h, hc]; rfl
          · have : 1 ≤ 128 ^ f := Nat.one_le_pow _ _ (by omega)
            rw [Nat.pow_succ]; omega
      · rw [dec_on _ _ _ _ _ _ h]
        rcases ih l (n + c.toNat % 128 * u) (u * 128) (k + 1) with h0 | ⟨m, j, t, h1, h2, h3, h4, h5, h6⟩
        · exact .inl h0
        · right
          have hm : m ≠ 0 := by omega
          have hf : f ≠ 0 := by
            intro h0; subst h0; simp at h6; omega
          obtain ⟨g, rfl⟩ : ∃ g, f = g + 1 := ⟨f - 1, by omega⟩
          have hlt := c.toNat_lt
          have e1 : c.toNat % 128 * u + m * (u * 128) = (c.toNat % 128 + 128 * m) * u := by
            rw [Nat.add_mul, Nat.mul_comm u 128, ← Nat.mul_assoc, Nat.mul_comm m 128]
          have hb : ¬ c.toNat % 128 + 128 * m < 128 := by omega
          have e2 : (c.toNat % 128 + 128 * m) % 128 + 128 = c.toNat := by omega
          have e3 : (c.toNat % 128 + 128 * m) / 128 = m := by omega
          have hc : UInt8.ofNat c.toNat = c := by simp
          refine ⟨c.toNat % 128 + 128 * m, j + 1, t, ?_, ?_, .inr (by omega), ?_, ?_, ?_⟩
          · rw [h1, Nat.add_assoc, e1]
            simp only [Prod.mk.injEq, true_and, and_true]; omega
          · rw [Nat.add_assoc, e1] at h2; exact h2
          · rw [show g + 1 + 1 - 1 = g + 1 by omega, encF_big _ _ hb, e3]
            simp at h4
            simp [h4]
          · rw [show g + 1 + 1 - 1 = g + 1 by omega, encF_big _ _ hb, e3, e2, hc]
            simp at h5
            simp [h5]
          · rw [Nat.pow_succ]; omega

theorem get_cases (l : List UInt8) : get l = (0, 0, 8) ∨ ∃ (m : Nat) (t : List UInt8), get l = (m, (enc m).length, 0) ∧ m ≤ most ∧ l = enc m ++ t := by
  rcases dec_cases 6 l 0 1 0 with h | ⟨m, j, t, h1, h2, _, h4, h5, _⟩
  · exact .inl h
  · right
    refine ⟨m, t, ?_, by omega, h5⟩
    rw [get, h1, h4]; simp [enc]

/-- A beginning of a number's bytes, but all of them, is no number. -/
theorem dec_take (f : Nat) (m k : Nat) (n u i : Nat) (hk : k < (encF f m).length) : dec (f + 1) ((encF f m).take k) n u i = (0, 0, 8) := by
  induction f generalizing m k n u i with
  | zero =>
    have : k = 0 := by simp [encF] at hk; omega
    subst this; rfl
  | succ f ih =>
    by_cases h1 : m < 128
    · rw [encF_small _ _ h1] at hk ⊢
      have : k = 0 := by simp at hk; omega
      subst this; rfl
    · rw [encF_big _ _ h1] at hk ⊢
      cases k with
      | zero => rfl
      | succ k =>
        have h2 := toNat_ofNat (m % 128 + 128) (by omega)
        rw [List.take_succ_cons, dec_on _ _ _ _ _ _ (by omega)]
        exact ih _ _ _ _ _ (by simpa using hk)

theorem get_take (n k : Nat) (hk : k < (enc n).length) : get ((enc n).take k) = (0, 0, 8) := dec_take 5 n k 0 1 0 hk
end Go.Proofs.Ytelilmhnfmojkaa.Num

/- Slices of elements of any width: what a slice value holds, cell by cell; append onto a row of the call's own. Conditions: none. -/
namespace Go.Proofs.Ytelilmhnfmojkaa
open Go.RowKit Go.WideShapes

/-- In the world w the slice value v has n elements of sz cells each, and these are cs. -/
def Sees (w : World) (v : Value) (sz n : Nat) (cs : List Value) : Prop :=
  cs.length = n * sz ∧ ∃ ao cap, v = .slice ao n cap ∧ n ≤ cap ∧ cap ≤ 9223372036854775807 ∧ (ao = none → cap = 0) ∧
    (cs = [] ∨ ∃ b off, ao = some ⟨b, off, none⟩ ∧ b < w.heap.size ∧ ∀ j u, cs[j]? = some u → w.cell? ⟨b, off + j, none⟩ = some u)

theorem Sees.nil (w : World) (sz : Nat) : Sees w (.slice none 0 0) sz 0 [] := ⟨by simp, none, 0, rfl, by simp, by simp, fun _ => rfl, .inl rfl⟩
theorem Sees.shape {w : World} {v : Value} {sz n : Nat} {cs : List Value} (h : Sees w v sz n cs) : ∃ ao cap, v = .slice ao n cap := by
  obtain ⟨_, ao, cap, h, _⟩ := h; exact ⟨ao, cap, h⟩
theorem Sees.cap {w : World} {ao : Option Addr} {m n cap sz : Nat} {cs : List Value} (h : Sees w (.slice ao m cap) sz n cs) : m = n ∧ n ≤ cap ∧ cap ≤ 9223372036854775807 ∧ (ao = none → cap = 0) := by
  obtain ⟨_, ao', cap', he, h2, h3, h4, _⟩ := h
  obtain ⟨rfl, rfl, rfl⟩ := Value.slice.inj he
  exact ⟨rfl, h2, h3, h4⟩
theorem Sees.len {w : World} {v : Value} {sz n : Nat} {cs : List Value} (h : Sees w v sz n cs) : cs.length = n * sz := h.1
theorem Sees.max {w : World} {v : Value} {sz n : Nat} {cs : List Value} (h : Sees w v sz n cs) : n ≤ 9223372036854775807 := by
  obtain ⟨_, ao', cap', _, h2, h3, _⟩ := h; omega

/-- What lies below a number of blocks stays as it was, where these blocks stay. -/
theorem Sees.stays {w w' : World} {v : Value} {sz n : Nat} {cs : List Value} (h : Sees w v sz n cs) (hs : w.heap.size ≤ w'.heap.size)
    (hc : ∀ b o, b < w.heap.size → v.ownBlock = some b → w'.cell? ⟨b, o, none⟩ = w.cell? ⟨b, o, none⟩) : Sees w' v sz n cs := by
  obtain ⟨h1, ao, cap, rfl, h2, h3, h4, h5⟩ := h
  refine ⟨h1, ao, cap, rfl, h2, h3, h4, ?_⟩
  rcases h5 with h5 | ⟨b, off, rfl, hlt, h5⟩
  · exact .inl h5
  · exact .inr ⟨b, off, rfl, by omega, fun j u hj => (hc b _ hlt rfl).trans (h5 j u hj)⟩
theorem Sees.keeps {w w' : World} {v : Value} {sz n : Nat} {cs : List Value} (h : Sees w v sz n cs) (hb : Below w.heap.size w w') : Sees w' v sz n cs :=
  h.stays hb.size fun b o hlt _ => hb.cell (p := ⟨b, o, none⟩) hlt
theorem Sees.grown {w w' : World} {v : Value} {sz n : Nat} {cs : List Value} (h : Sees w v sz n cs) {row : Option Nat} (hg : w.grownBy w' row) (hne : v.ownBlock = none ∨ v.ownBlock ≠ row) (hs : w.heap.size ≤ w'.heap.size) : Sees w' v sz n cs :=
  h.stays hs fun b o hlt hv => World.cell?_of_block (hg.block b hlt (fun e => by rcases hne with h0 | h0; rw [h0] at hv; cases hv; exact h0 (hv.trans e)))
theorem Sees.drew {w : World} {v : Value} {sz n : Nat} {cs : List Value} (h : Sees w v sz n cs) (k : Nat) : Sees (w.drewN k) v sz n cs := h

/-- The cell of an element. -/
theorem Sees.at {w : World} {ao : Option Addr} {m cap sz n : Nat} {cs : List Value} (h : Sees w (.slice ao m cap) sz n cs) (j : Nat) (hj : j < cs.length) :
    ∃ b off, ao = some ⟨b, off, none⟩ ∧ b < w.heap.size ∧ ∀ i, i < cs.length → w.cell? ⟨b, off + i, none⟩ = cs[i]? := by
  obtain ⟨_, ao', cap', he, _, _, _, h5⟩ := h
  obtain ⟨rfl, -, rfl⟩ := Value.slice.inj he
  rcases h5 with hx | ⟨b, off, rfl, hb, hc⟩
  · subst hx; simp at hj
  · exact ⟨b, off, rfl, hb, fun i hi => (hc i _ (List.getElem?_eq_getElem hi)).trans (List.getElem?_eq_getElem hi).symm⟩
theorem Sees.cells {w : World} {a : Addr} {m cap sz n : Nat} {cs : List Value} (h : Sees w (.slice (some a) m cap) sz n cs) : ∀ (j : Nat) (u : Value), cs[j]? = some u → w.cell? (a.add j) = some u := by
  intro j u hj
  have hlt : j < cs.length := (List.getElem?_eq_some_iff.1 hj).1
  obtain ⟨b, off, h1, _, hc⟩ := h.at j hlt
  cases h1
  rw [add_plain, hc j hlt, hj]

/-- A row of the call's own. -/
theorem Sees.own {w : World} {base : Nat} {e : TypeId} {v : Value} {sz n : Nat} {cs : List Value} (h : w.ownsRow base e sz v n cs) : Sees w v sz n cs := by
  have hk := h
  obtain ⟨hl, hcase⟩ := h
  rcases hcase with ⟨rfl, rfl⟩ | ⟨g, cap, cur, rfl, hg, hh, hn, hcap, hsz, htake⟩
  · obtain rfl : cs = [] := List.length_eq_zero_iff.1 (by omega)
    exact Sees.nil w sz
  · unfold maxLen at hcap
    refine ⟨hl, some ⟨g, 0, none⟩, cap, rfl, hn, hcap, by simp, .inr ⟨g, 0, rfl, (Array.getElem?_eq_some_iff.1 hh).1, fun j u hj => ?_⟩⟩
    have hlt : j < cs.length := (List.getElem?_eq_some_iff.1 hj).1
    rw [Nat.zero_add, hk.cellAt j (by omega), hj]
/-- A new row. -/
theorem sees_new (w : World) (cs : List Value) (sz n : Nat) (h : cs.length = n * sz) (hn : n ≤ 1000000) (e : TypeId) (fr : Nat × Nat) : Sees (w.alloc (.cells cs.toArray e fr)) (.slice (some ⟨w.heap.size, 0, none⟩) n n) sz n cs := by
  refine ⟨h, _, _, rfl, Nat.le_refl _, by omega, by simp, .inr ⟨w.heap.size, 0, rfl, by simp, fun j u hj => ?_⟩⟩
  rw [cell_of_row _ w.heap.size (0 + j) cs.toArray e fr (heap_alloc_new w _), Nat.zero_add, List.getElem?_toArray]
  exact hj
/-- Nothing of the call's own yet. -/
theorem own_none (w : World) (base : Nat) (hb : base ≤ w.heap.size) (e : TypeId) (sz : Nat) : (w.alloc (.cells #[] e)).ownsRow base e sz (.slice (some ⟨w.heap.size, 0, none⟩) 0 0) 0 [] :=
  World.ownsRow_made w #[] 0 hb (by decide) (by simp)
/-- Two rows of one owner in one world: the cells of blocks of other kinds are no row's. -/
theorem own_ne {w : World} {base : Nat} {e : TypeId} {v : Value} {sz n : Nat} {cs : List Value} (h : w.ownsRow base e sz v n cs) {k : Nat} {o : Obj} (hk : w.heap[k]? = some o) (ho : ∀ c, o ≠ .cells c e (0, 0)) : v.ownBlock ≠ some k := by
  rcases h.2 with ⟨rfl, _⟩ | ⟨g, cap, cur, rfl, _, hg, _⟩
  · simp [Value.ownBlock]
  · intro hv
    simp only [Value.ownBlock, Option.some.injEq] at hv
    subst hv
    rw [hg] at hk
    exact ho _ (Option.some.inj hk).symm
/-- A row of the call's own behind another call that writes nothing that was there. -/
theorem own_stays {w w' : World} {base : Nat} {e : TypeId} {v : Value} {sz n : Nat} {cs : List Value} (h : w.ownsRow base e sz v n cs) (hb : Below w.heap.size w w') : w'.ownsRow base e sz v n cs := by
  refine ⟨h.1, ?_⟩
  rcases h.2 with h0 | ⟨g, cap, cur, rfl, h1, hg, h2⟩
  · exact .inl h0
  · exact .inr ⟨g, cap, cur, rfl, h1, (hb.block g (Array.getElem?_eq_some_iff.1 hg).1).trans hg, h2⟩
theorem below_draw {B : Nat} {a w : World} (h : Below B a w) (n : Nat) : Below B a (w.drewN n) := h.trans ⟨rfl, rfl, rfl, Nat.le_refl _, fun _ _ => rfl⟩
theorem grown_size {w w' : World} {row : Option Nat} (h : w.grownBy w' row) : w.heap.size ≤ w'.heap.size := h.size

theorem wpList_append_sees {w : World} {ops : Array Oper} {rest : List Oper} {o : Oper} {a : Act} {Q : Exit → Act → World → Prop} (hgd : o.guard = none) (s x : Operand) (t e : TypeId)
    (ho : o.op = .call { callee := .builtin .append, args := #[s, x], argTypes := #[t, t] }) (ht : Try.prog.underlying t = some (.slice e))
    {z : Value} {sz bytes : Nat} (hi : (Try.prog.info? e).map (fun i => (i.zero, i.size, i.bytes)) = some (some z, sz, bytes)) (hzs : z.cells.size = sz) (hsz : 0 < sz)
    (base : Nat) (v : Value) (n : Nat) (L : List Value) (hs : a.eval s = v) (hown : w.ownsRow base e sz v n L)
    (u : Value) (m : Nat) (xs : List Value) (hx : a.eval x = u) (hr : Sees w u sz m xs) (h1 : ∀ u ∈ xs, u.oneCell' = true) (h47 : (n + m) * bytes ≤ 140737488355328) (h63 : n + m ≤ 140737488355328) (hbase : base ≤ w.heap.size)
    (h : ∀ v' w', w'.ownsRow base e sz v' (n + m) (L ++ xs) → w.grownBy w' v.ownBlock → Below base w w' → wpList Try.prog ops Q rest (a.put o.dst v') w') : wpList Try.prog ops Q (o :: rest) a w := by
  obtain ⟨i0, hi, hz0, hz1, hz2⟩ := info_parts hi
  obtain ⟨ao, cap, rfl⟩ := hr.shape
  cases ao with
  | none =>
    obtain ⟨_, h2, _, h3⟩ := hr.cap
    have hc0 := h3 rfl
    subst hc0
    obtain rfl : m = 0 := by omega
    obtain rfl : xs = [] := List.length_eq_zero_iff.1 (by rw [hr.len]; omega)
    refine wpList_append_own_none hgd s x t ho base e i0 sz ht hi v n L hs hown hx (h v w ?_ (World.grownBy.refl w _) (Below.refl _ _))
    rw [List.append_nil]; exact hown
  | some a2 =>
    refine wpList_append_own _ hgd s x t ho base e i0 z sz bytes ht hi hz0 hz1 hz2 hzs hsz v n L hs hown a2 m cap xs hx hr.len hr.cells h1 (by unfold maxLen; omega) h47 hbase ?_
    intro v' w' h1 h2 _
    exact h v' w' h1 h2 ((Below.refl _ _).grown h2 hbase (fun j hj => (hown.lt j hj).1))

/-- The same at the operation, and at a step of a region that draws. -/
theorem wp_append_sees {w : World} {o : Oper} {a : Act} {K : Act → World → Prop} {Q : Exit → Act → World → Prop} (s x : Operand) (t e : TypeId)
    (ho : o.op = .call { callee := .builtin .append, args := #[s, x], argTypes := #[t, t] }) (ht : Try.prog.underlying t = some (.slice e))
    {z : Value} {sz bytes : Nat} (hi : (Try.prog.info? e).map (fun i => (i.zero, i.size, i.bytes)) = some (some z, sz, bytes)) (hzs : z.cells.size = sz) (hsz : 0 < sz)
    (base : Nat) (v : Value) (n : Nat) (L : List Value) (hs : a.eval s = v) (hown : w.ownsRow base e sz v n L)
    (u : Value) (m : Nat) (xs : List Value) (hx : a.eval x = u) (hr : Sees w u sz m xs) (h1 : ∀ u ∈ xs, u.oneCell' = true) (h47 : (n + m) * bytes ≤ 140737488355328) (h63 : n + m ≤ 140737488355328) (hbase : base ≤ w.heap.size)
    (h : ∀ v' w', w'.ownsRow base e sz v' (n + m) (L ++ xs) → w.grownBy w' v.ownBlock → Below base w w' → K (a.put o.dst v') w') : o.wp Try.prog a w K Q := by
  obtain ⟨i0, hi, hz0, hz1, hz2⟩ := info_parts hi
  obtain ⟨ao, cap, rfl⟩ := hr.shape
  cases ao with
  | none =>
    obtain ⟨_, h2, _, h3⟩ := hr.cap
    have hc0 := h3 rfl
    subst hc0
    obtain rfl : m = 0 := by omega
    obtain rfl : xs = [] := List.length_eq_zero_iff.1 (by rw [hr.len]; omega)
    have hrun := run_append_owned_none (P := Try.prog) (w := w) base t o.type e i0 sz ht hi v n L hown
    unfold Oper.wp
    simp only [execOp, ho, resolve, invoke, builtin, Sem.run_bind, Sem.run_pure, Result.andThen_ok, List.map_toArray, List.map_cons, List.map_nil, hs, hx, hrun]
    refine h v w ?_ (World.grownBy.refl w _) (Below.refl _ _)
    rw [List.append_nil]; exact hown
  | some a2 =>
    obtain ⟨v', w', hrun, h2, h3, _⟩ := run_append_own (P := Try.prog) w base t o.type e i0 z sz bytes ht hi hz0 hz1 hz2 hzs hsz v n L hown a2 m cap xs hr.len hr.cells h1 (by unfold maxLen; omega) h47 hbase
    unfold Oper.wp
    simp only [execOp, ho, resolve, invoke, builtin, Sem.run_bind, Sem.run_pure, Result.andThen_ok, List.map_toArray, List.map_cons, List.map_nil, hs, hx, hrun]
    exact h v' w' h2 h3 ((Below.refl _ _).grown h3 hbase (fun j hj => (hown.lt j hj).1))
theorem step_append_sees {w : World} {ops : Array Oper} {o : Oper} {a : Act} {K : Act → World → Prop} {Q : Exit → Act → World → Prop} {E : Prop} (hgd : o.guard = none) (s x : Operand) (t e : TypeId)
    (ho : o.op = .call { callee := .builtin .append, args := #[s, x], argTypes := #[t, t] }) (ht : Try.prog.underlying t = some (.slice e))
    {z : Value} {sz bytes : Nat} (hi : (Try.prog.info? e).map (fun i => (i.zero, i.size, i.bytes)) = some (some z, sz, bytes)) (hzs : z.cells.size = sz) (hsz : 0 < sz)
    (base : Nat) (v : Value) (n : Nat) (L : List Value) (hs : a.eval s = v) (hown : w.ownsRow base e sz v n L)
    (u : Value) (m : Nat) (xs : List Value) (hx : a.eval x = u) (hr : Sees w u sz m xs) (h1 : ∀ u ∈ xs, u.oneCell' = true) (h47 : (n + m) * bytes ≤ 140737488355328) (h63 : n + m ≤ 140737488355328) (hbase : base ≤ w.heap.size)
    (h : ∀ v' w', w'.ownsRow base e sz v' (n + m) (L ++ xs) → w.grownBy w' v.ownBlock → Below base w w' → K (a.put o.dst v') w') :
    if Region.wanted o (yielded ops a.tmps) = true then Oper.wp Try.prog o a w K Q else E := by
  have hw : Region.wanted o (yielded ops a.tmps) = true := by simp [Region.wanted, hgd]
  rw [if_pos hw]
  exact wp_append_sees s x t e ho ht hi hzs hsz base v n L hs hown u m xs hx hr h1 h47 h63 hbase h

/-! ### Slices of numbers -/

/-- Numbers as cells. -/
def is (l : List Int) : List Value := l.map fun x => .int .i64 x
theorem is_len (l : List Int) : (is l).length = l.length := by simp [is]
theorem is_append (l m : List Int) : is (l ++ m) = is l ++ is m := by simp [is]
theorem is_get (l : List Int) (j : Nat) (h : j < l.length) : (is l)[j]? = some (.int .i64 (l.getD j 0)) := by
  simp [is, List.getD, List.getElem?_eq_getElem h]
theorem is_oneCell (l : List Int) : ∀ u ∈ is l, u.oneCell' = true := by
  intro u hu
  simp only [is, List.mem_map] at hu
  obtain ⟨x, _, rfl⟩ := hu
  rfl
/-- A slice of numbers. -/
def Ints (w : World) (v : Value) (l : List Int) : Prop := Sees w v 1 l.length (is l)
theorem Ints.keeps {w w' : World} {v : Value} {l : List Int} (h : Ints w v l) (hb : Below w.heap.size w w') : Ints w' v l := Sees.keeps h hb
theorem Ints.nil (w : World) : Ints w (.slice none 0 0) [] := Sees.nil w 1
theorem Ints.shape {w : World} {v : Value} {l : List Int} (h : Ints w v l) : ∃ ao cap, v = .slice ao l.length cap := Sees.shape h
theorem Ints.at {w : World} {ao : Option Addr} {m cap : Nat} {l : List Int} (h : Ints w (.slice ao m cap) l) (k : Nat) (hk : k < l.length) :
    ∃ b off, ao = some ⟨b, off, none⟩ ∧ b < w.heap.size ∧ w.cell? ⟨b, off + k, none⟩ = some (.int .i64 (l.getD k 0)) := by
  obtain ⟨b, off, h1, h2, h3⟩ := Sees.at h k (by rwa [is_len])
  exact ⟨b, off, h1, h2, (h3 k (by rwa [is_len])).trans (is_get l k hk)⟩
theorem Ints.own {w : World} {base : Nat} {e : TypeId} {v : Value} {n : Nat} {l : List Int} (h : w.ownsRow base e 1 v n (is l)) : Ints w v l := by
  have h1 := h.1
  rw [is_len, Nat.mul_one] at h1
  subst h1
  exact Sees.own h
end Go.Proofs.Ytelilmhnfmojkaa

/- Stamps, and slices of them: what a slice value holds. Conditions: none. -/
namespace Go.Proofs.Ytelilmhnfmojkaa
open Go.RowKit Go.WideShapes

/-- A stamp: a time, a replica. -/
structure Id where
  t : Nat
  r : Nat
  ht : t < 4294967296
  hr : r < 256
theorem Id.ext' {a b : Id} (h1 : a.t = b.t) (h2 : a.r = b.r) : a = b := by
  obtain ⟨t, r, _, _⟩ := a; obtain ⟨u, s, _, _⟩ := b
  simp only at h1 h2
  subst h1 h2
  rfl
theorem Id.eq_iff {a b : Id} : a = b ↔ a.t = b.t ∧ a.r = b.r := ⟨fun h => by rw [h]; exact ⟨rfl, rfl⟩, fun h => Id.ext' h.1 h.2⟩
instance : DecidableEq Id := fun a b => if h : a.t = b.t ∧ a.r = b.r then isTrue (Id.eq_iff.2 h) else isFalse (fun e => h (Id.eq_iff.1 e))
/-- The zero stamp. -/
def zid : Id := ⟨0, 0, by decide, by decide⟩
/-- A stamp as a value. -/
def idv (a : Id) : Value := .agg #[.int .u32 (a.t : Int), .int .u8 (a.r : Int)]
/-- Stamps as cells. -/
def ids : List Id → List Value
  | [] => []
  | a :: l => .int .u32 (a.t : Int) :: .int .u8 (a.r : Int) :: ids l
theorem ids_len : ∀ l : List Id, (ids l).length = l.length * 2
  | [] => rfl
  | a :: l => by simp [ids, ids_len l]; omega
theorem ids_append : ∀ l m : List Id, ids (l ++ m) = ids l ++ ids m
  | [], m => rfl
  | a :: l, m => by simp [ids, ids_append l m]
theorem ids_get : ∀ (l : List Id) (j : Nat), j < l.length → (ids l)[j * 2]? = some (.int .u32 ((l.getD j zid).t : Int)) ∧ (ids l)[j * 2 + 1]? = some (.int .u8 ((l.getD j zid).r : Int))
  | [], j, h => by simp at h
  | a :: l, 0, _ => by simp [ids]
  | a :: l, j + 1, h => by
    have := ids_get l j (by simpa using h)
    rw [show (j + 1) * 2 = j * 2 + 1 + 1 by omega]
    simpa [ids] using this
theorem ids_oneCell : ∀ l : List Id, ∀ u ∈ ids l, u.oneCell' = true
  | [], u, h => by simp [ids] at h
  | a :: l, u, h => by
    simp only [ids, List.mem_cons] at h
    rcases h with rfl | rfl | h
    · rfl
    · rfl
    · exact ids_oneCell l u h
/-- A slice of stamps. -/
def Ids (w : World) (v : Value) (l : List Id) : Prop := Sees w v 2 l.length (ids l)
theorem Ids.keeps {w w' : World} {v : Value} {l : List Id} (h : Ids w v l) (hb : Below w.heap.size w w') : Ids w' v l := Sees.keeps h hb
theorem Ids.nil (w : World) : Ids w (.slice none 0 0) [] := Sees.nil w 2
theorem Ids.shape {w : World} {v : Value} {l : List Id} (h : Ids w v l) : ∃ ao cap, v = .slice ao l.length cap := Sees.shape h
theorem Ids.at {w : World} {ao : Option Addr} {m cap : Nat} {l : List Id} (h : Ids w (.slice ao m cap) l) (k : Nat) (hk : k < l.length) :
    ∃ b off, ao = some ⟨b, off, none⟩ ∧ b < w.heap.size ∧ w.cell? ⟨b, off + k * 2, none⟩ = some (.int .u32 ((l.getD k zid).t : Int)) ∧ w.cell? ⟨b, off + k * 2 + 1, none⟩ = some (.int .u8 ((l.getD k zid).r : Int)) := by
  obtain ⟨b, off, h1, h2, h3⟩ := Sees.at h (k * 2) (by rw [ids_len]; omega)
  have e := ids_get l k hk
  exact ⟨b, off, h1, h2, (h3 (k * 2) (by rw [ids_len]; omega)).trans e.1, (h3 (k * 2 + 1) (by rw [ids_len]; omega)).trans e.2⟩
theorem Ids.own {w : World} {base : Nat} {e : TypeId} {v : Value} {n : Nat} {l : List Id} (h : w.ownsRow base e 2 v n (ids l)) : Ids w v l := by
  have h1 := h.1
  rw [ids_len] at h1
  obtain rfl : l.length = n := by omega
  exact Sees.own h
theorem ids_new (w : World) (l : List Id) (n : Nat) (hn : n = l.length) (hl : l.length ≤ 1000000) (e : TypeId) (fr : Nat × Nat) : Ids (w.alloc (.cells (ids l).toArray e fr)) (.slice (some ⟨w.heap.size, 0, none⟩) n n) l := by
  subst hn
  exact sees_new w (ids l) 2 l.length (ids_len l) hl _ _

/-- Old cells and marks behind a call that writes nothing that was there. -/
theorem bcell {B : Nat} {w w1 : World} (hb : Below B w w1) : (∀ b o, b < B → w1.cell? ⟨b, o, none⟩ = w.cell? ⟨b, o, none⟩) ∧ (∀ b o, b < B → w1.frozen? ⟨b, o, none⟩ = w.frozen? ⟨b, o, none⟩) :=
  ⟨fun b o h => hb.cell (p := ⟨b, o, none⟩) h, fun b o h => hb.frozen (p := ⟨b, o, none⟩) h⟩

/-- A block whose first two cells are these. -/
def Pair (w : World) (h : Nat) (c0 c1 : Value) : Prop := h < w.heap.size ∧ w.cell? ⟨h, 0, none⟩ = some c0 ∧ w.cell? ⟨h, 1, none⟩ = some c1
theorem Pair.keeps {w w' : World} {h : Nat} {c0 c1 : Value} (p : Pair w h c0 c1) (hb : Below w.heap.size w w') : Pair w' h c0 c1 :=
  ⟨Nat.lt_of_lt_of_le p.1 hb.size, (hb.cell (p := ⟨h, 0, none⟩) p.1).trans p.2.1, (hb.cell (p := ⟨h, 1, none⟩) p.1).trans p.2.2⟩
theorem pair_new (w : World) (c0 c1 : Value) (e : TypeId) : Pair (w.alloc (.cells #[c0, c1] e)) w.heap.size c0 c1 :=
  ⟨by simp, cell_of_row _ w.heap.size 0 #[c0, c1] e _ (heap_alloc_new w _), cell_of_row _ w.heap.size 1 #[c0, c1] e _ (heap_alloc_new w _)⟩
theorem Pair.alloc {w : World} {h : Nat} {c0 c1 : Value} (p : Pair w h c0 c1) (o : Obj) : Pair (w.alloc o) h c0 c1 := p.keeps ((Below.refl _ _).alloc (Nat.le_refl _) o)
theorem keepP1 {wl w1 w2 : World} {h1 : Nat} {c0 c1 : Value} (p1 : Pair wl h1 c0 c1) (h : Below w1.heap.size w1 w2) (hb : Below wl.heap.size wl w1) :
    Below wl.heap.size wl w2 ∧ w2.cell? ⟨h1, 0, none⟩ = some c0 ∧ w2.cell? ⟨h1, 1, none⟩ = some c1 :=
  have b := bt hb h
  ⟨b, (p1.keeps b).2.1, (p1.keeps b).2.2⟩
theorem keepP1b {wl w2 : World} {h1 : Nat} {c0 c1 : Value} (p1 : Pair wl h1 c0 c1) (b : Below wl.heap.size wl w2) :
    Below wl.heap.size wl w2 ∧ w2.cell? ⟨h1, 0, none⟩ = some c0 ∧ w2.cell? ⟨h1, 1, none⟩ = some c1 :=
  ⟨b, (p1.keeps b).2.1, (p1.keeps b).2.2⟩
theorem keepP2 {wl w1 w2 : World} {h1 h2 : Nat} {c0 c1 d0 d1 : Value} (p1 : Pair wl h1 c0 c1) (p2 : Pair wl h2 d0 d1) (h : Below w1.heap.size w1 w2) (hb : Below wl.heap.size wl w1) :
    Below wl.heap.size wl w2 ∧ w2.cell? ⟨h1, 0, none⟩ = some c0 ∧ w2.cell? ⟨h1, 1, none⟩ = some c1 ∧ w2.cell? ⟨h2, 0, none⟩ = some d0 ∧ w2.cell? ⟨h2, 1, none⟩ = some d1 :=
  have b := bt hb h
  ⟨b, (p1.keeps b).2.1, (p1.keeps b).2.2, (p2.keeps b).2.1, (p2.keeps b).2.2⟩
theorem keepP3 {wl w1 w2 : World} {h1 h2 h3 : Nat} {c0 c1 d0 d1 e0 e1 : Value} (p1 : Pair wl h1 c0 c1) (p2 : Pair wl h2 d0 d1) (p3 : Pair wl h3 e0 e1) (h : Below w1.heap.size w1 w2) (hb : Below wl.heap.size wl w1) :
    Below wl.heap.size wl w2 ∧ w2.cell? ⟨h1, 0, none⟩ = some c0 ∧ w2.cell? ⟨h1, 1, none⟩ = some c1 ∧ w2.cell? ⟨h2, 0, none⟩ = some d0 ∧ w2.cell? ⟨h2, 1, none⟩ = some d1 ∧ w2.cell? ⟨h3, 0, none⟩ = some e0 ∧ w2.cell? ⟨h3, 1, none⟩ = some e1 :=
  have b := bt hb h
  ⟨b, (p1.keeps b).2.1, (p1.keeps b).2.2, (p2.keeps b).2.1, (p2.keeps b).2.2, (p3.keeps b).2.1, (p3.keeps b).2.2⟩
theorem keepP4 {wl w1 w2 : World} {h1 h2 h3 h4 : Nat} {c0 c1 d0 d1 e0 e1 f0 f1 : Value} (p1 : Pair wl h1 c0 c1) (p2 : Pair wl h2 d0 d1) (p3 : Pair wl h3 e0 e1) (p4 : Pair wl h4 f0 f1) (h : Below w1.heap.size w1 w2) (hb : Below wl.heap.size wl w1) :
    Below wl.heap.size wl w2 ∧ w2.cell? ⟨h1, 0, none⟩ = some c0 ∧ w2.cell? ⟨h1, 1, none⟩ = some c1 ∧ w2.cell? ⟨h2, 0, none⟩ = some d0 ∧ w2.cell? ⟨h2, 1, none⟩ = some d1 ∧ w2.cell? ⟨h3, 0, none⟩ = some e0 ∧ w2.cell? ⟨h3, 1, none⟩ = some e1 ∧ w2.cell? ⟨h4, 0, none⟩ = some f0 ∧ w2.cell? ⟨h4, 1, none⟩ = some f1 :=
  have b := bt hb h
  ⟨b, (p1.keeps b).2.1, (p1.keeps b).2.2, (p2.keeps b).2.1, (p2.keeps b).2.2, (p3.keeps b).2.1, (p3.keeps b).2.2, (p4.keeps b).2.1, (p4.keeps b).2.2⟩
theorem drew1 (w : World) : Below w.heap.size w w.drew := (Below.refl _ _).drew

/-- New stamps: zeros. -/
theorem made_ids (n : Nat) : (madeCells #[.int .u32 0, .int .u8 0] (n * 2)).toList = ids (List.replicate n zid) := by
  apply List.ext_getElem?
  intro j
  by_cases hj : j < n * 2
  · have e := ids_get (List.replicate n zid) (j / 2) (by simp; omega)
    have ez : (List.replicate n zid).getD (j / 2) zid = zid := by simp [List.getD, List.getElem?_replicate]; split <;> rfl
    rw [ez] at e
    rcases (by omega : j = j / 2 * 2 ∨ j = j / 2 * 2 + 1) with h | h
    · have e2 : (ids (List.replicate n zid))[j]? = some (.int .u32 0) := by rw [h]; exact e.1
      rw [e2]
      simp [madeCells, hj, show j % 2 = 0 by omega]
    · have e2 : (ids (List.replicate n zid))[j]? = some (.int .u8 0) := by rw [h]; exact e.2
      rw [e2]
      simp [madeCells, hj, show j % 2 = 1 by omega]
  · rw [List.getElem?_eq_none (by simp [madeCells]; omega), List.getElem?_eq_none (by rw [ids_len]; simp; omega)]
theorem id_info : (Try.prog.info? 32).map (fun i => (i.zero, i.size, i.bytes)) = some (some (.agg #[.int .u32 0, .int .u8 0]), 2, 8) := by kernel_rfl
end Go.Proofs.Ytelilmhnfmojkaa

/- Runs of stamps (places), and slices of them: what a slice value holds. Conditions: none. -/
namespace Go.Proofs.Ytelilmhnfmojkaa
open Go.RowKit Go.WideShapes

/-- A run: a time, a replica, how many. -/
structure Run where
  t : Nat
  r : Nat
  m : Int
  ht : t < 4294967296
  hr : r < 256
  hm : -9223372036854775808 ≤ m ∧ m ≤ 9223372036854775807
theorem Run.ext' {a b : Run} (h1 : a.t = b.t) (h2 : a.r = b.r) (h3 : a.m = b.m) : a = b := by
  obtain ⟨t, r, m, _, _, _⟩ := a; obtain ⟨u, s, n, _, _, _⟩ := b
  simp only at h1 h2 h3
  subst h1 h2 h3
  rfl
theorem Run.eq_iff {a b : Run} : a = b ↔ a.t = b.t ∧ a.r = b.r ∧ a.m = b.m := ⟨fun h => by rw [h]; exact ⟨rfl, rfl, rfl⟩, fun h => Run.ext' h.1 h.2.1 h.2.2⟩
instance : DecidableEq Run := fun a b => if h : a.t = b.t ∧ a.r = b.r ∧ a.m = b.m then isTrue (Run.eq_iff.2 h) else isFalse (fun e => h (Run.eq_iff.1 e))
def zrun : Run := ⟨0, 0, 0, by decide, by decide, by decide⟩
/-- Runs as cells. -/
def runs : List Run → List Value
  | [] => []
  | a :: l => .int .u32 (a.t : Int) :: .int .u8 (a.r : Int) :: .int .i64 a.m :: runs l
theorem runs_len : ∀ l : List Run, (runs l).length = l.length * 3
  | [] => rfl
  | a :: l => by simp [runs, runs_len l]; omega
theorem runs_append : ∀ l m : List Run, runs (l ++ m) = runs l ++ runs m
  | [], m => rfl
  | a :: l, m => by simp [runs, runs_append l m]
theorem runs_get : ∀ (l : List Run) (j : Nat), j < l.length → (runs l)[j * 3]? = some (.int .u32 ((l.getD j zrun).t : Int)) ∧ (runs l)[j * 3 + 1]? = some (.int .u8 ((l.getD j zrun).r : Int)) ∧ (runs l)[j * 3 + 2]? = some (.int .i64 (l.getD j zrun).m)
  | [], j, h => by simp at h
  | a :: l, 0, _ => by simp [runs]
  | a :: l, j + 1, h => by
    have := runs_get l j (by simpa using h)
    rw [show (j + 1) * 3 = j * 3 + 1 + 1 + 1 by omega]
    simpa [runs] using this
theorem runs_oneCell : ∀ l : List Run, ∀ u ∈ runs l, u.oneCell' = true
  | [], u, h => by simp [runs] at h
  | a :: l, u, h => by
    simp only [runs, List.mem_cons] at h
    rcases h with rfl | rfl | rfl | h
    · rfl
    · rfl
    · rfl
    · exact runs_oneCell l u h
/-- The cells from a run on. -/
theorem runs_drop : ∀ (l : List Run) (k : Nat), runs (l.drop k) = (runs l).drop (k * 3)
  | l, 0 => by simp
  | [], k + 1 => by simp [runs]
  | a :: l, k + 1 => by
    rw [List.drop_succ_cons, runs_drop l k, show (k + 1) * 3 = k * 3 + 1 + 1 + 1 by omega]
    simp [runs]
/-- A slice of runs. -/
def Runs (w : World) (v : Value) (l : List Run) : Prop := Sees w v 3 l.length (runs l)
theorem Runs.keeps {w w' : World} {v : Value} {l : List Run} (h : Runs w v l) (hb : Below w.heap.size w w') : Runs w' v l := Sees.keeps h hb
theorem Runs.nil (w : World) : Runs w (.slice none 0 0) [] := Sees.nil w 3
theorem Runs.shape {w : World} {v : Value} {l : List Run} (h : Runs w v l) : ∃ ao cap, v = .slice ao l.length cap := Sees.shape h
theorem Runs.at {w : World} {ao : Option Addr} {m cap : Nat} {l : List Run} (h : Runs w (.slice ao m cap) l) (k : Nat) (hk : k < l.length) :
    ∃ b off, ao = some ⟨b, off, none⟩ ∧ b < w.heap.size ∧ w.cell? ⟨b, off + k * 3, none⟩ = some (.int .u32 ((l.getD k zrun).t : Int)) ∧ w.cell? ⟨b, off + k * 3 + 1, none⟩ = some (.int .u8 ((l.getD k zrun).r : Int)) ∧ w.cell? ⟨b, off + k * 3 + 2, none⟩ = some (.int .i64 (l.getD k zrun).m) := by
  obtain ⟨b, off, h1, h2, h3⟩ := Sees.at h (k * 3) (by rw [runs_len]; omega)
  have e := runs_get l k hk
  exact ⟨b, off, h1, h2, (h3 (k * 3) (by rw [runs_len]; omega)).trans e.1, (h3 (k * 3 + 1) (by rw [runs_len]; omega)).trans e.2.1, (h3 (k * 3 + 2) (by rw [runs_len]; omega)).trans e.2.2⟩
theorem Runs.own {w : World} {base : Nat} {e : TypeId} {v : Value} {n : Nat} {l : List Run} (h : w.ownsRow base e 3 v n (runs l)) : Runs w v l := by
  have h1 := h.1
  rw [runs_len] at h1
  obtain rfl : l.length = n := by omega
  exact Sees.own h
theorem runs_new (w : World) (l : List Run) (n : Nat) (hn : n = l.length) (hl : l.length ≤ 1000000) (e : TypeId) (fr : Nat × Nat) : Runs (w.alloc (.cells (runs l).toArray e fr)) (.slice (some ⟨w.heap.size, 0, none⟩) n n) l := by
  subst hn
  exact sees_new w (runs l) 3 l.length (runs_len l) hl _ _
/-- What is behind the first runs. -/
theorem Runs.tail {w : World} {b off n cap k : Nat} {l : List Run} (h : Runs w (.slice (some ⟨b, off, none⟩) n cap) l) (hk : k ≤ l.length) : Runs w (.slice (some ⟨b, off + k * 3, none⟩) (n - k) (cap - k)) (l.drop k) := by
  obtain ⟨h1, ao, cap', he, h2, h3, h4, h5⟩ := h
  simp only [Value.slice.injEq] at he
  obtain ⟨rfl, rfl, rfl⟩ := he
  refine ⟨by rw [runs_len], some ⟨b, off + k * 3, none⟩, cap - k, by rw [List.length_drop], by rw [List.length_drop]; omega, by omega, by simp, ?_⟩
  rw [runs_drop]
  rcases h5 with h5 | ⟨b', off', he, hb, hc⟩
  · left; rw [h5]; simp
  · right
    simp only [Option.some.injEq, Addr.mk.injEq] at he
    obtain ⟨rfl, rfl, _⟩ := he
    refine ⟨b, off + k * 3, rfl, hb, fun j u hj => ?_⟩
    rw [List.getElem?_drop] at hj
    rw [show off + k * 3 + j = off + (k * 3 + j) by omega]
    exact hc _ _ hj

/-- A block whose first three cells are these. -/
def Tri (w : World) (h : Nat) (c0 c1 c2 : Value) : Prop := h < w.heap.size ∧ w.cell? ⟨h, 0, none⟩ = some c0 ∧ w.cell? ⟨h, 1, none⟩ = some c1 ∧ w.cell? ⟨h, 2, none⟩ = some c2
theorem Tri.keeps {w w' : World} {h : Nat} {c0 c1 c2 : Value} (p : Tri w h c0 c1 c2) (hb : Below w.heap.size w w') : Tri w' h c0 c1 c2 :=
  ⟨Nat.lt_of_lt_of_le p.1 hb.size, (hb.cell (p := ⟨h, 0, none⟩) p.1).trans p.2.1, (hb.cell (p := ⟨h, 1, none⟩) p.1).trans p.2.2.1, (hb.cell (p := ⟨h, 2, none⟩) p.1).trans p.2.2.2⟩
theorem tri_new (w : World) (c0 c1 c2 : Value) (e : TypeId) : Tri (w.alloc (.cells #[c0, c1, c2] e)) w.heap.size c0 c1 c2 :=
  ⟨by simp, cell_of_row _ w.heap.size 0 #[c0, c1, c2] e _ (heap_alloc_new w _), cell_of_row _ w.heap.size 1 #[c0, c1, c2] e _ (heap_alloc_new w _), cell_of_row _ w.heap.size 2 #[c0, c1, c2] e _ (heap_alloc_new w _)⟩
theorem run_info : (Try.prog.info? 71).map (fun i => (i.zero, i.size, i.bytes)) = some (some (.agg #[.int .u32 0, .int .u8 0, .int .i64 0]), 3, 16) := by kernel_rfl
end Go.Proofs.Ytelilmhnfmojkaa

/- Stamps: which may be, which is less, the next one. Conditions: none. -/
namespace Go.Proofs.Ytelilmhnfmojkaa.Stamp

/-- May it be? -/
def may (t r : Nat) : Bool := decide (1 ≤ t ∧ t ≤ 1073741824 ∧ r < 8)
theorem may_iff {t r : Nat} : may t r = true ↔ 1 ≤ t ∧ t ≤ 1073741824 ∧ r < 8 := by simp [may]
theorem may_no {t r : Nat} : may t r = false ↔ ¬ (1 ≤ t ∧ t ≤ 1073741824 ∧ r < 8) := by simp only [may, decide_eq_false_iff_not]
def chk (t r : Nat) : Int := if may t r = true then 0 else 8
/-- Is one less? -/
def less (t r u s : Nat) : Bool := decide (t < u ∨ t = u ∧ r < s)
theorem less_iff {t r u s : Nat} : less t r u s = true ↔ t < u ∨ t = u ∧ r < s := by simp [less]
theorem less_no {t r u s : Nat} : less t r u s = false ↔ ¬ (t < u ∨ t = u ∧ r < s) := by simp only [less, decide_eq_false_iff_not]

/-- The greatest time. -/
def top : List Id → Nat
  | [] => 0
  | a :: l => max a.t (top l)
theorem top_append : ∀ l m : List Id, top (l ++ m) = max (top l) (top m)
  | [], m => by simp [top]
  | a :: l, m => by simp only [List.cons_append, top, top_append l m]; omega
theorem top_take (l : List Id) (k : Nat) (h : k < l.length) : top (l.take (k + 1)) = max (top (l.take k)) (l.getD k zid).t := by
  rw [List.take_succ_eq_append_getElem h, top_append]
  simp [top, List.getD, List.getElem?_eq_getElem h]
theorem top_le : ∀ (l : List Id) (k : Nat), k < l.length → (l.getD k zid).t ≤ top l
  | [], k, h => by simp at h
  | a :: l, 0, _ => by simp [top]; omega
  | a :: l, k + 1, h => by
    have := top_le l k (by simpa using h)
    simp [top] at this ⊢
    omega
theorem top_is : ∀ (l : List Id), top l ≠ 0 → ∃ k, k < l.length ∧ (l.getD k zid).t = top l
  | [], h => by simp [top] at h
  | a :: l, h => by
    by_cases h1 : top l ≤ a.t
    · exact ⟨0, by simp, by simp [top]; omega⟩
    · obtain ⟨k, h2, h3⟩ := top_is l (by omega)
      exact ⟨k + 1, by simpa using h2, by simp [top] at h3 ⊢; omega⟩
/-- The zero stamp, or one that may be. -/
def fine (a : Id) : Prop := a = zid ∨ may a.t a.r = true
instance (a : Id) : Decidable (fine a) := inferInstanceAs (Decidable (_ ∨ _))
def Fine (l : List Id) : Prop := ∀ a ∈ l, fine a
instance (l : List Id) : Decidable (Fine l) := inferInstanceAs (Decidable (∀ a ∈ l, fine a))
theorem fine_lt {a : Id} (h : fine a) : a.t ≤ 1073741824 ∧ a.r < 8 := by
  rcases h with rfl | h
  · simp [zid]
  · exact ⟨(may_iff.1 h).2.1, (may_iff.1 h).2.2⟩
theorem top_fine : ∀ {l : List Id}, Fine l → top l ≤ 1073741824
  | [], _ => by simp [top]
  | a :: l, h => by
    have h1 := (fine_lt (h a (by simp))).1
    have h2 := top_fine (l := l) (fun b hb => h b (by simp [hb]))
    simp [top]; omega
theorem Fine.take_snoc {l : List Id} {k : Nat} (h : k < l.length) (h1 : Fine (l.take k)) (h2 : fine (l.getD k zid)) : Fine (l.take (k + 1)) := by
  intro a ha
  rw [List.take_succ_eq_append_getElem h, List.mem_append] at ha
  rcases ha with ha | ha
  · exact h1 a ha
  · simp only [List.mem_singleton] at ha
    subst ha
    simpa [List.getD, List.getElem?_eq_getElem h] using h2
theorem getD_mem (l : List Id) (k : Nat) (h : k < l.length) : l.getD k zid ∈ l := by
  simp [List.getD, List.getElem?_eq_getElem h]
/-- The next one, and the error. -/
def next (r : Nat) (l : List Id) : Nat × Nat × Int :=
  if 1024 < l.length then (0, 0, 4) else if 8 ≤ r then (0, 0, 8) else if ¬ Fine l then (0, 0, 8) else if top l = 1073741824 then (0, 0, 50) else (top l + 1, r, 0)
theorem next_many {r : Nat} {l : List Id} (h : 1024 < l.length) : next r l = (0, 0, 4) := by simp [next, h]
theorem next_r {r : Nat} {l : List Id} (h : ¬ 1024 < l.length) (h2 : 8 ≤ r) : next r l = (0, 0, 8) := by simp [next, h, h2]
theorem next_bad {r : Nat} {l : List Id} (h : ¬ 1024 < l.length) (h2 : ¬ Fine l) : next r l = (0, 0, 8) := by simp [next, h, h2]
theorem next_time {r : Nat} {l : List Id} (h : ¬ 1024 < l.length) (h1 : ¬ 8 ≤ r) (h2 : Fine l) (h3 : top l = 1073741824) : next r l = (0, 0, 50) := by simp [next, h, h1, h2, h3]
theorem next_ok {r : Nat} {l : List Id} (h : ¬ 1024 < l.length) (h1 : ¬ 8 ≤ r) (h2 : Fine l) (h3 : top l ≠ 1073741824) : next r l = (top l + 1, r, 0) := by simp [next, h, h1, h2, h3]
/-- The next one as a value, with the error. -/
def nextv (r : Nat) (l : List Id) : Value := .tuple #[.agg #[.int .u32 ((next r l).1 : Int), .int .u8 ((next r l).2.1 : Int)], .int .i64 (next r l).2.2]
end Go.Proofs.Ytelilmhnfmojkaa.Stamp

/- Places: which may be, their stamps, how two are held against each other, in plain words. Conditions: none. -/
namespace Go.Proofs.Ytelilmhnfmojkaa.Place
open Stamp

/-- A stamp of two numbers, whatever they are. -/
def mk (t r : Nat) : Id := ⟨t % 4294967296, r % 256, Nat.mod_lt _ (by decide), Nat.mod_lt _ (by decide)⟩
theorem mk_t {t r : Nat} (h : t < 4294967296) : (mk t r).t = t := Nat.mod_eq_of_lt h
theorem mk_r {t r : Nat} (h : r < 256) : (mk t r).r = r := Nat.mod_eq_of_lt h
/-- The stamps of a run: n of them from t on. -/
def up (t r : Nat) : Nat → List Id
  | 0 => []
  | n + 1 => mk t r :: up (t + 1) r n
/-- A place's stamps. -/
def all : List Run → List Id
  | [] => []
  | x :: p => up x.t x.r x.m.toNat ++ all p
theorem up_len : ∀ (t r n : Nat), (up t r n).length = n
  | _, _, 0 => rfl
  | t, r, n + 1 => by simp [up, up_len (t + 1) r n]
theorem up_add : ∀ (t r m n : Nat), up t r (m + n) = up t r m ++ up (t + m) r n
  | t, r, 0, n => by simp [up]
  | t, r, m + 1, n => by
    rw [show m + 1 + n = (m + n) + 1 by omega]
    simp only [up, List.cons_append]
    rw [up_add (t + 1) r m n, show t + 1 + m = t + (m + 1) by omega]
theorem up_get : ∀ (t r n k : Nat), k < n → (up t r n).getD k zid = mk (t + k) r
  | t, r, 0, k, h => by omega
  | t, r, n + 1, 0, _ => by simp [up]
  | t, r, n + 1, k + 1, h => by
    have := up_get (t + 1) r n k (by omega)
    rw [show t + 1 + k = t + (k + 1) by omega] at this
    simpa [up] using this
theorem all_append : ∀ p q : List Run, all (p ++ q) = all p ++ all q
  | [], q => rfl
  | x :: p, q => by simp [all, all_append p q]

/-- May a run be, by itself? Its last time is t + m - 1. -/
def One (x : Run) : Prop := 1 ≤ x.t ∧ x.t ≤ 1073741824 ∧ x.r < 8 ∧ 1 ≤ x.m ∧ x.m ≤ 4096 ∧ (x.t : Int) + x.m - 1 ≤ 1073741824
instance (x : Run) : Decidable (One x) := inferInstanceAs (Decidable (_ ∧ _))
def fin (x : Run) : Int := (x.t : Int) + x.m - 1
/-- May one stand right behind another one? -/
def Next (x y : Run) : Prop := fin x < (y.t : Int) ∧ (y.r = x.r → fin x + 1 < (y.t : Int))
instance (x y : Run) : Decidable (Next x y) := inferInstanceAs (Decidable (_ ∧ _))
/-- How many stamps. -/
def long : List Run → Int
  | [] => 0
  | x :: p => x.m + long p
/-- Runs that may be, one behind the other. -/
def Chain : List Run → Prop
  | [] => True
  | [x] => One x
  | x :: y :: p => One x ∧ Next x y ∧ Chain (y :: p)
theorem Chain.head {x : Run} {p : List Run} (h : Chain (x :: p)) : One x := by
  cases p with
  | nil => exact h
  | cons y p => exact h.1
theorem Chain.tail {x : Run} {p : List Run} (h : Chain (x :: p)) : Chain p := by
  cases p with
  | nil => trivial
  | cons y p => exact h.2.2
def May (p : List Run) : Prop := 1 ≤ p.length ∧ p.length ≤ 64 ∧ Chain p ∧ long p ≤ 4096
def Any (p : List Run) : Prop := p = [] ∨ May p
theorem Any.chain {p : List Run} (h : Any p) : Chain p := by
  rcases h with rfl | h
  · trivial
  · exact h.2.2.1

/-- Stamps held against each other. -/
def hold : List Id → List Id → Int
  | [], [] => 0
  | _ :: _, [] => 1
  | [], _ :: _ => -1
  | a :: l, b :: m => if a = b then hold l m else if less b.t b.r a.t a.r = true then -1 else 1
/-- Is one a beginning of another one? -/
def first : List Id → List Id → Bool
  | [], _ => true
  | _ :: _, [] => false
  | a :: l, b :: m => decide (a = b) && first l m

theorem less_total {a b : Id} (h : a ≠ b) : less b.t b.r a.t a.r = true ↔ ¬ less a.t a.r b.t b.r = true := by
  rw [less_iff, less_iff]
  have : ¬ (a.t = b.t ∧ a.r = b.r) := fun h2 => h (Id.ext' h2.1 h2.2)
  omega
theorem hold_eq : ∀ l m : List Id, hold l m = 0 ↔ l = m
  | [], [] => by simp [hold]
  | a :: l, [] => by simp [hold]
  | [], b :: m => by simp [hold]
  | a :: l, b :: m => by
    by_cases h : a = b
    · subst h; simp [hold, hold_eq l m]
    · by_cases h2 : less b.t b.r a.t a.r = true <;> simp [hold, h, h2]
theorem hold_range : ∀ l m : List Id, hold l m = -1 ∨ hold l m = 0 ∨ hold l m = 1
  | [], [] => by simp [hold]
  | a :: l, [] => by simp [hold]
  | [], b :: m => by simp [hold]
  | a :: l, b :: m => by
    by_cases h : a = b
    · subst h; simpa [hold] using hold_range l m
    · by_cases h2 : less b.t b.r a.t a.r = true <;> simp [hold, h, h2]
theorem hold_neg : ∀ l m : List Id, hold m l = - hold l m
  | [], [] => by simp [hold]
  | a :: l, [] => by simp [hold]
  | [], b :: m => by simp [hold]
  | a :: l, b :: m => by
    by_cases h : a = b
    · subst h; simpa [hold] using hold_neg l m
    · have h' : ¬ b = a := fun e => h e.symm
      have ht := less_total h
      by_cases h2 : less b.t b.r a.t a.r = true
      · have h3 := ht.1 h2
        simp [hold, h, h', h2, h3]
      · have h3 : less a.t a.r b.t b.r = true := by
          by_cases h3 : less a.t a.r b.t b.r = true
          · exact h3
          · exact absurd (ht.2 h3) h2
        simp [hold, h, h', h2, h3]
theorem less_trans {a b c : Id} (h1 : less b.t b.r a.t a.r = true) (h2 : less c.t c.r b.t b.r = true) : less c.t c.r a.t a.r = true := by
  rw [less_iff] at *; omega
theorem less_irrefl (a : Id) : ¬ less a.t a.r a.t a.r = true := by rw [less_iff]; omega
theorem hold_cons_neg {a b : Id} {l m : List Id} : hold (a :: l) (b :: m) = -1 ↔ (a = b ∧ hold l m = -1) ∨ less b.t b.r a.t a.r = true := by
  by_cases h : a = b
  · subst h
    have := less_irrefl a
    simp [hold, this]
  · by_cases h2 : less b.t b.r a.t a.r = true <;> simp [hold, h, h2]
theorem hold_trans : ∀ l m n : List Id, hold l m = -1 → hold m n = -1 → hold l n = -1
  | [], m, [], h1, h2 => by cases m <;> simp [hold] at h1 h2
  | [], m, c :: n, h1, h2 => by simp [hold]
  | a :: l, [], n, h1, h2 => by simp [hold] at h1
  | a :: l, b :: m, [], h1, h2 => by simp [hold] at h2
  | a :: l, b :: m, c :: n, h1, h2 => by
    rw [hold_cons_neg] at *
    rcases h1 with ⟨rfl, h1⟩ | h1 <;> rcases h2 with ⟨rfl, h2⟩ | h2
    · exact .inl ⟨rfl, hold_trans l m n h1 h2⟩
    · exact .inr h2
    · exact .inr h1
    · exact .inr (less_trans h1 h2)
theorem hold_app : ∀ p l m : List Id, hold (p ++ l) (p ++ m) = hold l m
  | [], l, m => rfl
  | a :: p, l, m => by simp [hold, hold_app p l m]
theorem first_iff : ∀ l m : List Id, first l m = true ↔ ∃ n, m = l ++ n
  | [], m => by simp [first]
  | a :: l, [] => by simp [first]
  | a :: l, b :: m => by
    simp only [first, Bool.and_eq_true, decide_eq_true_eq, first_iff l m, List.cons_append, List.cons.injEq]
    constructor
    · rintro ⟨rfl, n, rfl⟩; exact ⟨n, rfl, rfl⟩
    · rintro ⟨n, rfl, rfl⟩; exact ⟨rfl, n, rfl⟩
theorem first_app : ∀ p l m : List Id, first (p ++ l) (p ++ m) = first l m
  | [], l, m => rfl
  | a :: p, l, m => by simp [first, first_app p l m]
end Go.Proofs.Ytelilmhnfmojkaa.Place
