/- Slices of bytes: what a slice value reads as, in a world; rows that a call has made. Conditions: none. -/
import Derived.Test.YtmgdbgloacbacaaChecked
import Derived.WalkKit
import Derived.WalkSpells
import Derived.WalkLawsBesides
import Derived.Laws.BytesArg
import Derived.Lib.Hide
import Derived.Test.YtmgdbgloacbacaaRows
import Derived.ProofKit
import Derived.SizedLaws
import Derived.RowKit
import Derived.Deep.LoopGhost
import Derived.Laws.AppendOwnNone
import Derived.Laws.OwnMore
import Derived.WideShapes


namespace Go.Proofs.Ytmgdbgloacbacaa
open Go.RowKit

/-- Bytes as cells. -/
def bs (l : List UInt8) : List Value := l.map fun x => .int .u8 (x.toNat : Int)
theorem bs_len (l : List UInt8) : (bs l).length = l.length := by simp [bs]
theorem bs_append (l m : List UInt8) : bs (l ++ m) = bs l ++ bs m := by simp [bs]
theorem bs_one (n : Nat) (h : n < 256) : bs [UInt8.ofNat n] = [.int .u8 (n : Int)] := by simp [bs]; omega
theorem bs_oneCell (l : List UInt8) : ∀ u ∈ bs l, u.oneCell' = true := by
  intro u hu
  simp only [bs, List.mem_map] at hu
  obtain ⟨x, _, rfl⟩ := hu
  rfl
theorem bs_get (l : List UInt8) (j : Nat) (h : j < l.length) : (bs l)[j]? = some (.int .u8 ((l.getD j 0).toNat : Int)) := by
  simp [bs, List.getD, List.getElem?_eq_getElem h]

/-- In the world w the slice value v reads as the bytes xs. -/
def Reads (w : World) (v : Value) (xs : List UInt8) : Prop :=
  xs.length ≤ 9223372036854775807 ∧ ∃ ao cap, v = .slice ao xs.length cap ∧ xs.length ≤ cap ∧ cap ≤ 9223372036854775807 ∧ (ao = none → cap = 0) ∧
    (xs = [] ∨ ∃ b off, ao = some ⟨b, off, none⟩ ∧ b < w.heap.size ∧ ∀ j, j < xs.length → w.cell? ⟨b, off + j, none⟩ = some (.int .u8 ((xs.getD j 0).toNat : Int)))

theorem Reads.nil (w : World) : Reads w (.slice none 0 0) [] := ⟨by simp, none, 0, rfl, by simp, by simp, fun _ => rfl, .inl rfl⟩

/-- What lies below a number of blocks stays read, where these blocks stay. -/
def Lies (B : Nat) (v : Value) : Prop := ∀ b, v.ownBlock = some b → b < B

theorem Reads.lies {w : World} {v : Value} {xs : List UInt8} (h : Reads w v xs) (hne : xs ≠ []) : Lies w.heap.size v := by
  obtain ⟨_, ao, cap, rfl, _, _, _, h | ⟨b, off, rfl, hb, _⟩⟩ := h
  · exact absurd h hne
  · intro k hk; simp [Value.ownBlock] at hk; omega

theorem Reads.below {w w' : World} {v : Value} {xs : List UInt8} {B : Nat} (h : Reads w v xs) (hb : Below B w w') (hl : xs ≠ [] → Lies B v) : Reads w' v xs := by
  obtain ⟨h1, ao, cap, rfl, h2, h3, h4, h5⟩ := h
  refine ⟨h1, ao, cap, rfl, h2, h3, h4, ?_⟩
  rcases h5 with h5 | ⟨b, off, rfl, hlt, hc⟩
  · exact .inl h5
  · by_cases hx : xs = []
    · exact .inl hx
    · have hB : b < B := hl hx b rfl
      exact .inr ⟨b, off, rfl, Nat.lt_of_lt_of_le hlt hb.size, fun j hj => (hb.cell (p := ⟨b, off + j, none⟩) hB).trans (hc j hj)⟩

/-- A row of the call's own reads as its bytes. -/
theorem Reads.own {w : World} {base : Nat} {e : TypeId} {v : Value} {xs : List UInt8} (h : w.ownsRow base e 1 v xs.length (bs xs)) : Reads w v xs := by
  have hk := h
  obtain ⟨_, hcase⟩ := h
  rcases hcase with ⟨rfl, h0⟩ | ⟨g, cap, cur, rfl, hg, hh, hn, hcap, hsz, htake⟩
  · have : xs = [] := List.length_eq_zero_iff.1 h0
    subst this
    exact Reads.nil w
  · unfold maxLen at hcap
    refine ⟨by omega, some ⟨g, 0, none⟩, cap, rfl, hn, hcap, by simp, .inr ⟨g, 0, rfl, (Array.getElem?_eq_some_iff.1 hh).1, fun j hj => ?_⟩⟩
    rw [Nat.zero_add, hk.cellAt j (by rw [Nat.mul_one]; omega)]
    exact bs_get xs j hj

/-- A beginning of a row that the call owns. -/
theorem Reads.take {w : World} {ao : Option Addr} {cap k : Nat} {xs : List UInt8} (h : Reads w (.slice ao xs.length cap) xs) (hk : k ≤ xs.length) : Reads w (.slice ao k cap) (xs.take k) := by
  obtain ⟨h1, ao', cap', he, h2, h3, h4, h5⟩ := h
  simp only [Value.slice.injEq, true_and] at he
  obtain ⟨rfl, rfl⟩ := he
  have hl : (xs.take k).length = k := by simp; omega
  refine ⟨by omega, ao, cap, by rw [hl], by omega, h3, h4, ?_⟩
  rcases h5 with rfl | ⟨b, off, rfl, hlt, hc⟩
  · left; simp
  · right
    refine ⟨b, off, rfl, hlt, fun j hj => ?_⟩
    rw [hl] at hj
    rw [hc j (by omega)]
    simp [List.getD, hj]

theorem own_lies {w : World} {base : Nat} {e : TypeId} {v : Value} {n : Nat} {xs : List Value} (h : w.ownsRow base e 1 v n xs) : Lies w.heap.size v := fun k hk => (h.lt k hk).2

/-- The bytes as a string. -/
def str (xs : List UInt8) : ByteArray := ⟨xs.toArray⟩

theorem strOfNums_bytes (xs : List UInt8) : strOfNums (xs.map fun x => (x.toNat : Int)) = str xs := by
  have : xs.map ((fun n : Int => UInt8.ofNat n.toNat) ∘ fun x : UInt8 => (x.toNat : Int)) = xs := by
    conv => rhs; rw [← List.map_id xs]
    apply List.map_congr_left
    intro x _
    simp
  simp [strOfNums, str, this]


theorem bt {a b c : World} (h1 : Below a.heap.size a b) (h2 : Below b.heap.size b c) : Below a.heap.size a c := h1.trans (h2.mono h1.size)

theorem own_shape {w : World} {base : Nat} {e : TypeId} {v : Value} {n : Nat} {xs : List Value} (h : w.ownsRow base e 1 v n xs) : ∃ ao cap, v = .slice ao n cap := by
  obtain ⟨_, hcase⟩ := h
  rcases hcase with ⟨rfl, rfl⟩ | ⟨g, cap, cur, rfl, _⟩
  · exact ⟨_, _, rfl⟩
  · exact ⟨_, _, rfl⟩
end Go.Proofs.Ytmgdbgloacbacaa

/- A slice of bytes that came in: what it reads as. Conditions: none. -/
namespace Go.Proofs.Ytmgdbgloacbacaa
open Go.ChangeShapes Go.WideShapes Go.ChangeAt Go.RowKit

theorem kit_own : ownKnob Try.prog.godebug = none := by kernel_rfl
theorem kit_laidOut : laidOutB Try.prog = true := by kernel_rfl
theorem kit_cells8 : Try.prog.cellsOf 5 = 1 := by kernel_rfl

end Go.Proofs.Ytmgdbgloacbacaa

/- Spans of times, in plain words: which may be, their times, one way of writing, one put to them, one taken away, how many. Conditions: none. -/
namespace Go.Proofs.Ytmgdbgloacbacaa.Spans

/-- A span: from a time to a time. -/
structure Sp where
  f : Nat
  t : Nat
  hf : f < 4294967296
  ht : t < 4294967296
theorem Sp.ext' {a b : Sp} (h1 : a.f = b.f) (h2 : a.t = b.t) : a = b := by
  obtain ⟨f, t, _, _⟩ := a; obtain ⟨g, u, _, _⟩ := b
  simp only at h1 h2
  subst h1 h2
  rfl
theorem Sp.eq_iff {a b : Sp} : a = b ↔ a.f = b.f ∧ a.t = b.t := ⟨fun h => by rw [h]; exact ⟨rfl, rfl⟩, fun h => Sp.ext' h.1 h.2⟩
instance : DecidableEq Sp := fun a b => if h : a.f = b.f ∧ a.t = b.t then isTrue (Sp.eq_iff.2 h) else isFalse (fun e => h (Sp.eq_iff.1 e))
def zsp : Sp := ⟨0, 0, by decide, by decide⟩
/-- A span of two numbers, whatever they are. -/
def mk (f t : Nat) : Sp := ⟨f % 4294967296, t % 4294967296, Nat.mod_lt _ (by decide), Nat.mod_lt _ (by decide)⟩
theorem mk_f {f t : Nat} (h : f < 4294967296) : (mk f t).f = f := Nat.mod_eq_of_lt h
theorem mk_t {f t : Nat} (h : t < 4294967296) : (mk f t).t = t := Nat.mod_eq_of_lt h

/-- May a span be, by itself? -/
def Ok (x : Sp) : Prop := 1 ≤ x.f ∧ x.f ≤ x.t ∧ x.t ≤ 1073741824
instance (x : Sp) : Decidable (Ok x) := inferInstanceAs (Decidable (_ ∧ _))
/-- May spans be, but for how many? -/
def Fine : List Sp → Prop
  | [] => True
  | [x] => Ok x
  | x :: y :: l => Ok x ∧ x.t + 2 ≤ y.f ∧ Fine (y :: l)
theorem Fine.head {x : Sp} {l : List Sp} (h : Fine (x :: l)) : Ok x := by
  cases l with
  | nil => exact h
  | cons y l => exact h.1
theorem Fine.tail {x : Sp} {l : List Sp} (h : Fine (x :: l)) : Fine l := by
  cases l with
  | nil => trivial
  | cons y l => exact h.2.2
theorem Fine.all : ∀ {l : List Sp}, Fine l → ∀ x ∈ l, Ok x
  | [], _, x, hx => by simp at hx
  | y :: l, h, x, hx => by
    rw [List.mem_cons] at hx
    rcases hx with rfl | hx
    · exact h.head
    · exact Fine.all h.tail x hx
theorem Fine.far : ∀ {x : Sp} {l : List Sp}, Fine (x :: l) → ∀ y ∈ l, x.t + 2 ≤ y.f
  | _, [], _, y, hy => by simp at hy
  | x, z :: l, h, y, hy => by
    rw [List.mem_cons] at hy
    rcases hy with rfl | hy
    · exact h.2.1
    · have h1 := Fine.far h.2.2 y hy
      have h2 := h.2.1
      have h3 := h.2.2.head
      unfold Ok at h3
      omega
theorem Fine.cons {x : Sp} {l : List Sp} (hx : Ok x) (hl : Fine l) (h : ∀ y ∈ l, x.t + 2 ≤ y.f) : Fine (x :: l) := by
  cases l with
  | nil => exact hx
  | cons y l => exact ⟨hx, h y (by simp), hl⟩
theorem fine_append : ∀ {l m : List Sp}, Fine l → Fine m → (∀ a ∈ l, ∀ b ∈ m, a.t + 2 ≤ b.f) → Fine (l ++ m)
  | [], m, _, h, _ => h
  | x :: l, m, h1, h2, h => by
    rw [List.cons_append]
    refine Fine.cons h1.head (fine_append h1.tail h2 (fun a ha b hb => h a (by simp [ha]) b hb)) (fun y hy => ?_)
    rw [List.mem_append] at hy
    rcases hy with hy | hy
    · exact h1.far y hy
    · exact h x (by simp) y hy

/-- Has it the time? -/
def In (l : List Sp) (n : Nat) : Prop := ∃ x ∈ l, x.f ≤ n ∧ n ≤ x.t
def inB : List Sp → Nat → Bool
  | [], _ => false
  | x :: l, n => decide (x.f ≤ n ∧ n ≤ x.t) || inB l n
theorem inB_iff : ∀ (l : List Sp) (n : Nat), inB l n = true ↔ In l n
  | [], n => by simp [inB, In]
  | x :: l, n => by
    have ih := inB_iff l n
    unfold In at ih ⊢
    simp [inB, ih]
instance (l : List Sp) (n : Nat) : Decidable (In l n) := decidable_of_iff _ (inB_iff l n)
theorem in_nil (n : Nat) : ¬ In [] n := by simp [In]
theorem in_cons {x : Sp} {l : List Sp} {n : Nat} : In (x :: l) n ↔ (x.f ≤ n ∧ n ≤ x.t) ∨ In l n := by simp [In]
theorem in_append {l m : List Sp} {n : Nat} : In (l ++ m) n ↔ In l n ∨ In m n := by
  induction l with
  | nil => simp [in_nil]
  | cons x l ih => rw [List.cons_append, in_cons, in_cons, ih]; constructor <;> (intro h; rcases h with h | h) <;> first | exact .inl (.inl h) | exact .inl h | (rcases h with h | h; exact .inl (.inr h); exact .inr h) | exact .inr (.inl h) | exact .inr (.inr h) | (rcases h with h | h; exact .inl h; exact .inr (.inl h)) | skip
theorem in_far {x : Sp} {l : List Sp} (h : Fine (x :: l)) {n : Nat} (hn : In l n) : x.t + 2 ≤ n := by
  obtain ⟨y, hy, h1, _⟩ := hn
  have := h.far y hy
  omega
theorem in_bound {l : List Sp} (h : Fine l) {n : Nat} (hn : In l n) : 1 ≤ n ∧ n ≤ 1073741824 := by
  obtain ⟨y, hy, h1, h2⟩ := hn
  have := h.all y hy
  unfold Ok at this
  omega

/-- A set is written in one way alone. -/
theorem uniq : ∀ {l m : List Sp}, Fine l → Fine m → (∀ n, In l n ↔ In m n) → l = m
  | [], [], _, _, _ => rfl
  | [], y :: m, _, h2, h => by
    have h3 := h2.head
    unfold Ok at h3
    exact absurd ((h y.f).2 (in_cons.2 (.inl ⟨by omega, by omega⟩))) (in_nil _)
  | x :: l, [], h1, _, h => by
    have h3 := h1.head
    unfold Ok at h3
    exact absurd ((h x.f).1 (in_cons.2 (.inl ⟨by omega, by omega⟩))) (in_nil _)
  | x :: l, y :: m, h1, h2, h => by
    have hx := h1.head
    have hy := h2.head
    unfold Ok at hx hy
    have least : ∀ {x y : Sp} {l m : List Sp}, Fine (x :: l) → Fine (y :: m) → Ok x → (∀ n, In (x :: l) n → In (y :: m) n) → y.f ≤ x.f := by
      intro x y l m h1 h2 hx h
      have := h x.f (in_cons.2 (.inl ⟨Nat.le_refl _, hx.2.1⟩))
      rcases in_cons.1 this with h3 | h3
      · exact h3.1
      · have h4 := in_far h2 h3
        have h5 := h2.head
        unfold Ok at h5
        omega
    have most : ∀ {x y : Sp} {l m : List Sp}, Fine (x :: l) → Fine (y :: m) → x.f = y.f → (∀ n, In (y :: m) n → In (x :: l) n) → y.t ≤ x.t := by
      intro x y l m h1 h2 hf h
      have hx := h1.head
      have hy := h2.head
      unfold Ok at hx hy
      by_cases hlt : x.t < y.t
      · have := h (x.t + 1) (in_cons.2 (.inl ⟨by omega, by omega⟩))
        rcases in_cons.1 this with h3 | h3
        · omega
        · have h4 := in_far h1 h3
          omega
      · omega
    have hf : x.f = y.f := by
      have a := least h1 h2 h1.head (fun n => (h n).1)
      have b := least h2 h1 h2.head (fun n => (h n).2)
      omega
    have ht : x.t = y.t := by
      have a := most h1 h2 hf (fun n => (h n).2)
      have b := most h2 h1 hf.symm (fun n => (h n).1)
      omega
    have e : x = y := Sp.ext' hf ht
    subst e
    congr 1
    refine uniq h1.tail h2.tail (fun n => ?_)
    constructor
    · intro hn
      have h3 := in_far h1 hn
      rcases in_cons.1 ((h n).1 (in_cons.2 (.inr hn))) with h4 | h4
      · omega
      · exact h4
    · intro hn
      have h3 := in_far h2 hn
      rcases in_cons.1 ((h n).2 (in_cons.2 (.inr hn))) with h4 | h4
      · omega
      · exact h4

/-! ### One put to them -/

/-- Two spans that touch, as one. -/
def mrg (y x : Sp) : Sp := ⟨min x.f y.f, max x.t y.t, by have := x.hf; omega, by have := x.ht; have := y.ht; omega⟩
/-- One put to spans, in order. -/
def ins : List Sp → Sp → List Sp
  | [], x => [x]
  | y :: l, x => if y.t + 1 < x.f then y :: ins l x else if x.t + 1 < y.f then x :: y :: l else ins l (mrg y x)
theorem mrg_ok {x y : Sp} (hx : Ok x) (hy : Ok y) : Ok (mrg y x) := by
  unfold Ok mrg at *; simp only; omega
theorem in_mrg {x y : Sp} (h1 : ¬ y.t + 1 < x.f) (h2 : ¬ x.t + 1 < y.f) (n : Nat) : ((mrg y x).f ≤ n ∧ n ≤ (mrg y x).t) ↔ (y.f ≤ n ∧ n ≤ y.t) ∨ (x.f ≤ n ∧ n ≤ x.t) := by
  unfold mrg; simp only; omega
theorem in_ins : ∀ {l : List Sp} {x : Sp}, Fine l → Ok x → ∀ n, In (ins l x) n ↔ In l n ∨ (x.f ≤ n ∧ n ≤ x.t)
  | [], x, _, _, n => by
    simp only [ins, in_cons]
    have := in_nil n
    constructor
    · rintro (h | h)
      · exact .inr h
      · exact absurd h this
    · rintro (h | h)
      · exact absurd h this
      · exact .inl h
  | y :: l, x, h, hx, n => by
    unfold ins
    by_cases h1 : y.t + 1 < x.f
    · rw [if_pos h1, in_cons, in_cons, in_ins h.tail hx n]
      constructor
      · rintro (h2 | h2 | h2)
        · exact .inl (.inl h2)
        · exact .inl (.inr h2)
        · exact .inr h2
      · rintro ((h2 | h2) | h2)
        · exact .inl h2
        · exact .inr (.inl h2)
        · exact .inr (.inr h2)
    · rw [if_neg h1]
      by_cases h2 : x.t + 1 < y.f
      · rw [if_pos h2, in_cons]
        exact ⟨fun h => h.symm, fun h => h.symm⟩
      · rw [if_neg h2, in_ins h.tail (mrg_ok hx h.head) n, in_mrg h1 h2 n, in_cons]
        constructor
        · rintro (h3 | h3 | h3)
          · exact .inl (.inr h3)
          · exact .inl (.inl h3)
          · exact .inr h3
        · rintro ((h3 | h3) | h3)
          · exact .inr (.inl h3)
          · exact .inl h3
          · exact .inr (.inr h3)
theorem ins_low : ∀ {l : List Sp} {x : Sp} {b : Nat}, (∀ y ∈ l, b ≤ y.f) → b ≤ x.f → ∀ y ∈ ins l x, b ≤ y.f
  | [], x, b, _, h2, y, hy => by simp only [ins, List.mem_singleton] at hy; subst hy; exact h2
  | z :: l, x, b, h1, h2, y, hy => by
    unfold ins at hy
    by_cases g1 : z.t + 1 < x.f
    · rw [if_pos g1, List.mem_cons] at hy
      rcases hy with rfl | hy
      · exact h1 y (by simp)
      · exact ins_low (fun u hu => h1 u (by simp [hu])) h2 y hy
    · rw [if_neg g1] at hy
      by_cases g2 : x.t + 1 < z.f
      · rw [if_pos g2, List.mem_cons] at hy
        rcases hy with rfl | hy
        · exact h2
        · exact h1 y hy
      · rw [if_neg g2] at hy
        refine ins_low (fun u hu => h1 u (by simp [hu])) ?_ y hy
        have := h1 z (by simp)
        unfold mrg; simp only; omega
theorem ins_fine : ∀ {l : List Sp} {x : Sp}, Fine l → Ok x → Fine (ins l x)
  | [], _, _, hx => hx
  | y :: l, x, h, hx => by
    unfold ins
    by_cases h1 : y.t + 1 < x.f
    · rw [if_pos h1]
      exact Fine.cons h.head (ins_fine h.tail hx) (ins_low h.far (by omega))
    · rw [if_neg h1]
      by_cases h2 : x.t + 1 < y.f
      · rw [if_pos h2]
        exact ⟨hx, by omega, h⟩
      · rw [if_neg h2]
        exact ins_fine h.tail (mrg_ok hx h.head)
theorem ins_len : ∀ (l : List Sp) (x : Sp), (ins l x).length ≤ l.length + 1
  | [], _ => by simp [ins]
  | y :: l, x => by
    unfold ins
    by_cases h1 : y.t + 1 < x.f
    · rw [if_pos h1]; have := ins_len l x; simp; omega
    · rw [if_neg h1]
      by_cases h2 : x.t + 1 < y.f
      · rw [if_pos h2]; simp
      · rw [if_neg h2]; have := ins_len l (mrg y x); simp; omega
/-- The same in three goes: those ahead, the ones that touch, those behind. -/
def gat : List Sp → Sp → Sp
  | [], x => x
  | y :: l, x => if x.f ≤ y.t + 1 ∧ y.f ≤ x.t + 1 then gat l (mrg y x) else gat l x
def three (l : List Sp) (x : Sp) : List Sp := l.filter (fun y => decide (y.t + 1 < x.f)) ++ gat l x :: l.filter (fun y => decide ((gat l x).t + 1 < y.f))
theorem gat_t : ∀ (l : List Sp) (x : Sp), x.t ≤ (gat l x).t
  | [], x => Nat.le_refl _
  | y :: l, x => by
    unfold gat
    split
    · have := gat_t l (mrg y x)
      unfold mrg at this ⊢
      simp only at this ⊢
      omega
    · exact gat_t l x
theorem filter_none {l : List Sp} {p : Sp → Bool} (h : ∀ y ∈ l, p y = false) : l.filter p = [] := by
  rw [List.filter_eq_nil_iff]
  intro y hy
  rw [h y hy]
  simp
theorem filter_all {l : List Sp} {p : Sp → Bool} (h : ∀ y ∈ l, p y = true) : l.filter p = l := List.filter_eq_self.2 h
theorem gat_far : ∀ {l : List Sp} {x : Sp}, (∀ y ∈ l, x.t + 1 < y.f) → gat l x = x
  | [], _, _ => rfl
  | y :: l, x, h => by
    unfold gat
    have := h y (by simp)
    rw [if_neg (by omega)]
    exact gat_far (fun z hz => h z (by simp [hz]))
theorem three_ins : ∀ {l : List Sp} {x : Sp}, Fine l → Ok x → three l x = ins l x
  | [], x, _, _ => rfl
  | y :: l, x, h, hx => by
    have hy := h.head
    have hok := h.tail.all
    have hfar := h.far
    unfold Ok at hx hy
    unfold ins
    by_cases h1 : y.t + 1 < x.f
    · rw [if_pos h1, ← three_ins h.tail hx]
      have hg : gat (y :: l) x = gat l x := by
        show (if x.f ≤ y.t + 1 ∧ y.f ≤ x.t + 1 then gat l (mrg y x) else gat l x) = _
        rw [if_neg (by omega)]
      have ht := gat_t l x
      unfold three
      rw [hg, List.filter_cons, if_pos (by simpa using h1), List.filter_cons, if_neg (by simp; omega), List.cons_append]
    · rw [if_neg h1]
      by_cases h2 : x.t + 1 < y.f
      · rw [if_pos h2]
        have hall : ∀ z ∈ y :: l, x.t + 1 < z.f := by
          intro z hz
          rw [List.mem_cons] at hz
          rcases hz with rfl | hz
          · exact h2
          · have := hfar z hz; omega
        unfold three
        rw [gat_far hall, filter_none, filter_all]
        · rfl
        · intro z hz; simpa using hall z hz
        · intro z hz
          have h3 := hall z hz
          have h4 := h.all z hz
          unfold Ok at h4
          simp; omega
      · rw [if_neg h2, ← three_ins h.tail (mrg_ok hx hy)]
        have hg : gat (y :: l) x = gat l (mrg y x) := by
          show (if x.f ≤ y.t + 1 ∧ y.f ≤ x.t + 1 then gat l (mrg y x) else gat l x) = _
          rw [if_pos (by omega)]
        have ht := gat_t l (mrg y x)
        have hm : y.t ≤ (mrg y x).t ∧ (mrg y x).f ≤ x.f := by unfold mrg; simp only; omega
        unfold three
        have e1 : (y :: l).filter (fun z => decide (z.t + 1 < x.f)) = [] := by
          refine filter_none (fun z hz => ?_)
          rw [List.mem_cons] at hz
          rcases hz with rfl | hz
          · simpa using h1
          · have h3 := hfar z hz
            have h4 := hok z hz
            unfold Ok at h4
            simp; omega
        have e2 : l.filter (fun z => decide (z.t + 1 < (mrg y x).f)) = [] := by
          refine filter_none (fun z hz => ?_)
          have h3 := hfar z hz
          have h4 := hok z hz
          unfold Ok at h4
          simp; omega
        rw [hg, e1, e2, List.filter_cons, if_neg (by simp; omega)]

/-! ### One taken away -/

/-- What is left of one. -/
def rem (y x : Sp) : List Sp :=
  if y.t < x.f ∨ x.t < y.f then [y] else (if y.f < x.f then [mk y.f (x.f - 1)] else []) ++ (if x.t < y.t then [mk (x.t + 1) y.t] else [])
def del : List Sp → Sp → List Sp
  | [], _ => []
  | y :: l, x => rem y x ++ del l x
theorem rem_in {y x : Sp} (hy : Ok y) (hx : Ok x) (n : Nat) : In (rem y x) n ↔ (y.f ≤ n ∧ n ≤ y.t) ∧ ¬ (x.f ≤ n ∧ n ≤ x.t) := by
  unfold Ok at hx hy
  have h0 := in_nil n
  unfold rem
  by_cases h1 : y.t < x.f ∨ x.t < y.f
  · rw [if_pos h1, in_cons]
    constructor
    · rintro (h | h)
      · exact ⟨h, by omega⟩
      · exact absurd h h0
    · intro h; exact .inl h.1
  · rw [if_neg h1, in_append]
    by_cases h2 : y.f < x.f
    · rw [if_pos h2, in_cons, mk_f (by omega), mk_t (by omega)]
      by_cases h3 : x.t < y.t
      · rw [if_pos h3, in_cons, mk_f (by omega), mk_t (by omega)]
        constructor
        · rintro ((h | h) | (h | h))
          · omega
          · exact absurd h h0
          · omega
          · exact absurd h h0
        · intro h
          by_cases h4 : n < x.f
          · exact .inl (.inl (by omega))
          · exact .inr (.inl (by omega))
      · rw [if_neg h3]
        constructor
        · rintro ((h | h) | h)
          · omega
          · exact absurd h h0
          · exact absurd h h0
        · intro h; exact .inl (.inl (by omega))
    · rw [if_neg h2]
      by_cases h3 : x.t < y.t
      · rw [if_pos h3, in_cons, mk_f (by omega), mk_t (by omega)]
        constructor
        · rintro (h | h | h)
          · exact absurd h h0
          · omega
          · exact absurd h h0
        · intro h; exact .inr (.inl (by omega))
      · rw [if_neg h3]
        constructor
        · rintro (h | h) <;> exact absurd h h0
        · intro h; omega
theorem rem_fine {y x : Sp} (hy : Ok y) (hx : Ok x) : Fine (rem y x) ∧ ∀ z ∈ rem y x, y.f ≤ z.f ∧ z.t ≤ y.t := by
  have hyo := hy
  unfold Ok at hx hy
  unfold rem
  by_cases h1 : y.t < x.f ∨ x.t < y.f
  · rw [if_pos h1]
    exact ⟨hyo, fun z hz => by simp only [List.mem_singleton] at hz; subst hz; omega⟩
  · rw [if_neg h1]
    have oa : y.f < x.f → Ok (mk y.f (x.f - 1)) := fun h => by unfold Ok; rw [mk_f (by omega), mk_t (by omega)]; omega
    have ob : x.t < y.t → Ok (mk (x.t + 1) y.t) := fun h => by unfold Ok; rw [mk_f (by omega), mk_t (by omega)]; omega
    by_cases h2 : y.f < x.f
    · rw [if_pos h2]
      by_cases h3 : x.t < y.t
      · rw [if_pos h3]
        refine ⟨⟨oa h2, by rw [mk_t (by omega), mk_f (by omega)]; omega, ob h3⟩, fun z hz => ?_⟩
        simp only [List.cons_append, List.nil_append, List.mem_cons, List.not_mem_nil, or_false] at hz
        rcases hz with rfl | rfl
        · rw [mk_f (by omega), mk_t (by omega)]; omega
        · rw [mk_f (by omega), mk_t (by omega)]; omega
      · rw [if_neg h3]
        refine ⟨oa h2, fun z hz => ?_⟩
        simp only [List.append_nil, List.mem_singleton] at hz
        subst hz
        rw [mk_f (by omega), mk_t (by omega)]; omega
    · rw [if_neg h2]
      by_cases h3 : x.t < y.t
      · rw [if_pos h3]
        refine ⟨ob h3, fun z hz => ?_⟩
        simp only [List.nil_append, List.mem_singleton] at hz
        subst hz
        rw [mk_f (by omega), mk_t (by omega)]; omega
      · rw [if_neg h3]
        exact ⟨trivial, fun z hz => by simp at hz⟩
theorem del_in : ∀ {l : List Sp} {x : Sp}, Fine l → Ok x → ∀ n, In (del l x) n ↔ In l n ∧ ¬ (x.f ≤ n ∧ n ≤ x.t)
  | [], x, _, _, n => by simp [del, in_nil]
  | y :: l, x, h, hx, n => by
    unfold del
    rw [in_append, rem_in h.head hx, del_in h.tail hx, in_cons]
    constructor
    · rintro (h1 | h1)
      · exact ⟨.inl h1.1, h1.2⟩
      · exact ⟨.inr h1.1, h1.2⟩
    · rintro ⟨h1 | h1, h2⟩
      · exact .inl ⟨h1, h2⟩
      · exact .inr ⟨h1, h2⟩
theorem del_low : ∀ {l : List Sp} {x : Sp}, Fine l → Ok x → ∀ z ∈ del l x, ∃ y ∈ l, y.f ≤ z.f
  | [], x, _, _, z, hz => by simp [del] at hz
  | y :: l, x, h, hx, z, hz => by
    unfold del at hz
    rw [List.mem_append] at hz
    rcases hz with hz | hz
    · exact ⟨y, by simp, ((rem_fine h.head hx).2 z hz).1⟩
    · obtain ⟨u, h1, h2⟩ := del_low h.tail hx z hz
      exact ⟨u, by simp [h1], h2⟩
theorem del_fine : ∀ {l : List Sp} {x : Sp}, Fine l → Ok x → Fine (del l x)
  | [], _, _, _ => trivial
  | y :: l, x, h, hx => by
    unfold del
    refine fine_append (rem_fine h.head hx).1 (del_fine h.tail hx) (fun a ha b hb => ?_)
    have h1 := ((rem_fine h.head hx).2 a ha).2
    obtain ⟨u, h2, h3⟩ := del_low h.tail hx b hb
    have h4 := h.far u h2
    omega
theorem rem_len (y x : Sp) : (rem y x).length ≤ 2 := by
  unfold rem; split
  · simp
  · split <;> split <;> simp

/-! ### All of one put to another one, taken away -/

def both : List Sp → List Sp → List Sp
  | a, [] => a
  | a, x :: b => both (ins a x) b
def left : List Sp → List Sp → List Sp
  | a, [] => a
  | a, x :: b => left (del a x) b
theorem both_ok : ∀ {b a : List Sp}, Fine a → (∀ x ∈ b, Ok x) → Fine (both a b) ∧ ∀ n, In (both a b) n ↔ In a n ∨ In b n
  | [], a, h, _ => ⟨h, fun n => by simp [both, in_nil]⟩
  | x :: b, a, h, hb => by
    have hx := hb x (by simp)
    have ih := both_ok (b := b) (ins_fine h hx) (fun y hy => hb y (by simp [hy]))
    refine ⟨ih.1, fun n => ?_⟩
    show In (both (ins a x) b) n ↔ _
    rw [ih.2 n, in_ins h hx n, in_cons]
    constructor
    · rintro ((h1 | h1) | h1)
      · exact .inl h1
      · exact .inr (.inl h1)
      · exact .inr (.inr h1)
    · rintro (h1 | h1 | h1)
      · exact .inl (.inl h1)
      · exact .inl (.inr h1)
      · exact .inr h1
theorem left_ok : ∀ {b a : List Sp}, Fine a → (∀ x ∈ b, Ok x) → Fine (left a b) ∧ ∀ n, In (left a b) n ↔ In a n ∧ ¬ In b n
  | [], a, h, _ => ⟨h, fun n => by simp [left, in_nil]⟩
  | x :: b, a, h, hb => by
    have hx := hb x (by simp)
    have ih := left_ok (b := b) (del_fine h hx) (fun y hy => hb y (by simp [hy]))
    refine ⟨ih.1, fun n => ?_⟩
    show In (left (del a x) b) n ↔ _
    rw [ih.2 n, del_in h hx n, in_cons]
    constructor
    · rintro ⟨⟨h1, h2⟩, h3⟩
      exact ⟨h1, fun h4 => h4.elim h2 h3⟩
    · rintro ⟨h1, h2⟩
      exact ⟨⟨h1, fun h4 => h2 (.inl h4)⟩, fun h4 => h2 (.inr h4)⟩

/-! ### How many times -/

def many : List Sp → Nat
  | [] => 0
  | x :: l => x.t - x.f + 1 + many l
/-- How many numbers below one are so. -/
def cnt (p : Nat → Bool) : Nat → Nat
  | 0 => 0
  | n + 1 => cnt p n + if p n then 1 else 0
theorem cnt_none {p : Nat → Bool} : ∀ {n : Nat}, (∀ k, k < n → p k = false) → cnt p n = 0
  | 0, _ => rfl
  | n + 1, h => by unfold cnt; rw [h n (by omega), cnt_none (fun k hk => h k (by omega))]; rfl
theorem cnt_or {p q r : Nat → Bool} (h1 : ∀ k, r k = (p k || q k)) (h2 : ∀ k, ¬ (p k = true ∧ q k = true)) : ∀ n, cnt r n = cnt p n + cnt q n
  | 0 => rfl
  | n + 1 => by
    have ih := cnt_or h1 h2 n
    have e := h1 n
    have g := h2 n
    unfold cnt
    rw [ih, e]
    cases hp : p n <;> cases hq : q n
    · simp
    · simp; omega
    · simp; omega
    · exact absurd ⟨hp, hq⟩ g
theorem cnt_span (f t : Nat) : ∀ n, t < n → f ≤ t → cnt (fun k => decide (f ≤ k ∧ k ≤ t)) n = t - f + 1 := by
  have low : ∀ n, n ≤ t + 1 → cnt (fun k => decide (f ≤ k ∧ k ≤ t)) n = n - f := by
    intro n
    induction n with
    | zero => intro _; simp [cnt]
    | succ n ih =>
      intro h
      unfold cnt
      rw [ih (by omega)]
      by_cases g : f ≤ n
      · rw [if_pos (by simp; omega)]; omega
      · rw [if_neg (by simp; omega)]; omega
  intro n
  induction n with
  | zero => intro h; omega
  | succ n ih =>
    intro h1 h2
    by_cases g : t < n
    · unfold cnt
      rw [ih g h2, if_neg (by simp; omega)]
    · have : n = t := by omega
      subst this
      rw [low (n + 1) (by omega)]
      omega
theorem many_cnt : ∀ {l : List Sp}, Fine l → many l = cnt (inB l) 1073741825
  | [], _ => (cnt_none (fun _ _ => rfl)).symm
  | x :: l, h => by
    have hx := h.head
    unfold Ok at hx
    have e := cnt_or (r := inB (x :: l)) (p := fun k => decide (x.f ≤ k ∧ k ≤ x.t)) (q := inB l) (fun k => rfl) (fun k => by
      rintro ⟨h1, h2⟩
      have h3 := in_far h ((inB_iff l k).1 h2)
      have h4 := of_decide_eq_true h1
      omega) 1073741825
    rw [e, cnt_span _ _ _ (by omega) hx.2.1, ← many_cnt h.tail]
    rfl
/-- Two sets without a time in both have as many as their join. -/
theorem many_join {l m j : List Sp} (h1 : Fine l) (h2 : Fine m) (h3 : Fine j) (hj : ∀ n, In j n ↔ In l n ∨ In m n) (hn : ∀ n, ¬ (In l n ∧ In m n)) : many j = many l + many m := by
  rw [many_cnt h1, many_cnt h2, many_cnt h3]
  refine cnt_or (fun k => ?_) (fun k => ?_) _
  · rw [Bool.eq_iff_iff, Bool.or_eq_true, inB_iff, inB_iff, inB_iff]
    exact hj k
  · rw [inB_iff, inB_iff]
    exact hn k
end Go.Proofs.Ytmgdbgloacbacaa.Spans

/- Spans, as Bools, and taken one by one. Conditions: none. -/
namespace Go.Proofs.Ytmgdbgloacbacaa.Spans

def fineB : List Sp → Bool
  | [] => true
  | [x] => decide (Ok x)
  | x :: y :: l => decide (Ok x) && (decide (x.t + 2 ≤ y.f) && fineB (y :: l))
theorem fineB_iff : ∀ l : List Sp, fineB l = true ↔ Fine l
  | [] => by simp [fineB, Fine]
  | [x] => by simp [fineB, Fine]
  | x :: y :: l => by simp [fineB, Fine, fineB_iff (y :: l)]
/-- May spans be? -/
def mayB (l : List Sp) : Bool := fineB l && decide (l.length ≤ 1024)
theorem mayB_iff (l : List Sp) : mayB l = true ↔ Fine l ∧ l.length ≤ 1024 := by simp [mayB, fineB_iff]
theorem mayB_no {l : List Sp} (h : ¬ Fine l) : mayB l = false := by
  cases hb : mayB l
  · rfl
  · exact absurd ((mayB_iff l).1 hb).1 h
theorem fine_ok : ∀ {l : List Sp} {k : Nat}, Fine l → k < l.length → Ok (l.getD k zsp)
  | [], k, _, h => by simp at h
  | x :: l, 0, h, _ => by simpa using h.head
  | x :: l, k + 1, h, hk => by simpa using fine_ok (k := k) h.tail (by simpa using hk)
theorem fine_next : ∀ {l : List Sp} {k : Nat}, Fine l → k + 1 < l.length → (l.getD k zsp).t + 2 ≤ (l.getD (k + 1) zsp).f
  | [], k, _, h => by simp at h
  | [x], k, _, h => by simp at h
  | x :: y :: l, 0, h, _ => by simpa using h.2.1
  | x :: y :: l, k + 1, h, hk => by
    have := fine_next (l := y :: l) (k := k) h.2.2 (by simpa using hk)
    simpa using this
theorem take_snoc (l : List Sp) (k : Nat) (h : k < l.length) : l.take (k + 1) = l.take k ++ [l.getD k zsp] := by
  rw [List.take_succ_eq_append_getElem h]
  simp [List.getD, List.getElem?_eq_getElem h]
theorem fine_front : ∀ {p q : List Sp}, Fine (p ++ q) → Fine p
  | [], _, _ => trivial
  | [_], _, h => h.head
  | _ :: y :: p, _, h => ⟨h.1, h.2.1, fine_front (p := y :: p) h.2.2⟩
theorem fine_take {l : List Sp} (h : Fine l) (k : Nat) : Fine (l.take k) := by
  have := List.take_append_drop k l
  rw [← this] at h
  exact fine_front h
theorem fine_most : ∀ {l : List Sp}, Fine l → ∀ a ∈ l, a.t ≤ (l.getD (l.length - 1) zsp).t
  | [], _, a, ha => by simp at ha
  | [x], _, a, ha => by simp only [List.mem_singleton] at ha; subst ha; simp
  | x :: y :: l, h, a, ha => by
    have ih := fine_most h.2.2
    have e : (x :: y :: l).getD ((x :: y :: l).length - 1) zsp = (y :: l).getD ((y :: l).length - 1) zsp := by simp
    rw [e]
    rw [List.mem_cons] at ha
    rcases ha with rfl | ha
    · have h1 := ih y (by simp)
      have h2 := h.2.1
      have h3 := h.2.2.head
      unfold Ok at h3
      omega
    · exact ih a ha
theorem fine_take_succ {l : List Sp} {k : Nat} (h : k < l.length) (hc : Fine (l.take k)) (h1 : Ok (l.getD k zsp)) (h2 : k = 0 ∨ (l.getD (k - 1) zsp).t + 2 ≤ (l.getD k zsp).f) : Fine (l.take (k + 1)) := by
  rw [take_snoc l k h]
  refine fine_append hc h1 (fun a ha b hb => ?_)
  simp only [List.mem_singleton] at hb
  subst hb
  rcases h2 with rfl | h2
  · simp at ha
  · have h3 := fine_most hc a ha
    have hk : 0 < k := by
      cases k with
      | zero => simp at ha
      | succ k => omega
    rw [List.length_take, Nat.min_eq_left (by omega)] at h3
    have e : (l.take k).getD (k - 1) zsp = l.getD (k - 1) zsp := by
      simp [List.getD, show k - 1 < k by omega]
    rw [e] at h3
    omega
theorem many_snoc (l : List Sp) (x : Sp) : many (l ++ [x]) = many l + (x.t - x.f + 1) := by
  induction l with
  | nil => simp [many]
  | cons y l ih => simp only [List.cons_append, many, ih]; omega
theorem inB_snoc (l : List Sp) (x : Sp) (n : Nat) : inB (l ++ [x]) n = (inB l n || decide (x.f ≤ n ∧ n ≤ x.t)) := by
  induction l with
  | nil => simp [inB]
  | cons y l ih => simp only [List.cons_append, inB, ih, Bool.or_assoc]
theorem many_le {l : List Sp} : many l ≤ 4294967296 * l.length := by
  induction l with
  | nil => simp [many]
  | cons y l ih => have := y.ht; simp only [many, List.length_cons]; omega
theorem gat_snoc : ∀ (l : List Sp) (x y : Sp), gat (l ++ [y]) x = if (gat l x).f ≤ y.t + 1 ∧ y.f ≤ (gat l x).t + 1 then mrg y (gat l x) else gat l x
  | [], _, _ => rfl
  | z :: l, x, y => by
    rw [List.cons_append]
    show (if x.f ≤ z.t + 1 ∧ z.f ≤ x.t + 1 then gat (l ++ [y]) (mrg z x) else gat (l ++ [y]) x) = _
    by_cases h : x.f ≤ z.t + 1 ∧ z.f ≤ x.t + 1
    · rw [if_pos h, gat_snoc l (mrg z x) y]
      have e : gat (z :: l) x = gat l (mrg z x) := by
        show (if x.f ≤ z.t + 1 ∧ z.f ≤ x.t + 1 then gat l (mrg z x) else gat l x) = _
        rw [if_pos h]
      rw [e]
    · rw [if_neg h, gat_snoc l x y]
      have e : gat (z :: l) x = gat l x := by
        show (if x.f ≤ z.t + 1 ∧ z.f ≤ x.t + 1 then gat l (mrg z x) else gat l x) = _
        rw [if_neg h]
      rw [e]
theorem gat_ok : ∀ {l : List Sp} {x : Sp}, (∀ y ∈ l, Ok y) → Ok x → Ok (gat l x)
  | [], _, _, hx => hx
  | y :: l, x, h, hx => by
    unfold gat
    split
    · exact gat_ok (fun z hz => h z (by simp [hz])) (mrg_ok hx (h y (by simp)))
    · exact gat_ok (fun z hz => h z (by simp [hz])) hx
theorem del_snoc (l : List Sp) (y x : Sp) : del (l ++ [y]) x = del l x ++ rem y x := by
  induction l with
  | nil => simp [del]
  | cons z l ih => simp only [List.cons_append, del, ih, List.append_assoc]
theorem both_snoc : ∀ (b a : List Sp) (x : Sp), both a (b ++ [x]) = ins (both a b) x
  | [], _, _ => rfl
  | y :: b, a, x => both_snoc b (ins a y) x
theorem left_snoc : ∀ (b a : List Sp) (x : Sp), left a (b ++ [x]) = del (left a b) x
  | [], _, _ => rfl
  | y :: b, a, x => left_snoc b (del a y) x
theorem both_len : ∀ (b a : List Sp), (both a b).length ≤ a.length + b.length
  | [], _ => by simp [both]
  | x :: b, a => by have h1 := both_len b (ins a x); have h2 := ins_len a x; simp only [both, List.length_cons]; omega
theorem del_len1 : ∀ {l : List Sp} {x : Sp}, Fine l → Ok x → (del l x).length ≤ l.length + 1
  | [], _, _, _ => by simp [del]
  | y :: l, x, h, hx => by
    unfold del
    rw [List.length_append, List.length_cons]
    have h1 := del_len1 h.tail hx
    have h2 := rem_len y x
    by_cases g : x.t < y.t
    · -- what is behind is untouched
      have e : del l x = l := by
        have : ∀ {m : List Sp}, (∀ z ∈ m, x.t < z.f) → del m x = m := by
          intro m
          induction m with
          | nil => intro _; rfl
          | cons z m ih =>
            intro hm
            have hz := hm z (by simp)
            have e1 : rem z x = [z] := by unfold rem; rw [if_pos (.inr hz)]
            show rem z x ++ del m x = z :: m
            rw [e1, ih (fun u hu => hm u (by simp [hu]))]
            rfl
        exact this (fun z hz => by have := h.far z hz; omega)
      rw [e]
      omega
    · have h3 : (rem y x).length ≤ 1 := by
        unfold rem
        split
        · simp
        · split <;> simp
      omega
theorem left_len : ∀ {b a : List Sp}, Fine a → (∀ x ∈ b, Ok x) → (left a b).length ≤ a.length + b.length
  | [], _, _, _ => by simp [left]
  | x :: b, a, h, hb => by
    have hx := hb x (by simp)
    have h1 := left_len (b := b) (del_fine h hx) (fun y hy => hb y (by simp [hy]))
    have h2 := del_len1 h hx
    simp only [left, List.length_cons]
    omega
end Go.Proofs.Ytmgdbgloacbacaa.Spans

/- Clocks as lists of a replica and its spans, in Lean alone: one way of writing, joins, what is left, how many, up to when. -/
namespace Go.Proofs.Ytmgdbgloacbacaa.Clocks
open Go.Proofs.Ytmgdbgloacbacaa.Spans

/-- A replica and its spans. -/
abbrev Tm := Nat × List Sp

/-- Replicas from lo on, ascending, each with spans that may be. -/
def Up : Nat → List Tm → Prop
  | _, [] => True
  | lo, x :: c => lo ≤ x.1 ∧ x.1 < 8 ∧ x.2 ≠ [] ∧ mayB x.2 = true ∧ Up (x.1 + 1) c
/-- May the clock be? -/
def Cok (c : List Tm) : Prop := Up 0 c
/-- A replica's spans. -/
def spn : List Tm → Nat → List Sp
  | [], _ => []
  | x :: c, r => if x.1 = r then x.2 else spn c r
theorem may_nil : mayB [] = true := rfl

theorem up_mono {c : List Tm} {lo lo' : Nat} (h : Up lo c) (hl : lo' ≤ lo) : Up lo' c := by
  cases c with
  | nil => trivial
  | cons x c => exact ⟨Nat.le_trans hl h.1, h.2⟩
theorem spn_low : ∀ {c : List Tm} {lo r : Nat}, Up lo c → r < lo → spn c r = []
  | [], _, _, _, _ => rfl
  | x :: c, lo, r, h, hr => by
    unfold spn
    rw [if_neg (by have := h.1; omega)]
    exact spn_low h.2.2.2.2 (by have := h.1; omega)
theorem spn_high : ∀ {c : List Tm} {lo r : Nat}, Up lo c → 8 ≤ r → spn c r = []
  | [], _, _, _, _ => rfl
  | x :: c, lo, r, h, hr => by
    unfold spn
    rw [if_neg (by have := h.2.1; omega)]
    exact spn_high h.2.2.2.2 hr
theorem spn_may : ∀ {c : List Tm} {lo : Nat}, Up lo c → ∀ r, mayB (spn c r) = true
  | [], _, _, _ => rfl
  | x :: c, lo, h, r => by
    unfold spn
    split
    · exact h.2.2.2.1
    · exact spn_may h.2.2.2.2 r
/-- A clock is written in one way alone. -/
theorem up_ext : ∀ {c d : List Tm} {lo : Nat}, Up lo c → Up lo d → (∀ r, spn c r = spn d r) → c = d
  | [], [], _, _, _, _ => rfl
  | [], y :: d, _, _, hd, h => by
    have := h y.1
    unfold spn at this
    rw [if_pos rfl] at this
    exact absurd this.symm hd.2.2.1
  | x :: c, [], _, hc, _, h => by
    have := h x.1
    unfold spn at this
    rw [if_pos rfl] at this
    exact absurd this hc.2.2.1
  | x :: c, y :: d, lo, hc, hd, h => by
    have hx : spn (x :: c) x.1 = x.2 := by unfold spn; rw [if_pos rfl]
    have hy : spn (y :: d) y.1 = y.2 := by unfold spn; rw [if_pos rfl]
    have e1 : x.1 = y.1 := by
      rcases Nat.lt_trichotomy x.1 y.1 with q | q | q
      · have : spn (y :: d) x.1 = [] := spn_low (lo := y.1) ⟨Nat.le_refl _, hd.2⟩ q
        rw [← h, hx] at this
        exact absurd this hc.2.2.1
      · exact q
      · have : spn (x :: c) y.1 = [] := spn_low (lo := x.1) ⟨Nat.le_refl _, hc.2⟩ q
        rw [h, hy] at this
        exact absurd this hd.2.2.1
    have e2 : x.2 = y.2 := by rw [← hx, ← hy, h, e1]
    have e3 : c = d := by
      refine up_ext (lo := x.1 + 1) hc.2.2.2.2 (by rw [e1]; exact hd.2.2.2.2) fun r => ?_
      by_cases q : x.1 = r
      · rw [spn_low hc.2.2.2.2 (by omega), spn_low hd.2.2.2.2 (by omega)]
      · have := h r
        unfold spn at this
        rwa [if_neg q, if_neg (by omega)] at this
    rw [e3, Prod.ext e1 e2]

/-- The clock of k replicas' spans, from lo on. -/
def clkFrom (g : Nat → List Sp) : Nat → Nat → List Tm
  | _, 0 => []
  | lo, k + 1 => if g lo = [] then clkFrom g (lo + 1) k else (lo, g lo) :: clkFrom g (lo + 1) k
def clk (g : Nat → List Sp) : List Tm := clkFrom g 0 8
theorem clkFrom_up {g : Nat → List Sp} (hg : ∀ r, mayB (g r) = true) : ∀ (k lo : Nat), lo + k ≤ 8 → Up lo (clkFrom g lo k)
  | 0, _, _ => trivial
  | k + 1, lo, h => by
    unfold clkFrom
    split
    · exact up_mono (clkFrom_up hg k (lo + 1) (by omega)) (Nat.le_succ _)
    · rename_i q
      exact ⟨Nat.le_refl _, by show lo < 8; omega, q, hg lo, clkFrom_up hg k (lo + 1) (by omega)⟩
theorem spn_clkFrom (g : Nat → List Sp) : ∀ (k lo r : Nat), spn (clkFrom g lo k) r = if lo ≤ r ∧ r < lo + k then g r else []
  | 0, lo, r => by rw [if_neg (by omega)]; rfl
  | k + 1, lo, r => by
    have ih := spn_clkFrom g k (lo + 1) r
    unfold clkFrom
    by_cases q : g lo = []
    · rw [if_pos q, ih]
      by_cases e : r = lo
      · subst e
        rw [if_neg (by omega), if_pos (by omega), q]
      · by_cases e2 : lo + 1 ≤ r ∧ r < lo + 1 + k
        · rw [if_pos e2, if_pos (by omega)]
        · rw [if_neg e2, if_neg (by omega)]
    · rw [if_neg q]
      unfold spn
      by_cases e : lo = r
      · subst e
        rw [if_pos rfl, if_pos (by omega)]
      · rw [if_neg e, ih]
        by_cases e2 : lo + 1 ≤ r ∧ r < lo + 1 + k
        · rw [if_pos e2, if_pos (by omega)]
        · rw [if_neg e2, if_neg (by omega)]
theorem clk_ok {g : Nat → List Sp} (hg : ∀ r, mayB (g r) = true) : Cok (clk g) := clkFrom_up hg 8 0 (by omega)
theorem spn_clk (g : Nat → List Sp) (r : Nat) : spn (clk g) r = if r < 8 then g r else [] := by
  unfold clk
  rw [spn_clkFrom]
  by_cases h : r < 8
  · rw [if_pos (by omega), if_pos h]
  · rw [if_neg (by omega), if_neg h]
theorem clk_spn {c : List Tm} (h : Cok c) : clk (spn c) = c := by
  refine up_ext (clk_ok (spn_may h)) h fun r => ?_
  rw [spn_clk]
  split
  · rfl
  · exact (spn_high h (by omega)).symm
theorem clk_congr {g k : Nat → List Sp} (h : ∀ r, r < 8 → g r = k r) : clk g = clk k := by
  have go : ∀ (n lo : Nat), lo + n ≤ 8 → clkFrom g lo n = clkFrom k lo n := by
    intro n
    induction n with
    | zero => intro lo _; rfl
    | succ n ih =>
      intro lo hl
      unfold clkFrom
      rw [h lo (by omega), ih (lo + 1) (by omega)]
  exact go 8 0 (by omega)

/-- How many stamps. -/
def manyC : List Tm → Nat
  | [] => 0
  | x :: c => many x.2 + manyC c
def sumFrom (g : Nat → List Sp) : Nat → Nat → Nat
  | _, 0 => 0
  | lo, k + 1 => many (g lo) + sumFrom g (lo + 1) k
theorem manyC_clkFrom (g : Nat → List Sp) : ∀ (k lo : Nat), manyC (clkFrom g lo k) = sumFrom g lo k
  | 0, _ => rfl
  | k + 1, lo => by
    unfold clkFrom sumFrom
    by_cases q : g lo = []
    · rw [if_pos q, manyC_clkFrom g k, q]; show _ = 0 + _; omega
    · rw [if_neg q]; show many (g lo) + manyC _ = _; rw [manyC_clkFrom g k]
theorem sumFrom_add {g p q : Nat → List Sp} (h : ∀ r, many (g r) = many (p r) + many (q r)) : ∀ (k lo : Nat), sumFrom g lo k = sumFrom p lo k + sumFrom q lo k
  | 0, _ => rfl
  | k + 1, lo => by
    unfold sumFrom
    rw [h, sumFrom_add h k]; omega
theorem manyC_add {g p q : Nat → List Sp} (h : ∀ r, many (g r) = many (p r) + many (q r)) : manyC (clk g) = manyC (clk p) + manyC (clk q) := by
  unfold clk
  rw [manyC_clkFrom, manyC_clkFrom, manyC_clkFrom]
  exact sumFrom_add h 8 0

/-- The greatest time of spans, and of a clock. -/
def top : List Sp → Nat
  | [] => 0
  | x :: l => max x.t (top l)
def topC : List Tm → Nat
  | [] => 0
  | x :: c => max (top x.2) (topC c)
theorem top_in : ∀ {l : List Sp}, (∀ x ∈ l, Ok x) → (∀ n, In l n → n ≤ top l) ∧ (l = [] ∨ In l (top l))
  | [], _ => ⟨fun n h => absurd h (in_nil n), .inl rfl⟩
  | x :: l, h => by
    obtain ⟨h1, h2⟩ := top_in (l := l) fun y hy => h y (List.mem_cons_of_mem _ hy)
    have hx := h x (by simp)
    refine ⟨fun n hn => ?_, .inr ?_⟩
    · rw [in_cons] at hn
      unfold top
      rcases hn with hn | hn
      · omega
      · have := h1 n hn; omega
    · rw [in_cons]
      unfold top
      by_cases q : top l ≤ x.t
      · left; have := hx.2.1; omega
      · right
        rw [show max x.t (top l) = top l by omega]
        rcases h2 with rfl | h2
        · exact absurd (show top [] ≤ x.t from Nat.zero_le _) q
        · exact h2
/-- Spans that hold what two others hold have the greater one's top. -/
theorem top_join {l m j : List Sp} (h1 : ∀ x ∈ l, Ok x) (h2 : ∀ x ∈ m, Ok x) (h3 : ∀ x ∈ j, Ok x) (hj : ∀ n, In j n ↔ In l n ∨ In m n) : top j = max (top l) (top m) := by
  obtain ⟨l1, l2⟩ := top_in h1
  obtain ⟨m1, m2⟩ := top_in h2
  obtain ⟨j1, j2⟩ := top_in h3
  have a : top j ≤ max (top l) (top m) := by
    rcases j2 with rfl | q
    · exact Nat.zero_le _
    · rcases (hj _).1 q with q | q
      · have := l1 _ q; omega
      · have := m1 _ q; omega
  have b : top l ≤ top j := by
    rcases l2 with rfl | q
    · exact Nat.zero_le _
    · exact j1 _ ((hj _).2 (.inl q))
  have c : top m ≤ top j := by
    rcases m2 with rfl | q
    · exact Nat.zero_le _
    · exact j1 _ ((hj _).2 (.inr q))
  omega
def topFrom (g : Nat → List Sp) : Nat → Nat → Nat
  | _, 0 => 0
  | lo, k + 1 => max (top (g lo)) (topFrom g (lo + 1) k)
theorem topC_clkFrom (g : Nat → List Sp) : ∀ (k lo : Nat), topC (clkFrom g lo k) = topFrom g lo k
  | 0, _ => rfl
  | k + 1, lo => by
    unfold clkFrom topFrom
    by_cases q : g lo = []
    · rw [if_pos q, topC_clkFrom g k, q]; show _ = max 0 _; omega
    · rw [if_neg q]; show max (top (g lo)) (topC _) = _; rw [topC_clkFrom g k]
theorem topC_max {g p q : Nat → List Sp} (h : ∀ r, top (g r) = max (top (p r)) (top (q r))) : topC (clk g) = max (topC (clk p)) (topC (clk q)) := by
  unfold clk
  rw [topC_clkFrom, topC_clkFrom, topC_clkFrom]
  have go : ∀ (k lo : Nat), topFrom g lo k = max (topFrom p lo k) (topFrom q lo k) := by
    intro k
    induction k with
    | zero => intro lo; rfl
    | succ k ih => intro lo; unfold topFrom; rw [h, ih]; omega
  exact go 8 0
end Go.Proofs.Ytmgdbgloacbacaa.Clocks

/- Slices of elements of any width: what a slice value holds, cell by cell; append onto a row of the call's own. Conditions: none. -/
namespace Go.Proofs.Ytmgdbgloacbacaa
open Go.RowKit Go.WideShapes

/-- In the world w the slice value v has n elements of sz cells each, and these are cs. -/
def Sees (w : World) (v : Value) (sz n : Nat) (cs : List Value) : Prop :=
  cs.length = n * sz ∧ ∃ ao cap, v = .slice ao n cap ∧ n ≤ cap ∧ cap ≤ 9223372036854775807 ∧ (ao = none → cap = 0) ∧
    (cs = [] ∨ ∃ b off, ao = some ⟨b, off, none⟩ ∧ b < w.heap.size ∧ ∀ j u, cs[j]? = some u → w.cell? ⟨b, off + j, none⟩ = some u)

theorem Sees.nil (w : World) (sz : Nat) : Sees w (.slice none 0 0) sz 0 [] := ⟨by simp, none, 0, rfl, by simp, by simp, fun _ => rfl, .inl rfl⟩
theorem Sees.shape {w : World} {v : Value} {sz n : Nat} {cs : List Value} (h : Sees w v sz n cs) : ∃ ao cap, v = .slice ao n cap := by
  obtain ⟨_, ao, cap, h, _⟩ := h; exact ⟨ao, cap, h⟩
theorem Sees.cap {w : World} {ao : Option Addr} {m n cap sz : Nat} {cs : List Value} (h : Sees w (.slice ao m cap) sz n cs) : m = n ∧ n ≤ cap ∧ cap ≤ 9223372036854775807 ∧ (ao = none → cap = 0) := by
  obtain ⟨_, ao', cap', he, h2, h3, h4, _⟩ := h
  obtain ⟨rfl, rfl, rfl⟩ := Value.slice.inj he
  exact ⟨rfl, h2, h3, h4⟩
theorem Sees.len {w : World} {v : Value} {sz n : Nat} {cs : List Value} (h : Sees w v sz n cs) : cs.length = n * sz := h.1
theorem Sees.max {w : World} {v : Value} {sz n : Nat} {cs : List Value} (h : Sees w v sz n cs) : n ≤ 9223372036854775807 := by
  obtain ⟨_, ao', cap', _, h2, h3, _⟩ := h; omega

/-- What lies below a number of blocks stays as it was, where these blocks stay. -/
theorem Sees.stays {w w' : World} {v : Value} {sz n : Nat} {cs : List Value} (h : Sees w v sz n cs) (hs : w.heap.size ≤ w'.heap.size)
    (hc : ∀ b o, b < w.heap.size → v.ownBlock = some b → w'.cell? ⟨b, o, none⟩ = w.cell? ⟨b, o, none⟩) : Sees w' v sz n cs := by
  obtain ⟨h1, ao, cap, rfl, h2, h3, h4, h5⟩ := h
  refine ⟨h1, ao, cap, rfl, h2, h3, h4, ?_⟩
  rcases h5 with h5 | ⟨b, off, rfl, hlt, h5⟩
  · exact .inl h5
  · exact .inr ⟨b, off, rfl, by omega, fun j u hj => (hc b _ hlt rfl).trans (h5 j u hj)⟩
theorem Sees.keeps {w w' : World} {v : Value} {sz n : Nat} {cs : List Value} (h : Sees w v sz n cs) (hb : Below w.heap.size w w') : Sees w' v sz n cs :=
  h.stays hb.size fun b o hlt _ => hb.cell (p := ⟨b, o, none⟩) hlt
theorem Sees.grown {w w' : World} {v : Value} {sz n : Nat} {cs : List Value} (h : Sees w v sz n cs) {row : Option Nat} (hg : w.grownBy w' row) (hne : v.ownBlock = none ∨ v.ownBlock ≠ row) (hs : w.heap.size ≤ w'.heap.size) : Sees w' v sz n cs :=
  h.stays hs fun b o hlt hv => World.cell?_of_block (hg.block b hlt (fun e => by rcases hne with h0 | h0; rw [h0] at hv; cases hv; exact h0 (hv.trans e)))
theorem Sees.drew {w : World} {v : Value} {sz n : Nat} {cs : List Value} (h : Sees w v sz n cs) (k : Nat) : Sees (w.drewN k) v sz n cs := h

/-- The cell of an element. -/
theorem Sees.at {w : World} {ao : Option Addr} {m cap sz n : Nat} {cs : List Value} (h : Sees w (.slice ao m cap) sz n cs) (j : Nat) (hj : j < cs.length) :
    ∃ b off, ao = some ⟨b, off, none⟩ ∧ b < w.heap.size ∧ ∀ i, i < cs.length → w.cell? ⟨b, off + i, none⟩ = cs[i]? := by
  obtain ⟨_, ao', cap', he, _, _, _, h5⟩ := h
  obtain ⟨rfl, -, rfl⟩ := Value.slice.inj he
  rcases h5 with hx | ⟨b, off, rfl, hb, hc⟩
  · subst hx; simp at hj
  · exact ⟨b, off, rfl, hb, fun i hi => (hc i _ (List.getElem?_eq_getElem hi)).trans (List.getElem?_eq_getElem hi).symm⟩
theorem Sees.cells {w : World} {a : Addr} {m cap sz n : Nat} {cs : List Value} (h : Sees w (.slice (some a) m cap) sz n cs) : ∀ (j : Nat) (u : Value), cs[j]? = some u → w.cell? (a.add j) = some u := by
  intro j u hj
  have hlt : j < cs.length := (List.getElem?_eq_some_iff.1 hj).1
  obtain ⟨b, off, h1, _, hc⟩ := h.at j hlt
  cases h1
  rw [add_plain, hc j hlt, hj]

/-- A row of the call's own. -/
theorem Sees.own {w : World} {base : Nat} {e : TypeId} {v : Value} {sz n : Nat} {cs : List Value} (h : w.ownsRow base e sz v n cs) : Sees w v sz n cs := by
  have hk := h
  obtain ⟨hl, hcase⟩ := h
  rcases hcase with ⟨rfl, rfl⟩ | ⟨g, cap, cur, rfl, hg, hh, hn, hcap, hsz, htake⟩
  · obtain rfl : cs = [] := List.length_eq_zero_iff.1 (by omega)
    exact Sees.nil w sz
  · unfold maxLen at hcap
    refine ⟨hl, some ⟨g, 0, none⟩, cap, rfl, hn, hcap, by simp, .inr ⟨g, 0, rfl, (Array.getElem?_eq_some_iff.1 hh).1, fun j u hj => ?_⟩⟩
    have hlt : j < cs.length := (List.getElem?_eq_some_iff.1 hj).1
    rw [Nat.zero_add, hk.cellAt j (by omega), hj]
/-- A new row. -/
theorem sees_new (w : World) (cs : List Value) (sz n : Nat) (h : cs.length = n * sz) (hn : n ≤ 1000000) (e : TypeId) (fr : Nat × Nat) : Sees (w.alloc (.cells cs.toArray e fr)) (.slice (some ⟨w.heap.size, 0, none⟩) n n) sz n cs := by
  refine ⟨h, _, _, rfl, Nat.le_refl _, by omega, by simp, .inr ⟨w.heap.size, 0, rfl, by simp, fun j u hj => ?_⟩⟩
  rw [cell_of_row _ w.heap.size (0 + j) cs.toArray e fr (heap_alloc_new w _), Nat.zero_add, List.getElem?_toArray]
  exact hj
/-- Nothing of the call's own yet. -/
theorem own_none (w : World) (base : Nat) (hb : base ≤ w.heap.size) (e : TypeId) (sz : Nat) : (w.alloc (.cells #[] e)).ownsRow base e sz (.slice (some ⟨w.heap.size, 0, none⟩) 0 0) 0 [] :=
  World.ownsRow_made w #[] 0 hb (by decide) (by simp)
/-- Two rows of one owner in one world: the cells of blocks of other kinds are no row's. -/
theorem own_ne {w : World} {base : Nat} {e : TypeId} {v : Value} {sz n : Nat} {cs : List Value} (h : w.ownsRow base e sz v n cs) {k : Nat} {o : Obj} (hk : w.heap[k]? = some o) (ho : ∀ c, o ≠ .cells c e (0, 0)) : v.ownBlock ≠ some k := by
  rcases h.2 with ⟨rfl, _⟩ | ⟨g, cap, cur, rfl, _, hg, _⟩
  · simp [Value.ownBlock]
  · intro hv
    simp only [Value.ownBlock, Option.some.injEq] at hv
    subst hv
    rw [hg] at hk
    exact ho _ (Option.some.inj hk).symm
/-- A row of the call's own behind another call that writes nothing that was there. -/
theorem own_stays {w w' : World} {base : Nat} {e : TypeId} {v : Value} {sz n : Nat} {cs : List Value} (h : w.ownsRow base e sz v n cs) (hb : Below w.heap.size w w') : w'.ownsRow base e sz v n cs := by
  refine ⟨h.1, ?_⟩
  rcases h.2 with h0 | ⟨g, cap, cur, rfl, h1, hg, h2⟩
  · exact .inl h0
  · exact .inr ⟨g, cap, cur, rfl, h1, (hb.block g (Array.getElem?_eq_some_iff.1 hg).1).trans hg, h2⟩
theorem below_draw {B : Nat} {a w : World} (h : Below B a w) (n : Nat) : Below B a (w.drewN n) := h.trans ⟨rfl, rfl, rfl, Nat.le_refl _, fun _ _ => rfl⟩
theorem grown_size {w w' : World} {row : Option Nat} (h : w.grownBy w' row) : w.heap.size ≤ w'.heap.size := h.size

theorem wpList_append_sees {w : World} {ops : Array Oper} {rest : List Oper} {o : Oper} {a : Act} {Q : Exit → Act → World → Prop} (hgd : o.guard = none) (s x : Operand) (t e : TypeId)
    (ho : o.op = .call { callee := .builtin .append, args := #[s, x], argTypes := #[t, t] }) (ht : Try.prog.underlying t = some (.slice e))
    {z : Value} {sz bytes : Nat} (hi : (Try.prog.info? e).map (fun i => (i.zero, i.size, i.bytes)) = some (some z, sz, bytes)) (hzs : z.cells.size = sz) (hsz : 0 < sz)
    (base : Nat) (v : Value) (n : Nat) (L : List Value) (hs : a.eval s = v) (hown : w.ownsRow base e sz v n L)
    (u : Value) (m : Nat) (xs : List Value) (hx : a.eval x = u) (hr : Sees w u sz m xs) (h1 : ∀ u ∈ xs, u.oneCell' = true) (h47 : (n + m) * bytes ≤ 140737488355328) (h63 : n + m ≤ 140737488355328) (hbase : base ≤ w.heap.size)
    (h : ∀ v' w', w'.ownsRow base e sz v' (n + m) (L ++ xs) → w.grownBy w' v.ownBlock → Below base w w' → wpList Try.prog ops Q rest (a.put o.dst v') w') : wpList Try.prog ops Q (o :: rest) a w := by
  obtain ⟨i0, hi, hz0, hz1, hz2⟩ := info_parts hi
  obtain ⟨ao, cap, rfl⟩ := hr.shape
  cases ao with
  | none =>
    obtain ⟨_, h2, _, h3⟩ := hr.cap
    have hc0 := h3 rfl
    subst hc0
    obtain rfl : m = 0 := by omega
    obtain rfl : xs = [] := List.length_eq_zero_iff.1 (by rw [hr.len]; omega)
    refine wpList_append_own_none hgd s x t ho base e i0 sz ht hi v n L hs hown hx (h v w ?_ (World.grownBy.refl w _) (Below.refl _ _))
    rw [List.append_nil]; exact hown
  | some a2 =>
    refine wpList_append_own _ hgd s x t ho base e i0 z sz bytes ht hi hz0 hz1 hz2 hzs hsz v n L hs hown a2 m cap xs hx hr.len hr.cells h1 (by unfold maxLen; omega) h47 hbase ?_
    intro v' w' h1 h2 _
    exact h v' w' h1 h2 ((Below.refl _ _).grown h2 hbase (fun j hj => (hown.lt j hj).1))

/-- The same at the operation, and at a step of a region that draws. -/
theorem wp_append_sees {w : World} {o : Oper} {a : Act} {K : Act → World → Prop} {Q : Exit → Act → World → Prop} (s x : Operand) (t e : TypeId)
    (ho : o.op = .call { callee := .builtin .append, args := #[s, x], argTypes := #[t, t] }) (ht : Try.prog.underlying t = some (.slice e))
    {z : Value} {sz bytes : Nat} (hi : (Try.prog.info? e).map (fun i => (i.zero, i.size, i.bytes)) = some (some z, sz, bytes)) (hzs : z.cells.size = sz) (hsz : 0 < sz)
    (base : Nat) (v : Value) (n : Nat) (L : List Value) (hs : a.eval s = v) (hown : w.ownsRow base e sz v n L)
    (u : Value) (m : Nat) (xs : List Value) (hx : a.eval x = u) (hr : Sees w u sz m xs) (h1 : ∀ u ∈ xs, u.oneCell' = true) (h47 : (n + m) * bytes ≤ 140737488355328) (h63 : n + m ≤ 140737488355328) (hbase : base ≤ w.heap.size)
    (h : ∀ v' w', w'.ownsRow base e sz v' (n + m) (L ++ xs) → w.grownBy w' v.ownBlock → Below base w w' → K (a.put o.dst v') w') : o.wp Try.prog a w K Q := by
  obtain ⟨i0, hi, hz0, hz1, hz2⟩ := info_parts hi
  obtain ⟨ao, cap, rfl⟩ := hr.shape
  cases ao with
  | none =>
    obtain ⟨_, h2, _, h3⟩ := hr.cap
    have hc0 := h3 rfl
    subst hc0
    obtain rfl : m = 0 := by omega
    obtain rfl : xs = [] := List.length_eq_zero_iff.1 (by rw [hr.len]; omega)
    have hrun := run_append_owned_none (P := Try.prog) (w := w) base t o.type e i0 sz ht hi v n L hown
    unfold Oper.wp
    simp only [execOp, ho, resolve, invoke, builtin, Sem.run_bind, Sem.run_pure, Result.andThen_ok, List.map_toArray, List.map_cons, List.map_nil, hs, hx, hrun]
    refine h v w ?_ (World.grownBy.refl w _) (Below.refl _ _)
    rw [List.append_nil]; exact hown
  | some a2 =>
    obtain ⟨v', w', hrun, h2, h3, _⟩ := run_append_own (P := Try.prog) w base t o.type e i0 z sz bytes ht hi hz0 hz1 hz2 hzs hsz v n L hown a2 m cap xs hr.len hr.cells h1 (by unfold maxLen; omega) h47 hbase
    unfold Oper.wp
    simp only [execOp, ho, resolve, invoke, builtin, Sem.run_bind, Sem.run_pure, Result.andThen_ok, List.map_toArray, List.map_cons, List.map_nil, hs, hx, hrun]
    exact h v' w' h2 h3 ((Below.refl _ _).grown h3 hbase (fun j hj => (hown.lt j hj).1))
theorem step_append_sees {w : World} {ops : Array Oper} {o : Oper} {a : Act} {K : Act → World → Prop} {Q : Exit → Act → World → Prop} {E : Prop} (hgd : o.guard = none) (s x : Operand) (t e : TypeId)
    (ho : o.op = .call { callee := .builtin .append, args := #[s, x], argTypes := #[t, t] }) (ht : Try.prog.underlying t = some (.slice e))
    {z : Value} {sz bytes : Nat} (hi : (Try.prog.info? e).map (fun i => (i.zero, i.size, i.bytes)) = some (some z, sz, bytes)) (hzs : z.cells.size = sz) (hsz : 0 < sz)
    (base : Nat) (v : Value) (n : Nat) (L : List Value) (hs : a.eval s = v) (hown : w.ownsRow base e sz v n L)
    (u : Value) (m : Nat) (xs : List Value) (hx : a.eval x = u) (hr : Sees w u sz m xs) (h1 : ∀ u ∈ xs, u.oneCell' = true) (h47 : (n + m) * bytes ≤ 140737488355328) (h63 : n + m ≤ 140737488355328) (hbase : base ≤ w.heap.size)
    (h : ∀ v' w', w'.ownsRow base e sz v' (n + m) (L ++ xs) → w.grownBy w' v.ownBlock → Below base w w' → K (a.put o.dst v') w') :
    if Region.wanted o (yielded ops a.tmps) = true then Oper.wp Try.prog o a w K Q else E := by
  have hw : Region.wanted o (yielded ops a.tmps) = true := by simp [Region.wanted, hgd]
  rw [if_pos hw]
  exact wp_append_sees s x t e ho ht hi hzs hsz base v n L hs hown u m xs hx hr h1 h47 h63 hbase h

/-! ### Slices of numbers -/

/-- Numbers as cells. -/
def is (l : List Int) : List Value := l.map fun x => .int .i64 x
theorem is_len (l : List Int) : (is l).length = l.length := by simp [is]
theorem is_append (l m : List Int) : is (l ++ m) = is l ++ is m := by simp [is]
theorem is_get (l : List Int) (j : Nat) (h : j < l.length) : (is l)[j]? = some (.int .i64 (l.getD j 0)) := by
  simp [is, List.getD, List.getElem?_eq_getElem h]
theorem is_oneCell (l : List Int) : ∀ u ∈ is l, u.oneCell' = true := by
  intro u hu
  simp only [is, List.mem_map] at hu
  obtain ⟨x, _, rfl⟩ := hu
  rfl
/-- A slice of numbers. -/
def Ints (w : World) (v : Value) (l : List Int) : Prop := Sees w v 1 l.length (is l)
theorem Ints.keeps {w w' : World} {v : Value} {l : List Int} (h : Ints w v l) (hb : Below w.heap.size w w') : Ints w' v l := Sees.keeps h hb
theorem Ints.nil (w : World) : Ints w (.slice none 0 0) [] := Sees.nil w 1
theorem Ints.shape {w : World} {v : Value} {l : List Int} (h : Ints w v l) : ∃ ao cap, v = .slice ao l.length cap := Sees.shape h
theorem Ints.at {w : World} {ao : Option Addr} {m cap : Nat} {l : List Int} (h : Ints w (.slice ao m cap) l) (k : Nat) (hk : k < l.length) :
    ∃ b off, ao = some ⟨b, off, none⟩ ∧ b < w.heap.size ∧ w.cell? ⟨b, off + k, none⟩ = some (.int .i64 (l.getD k 0)) := by
  obtain ⟨b, off, h1, h2, h3⟩ := Sees.at h k (by rwa [is_len])
  exact ⟨b, off, h1, h2, (h3 k (by rwa [is_len])).trans (is_get l k hk)⟩
theorem Ints.own {w : World} {base : Nat} {e : TypeId} {v : Value} {n : Nat} {l : List Int} (h : w.ownsRow base e 1 v n (is l)) : Ints w v l := by
  have h1 := h.1
  rw [is_len, Nat.mul_one] at h1
  subst h1
  exact Sees.own h
end Go.Proofs.Ytmgdbgloacbacaa
