/- Stamps, and slices of them: what a slice value holds. Conditions: none. Blocks known whole, in whatever world behind: for regions that draw their order and make memory. Conditions: none. Spans of times, in plain words: which may be, their times, one way of writing, one put to them, one taken away, how many. Conditions: none. Spans, as Bools, and taken one by one. Conditions: none. Clocks as lists of a replica and its spans, in Lean alone: one way of writing, joins, what is left, how many, up to when. Clocks taken one by one, whether they may be, as a Bool; the clock of stamps, and the stamps of a clock. Conditions: none. What clocks' calls answer, as plain functions; what follows. Conditions: none. Bags in plain words: which may be, one more in its place, two together, without stamps. Conditions: none. Slices of spans: what a slice value holds. Conditions: none. Slices of a replica and i -/
import Derived.Test.YtgjbnbojjgbmcaaGreatChecked
import Derived.WalkKit
import Derived.WalkSpells
import Derived.WalkLawsBesides
import Derived.Laws.BytesArg
import Derived.Lib.Hide
import Derived.Deep.LoopGhost
import Derived.Laws.AppendOwnNone
import Derived.Laws.OwnMore
import Derived.WideShapes
import Derived.Maps.AppendAt
import Derived.RowKit
import Derived.RegionTactic
import Derived.Deep.RegionHeld3
import Derived.Deep.DrawnRows
import Derived.Deep.QuietTactic
import Derived.BigQuiet
import Derived.IntWalk
import Derived.Deep.DeepCutAuto
import Derived.ScopeJumps
import Derived.Test.YtgjbnbojjgbmcaaGreatProg
import Derived.LoopTactic
import Derived.Laws.EntriesVeiled
import Derived.Lib.DecodeN
import Derived.Lib.RuneBytes
import Derived.Test.YtgjbnbojjgbmcaaGreatPk01
import Derived.Test.YtgjbnbojjgbmcaaGreatPk15
import Derived.Test.YtgjbnbojjgbmcaaGreatPk16
import Derived.Test.YtgjbnbojjgbmcaaGreatPk20
import Derived.Test.YtgjbnbojjgbmcaaGreatPk04
import Derived.Test.YtgjbnbojjgbmcaaGreatPk03
import Derived.Test.YtgjbnbojjgbmcaaGreatPk02
import Derived.Test.YtgjbnbojjgbmcaaGreatPk14
import Derived.Test.YtgjbnbojjgbmcaaGreatPk05
import Derived.Test.YtgjbnbojjgbmcaaGreatPk06

namespace Go.Proofs.YtgjbnbojjgbmcaaGreat
open Go.RowKit Go.WideShapes
theorem Ids.shape {w : World} {v : Value} {l : List Id} (h : Ids w v l) : ∃ ao cap, v = .slice ao l.length cap := Sees.shape h
end Go.Proofs.YtgjbnbojjgbmcaaGreat

namespace Go.Proofs.YtgjbnbojjgbmcaaGreat
open Go.RowKit Go.WideShapes
/-- Append at a step of a region that draws: and where the new row lies. -/
theorem step_append_at {w : World} {ops : Array Oper} {o : Oper} {a : Act} {K : Act → World → Prop} {Q : Exit → Act → World → Prop} {E : Prop} (hgd : o.guard = none) (s x : Operand) (t e : TypeId)
    (ho : o.op = .call { callee := .builtin .append, args := #[s, x], argTypes := #[t, t] }) (ht : Tryz.prog.underlying t = some (.slice e))
    {z : Value} {sz bytes : Nat} (hi : (Tryz.prog.info? e).map (fun i => (i.zero, i.size, i.bytes)) = some (some z, sz, bytes)) (hzs : z.cells.size = sz) (hsz : 0 < sz)
    (base : Nat) (v : Value) (n : Nat) (L : List Value) (hs : a.eval s = v) (hown : w.ownsRow base e sz v n L)
    (u : Value) (m : Nat) (xs : List Value) (hx : a.eval x = u) (hr : Sees w u sz m xs) (h1 : ∀ u ∈ xs, u.oneCell' = true) (h47 : (n + m) * bytes ≤ 140737488355328) (h63 : n + m ≤ 140737488355328) (hbase : base ≤ w.heap.size)
    (h : ∀ v' w', w'.ownsRow base e sz v' (n + m) (L ++ xs) → w.grownBy w' v.ownBlock → Below base w w' → (v'.ownBlock = v.ownBlock ∨ v'.ownBlock = some w.heap.size) → K (a.put o.dst v') w') :
    if Region.wanted o (yielded ops a.tmps) = true then Oper.wp Tryz.prog o a w K Q else E := by
  have hw : Region.wanted o (yielded ops a.tmps) = true := by simp [Region.wanted, hgd]
  rw [if_pos hw]
  obtain ⟨i0, hi, hz0, hz1, hz2⟩ := info_parts hi
  obtain ⟨ao, cap, rfl⟩ := hr.shape
  cases ao with
  | none =>
    obtain ⟨_, h2, _, h3⟩ := hr.cap
    have hc0 := h3 rfl
    subst hc0
    obtain rfl : m = 0 := by omega
    obtain rfl : xs = [] := List.length_eq_zero_iff.1 (by rw [hr.len]; omega)
    have hrun := run_append_owned_none (P := Tryz.prog) (w := w) base t o.type e i0 sz ht hi v n L hown
    unfold Oper.wp
    simp only [execOp, ho, resolve, invoke, builtin, Sem.run_bind, Sem.run_pure, Result.andThen_ok, List.map_toArray, List.map_cons, List.map_nil, hs, hx, hrun]
    refine h v w ?_ (World.grownBy.refl w _) (Below.refl _ _) (.inl rfl)
    rw [List.append_nil]; exact hown
  | some a2 =>
    obtain ⟨v', w', hrun, h2, h3, _, h5⟩ := run_append_own_at (P := Tryz.prog) w base t o.type e i0 z sz bytes ht hi hz0 hz1 hz2 hzs hsz v n L hown a2 m cap xs hr.len hr.cells h1 (by unfold maxLen; omega) h47 hbase
    unfold Oper.wp
    simp only [execOp, ho, resolve, invoke, builtin, Sem.run_bind, Sem.run_pure, Result.andThen_ok, List.map_toArray, List.map_cons, List.map_nil, hs, hx, hrun]
    exact h v' w' h2 h3 ((Below.refl _ _).grown h3 hbase (fun j hj => (hown.lt j hj).1)) h5
end Go.Proofs.YtgjbnbojjgbmcaaGreat

namespace Go.Proofs.YtgjbnbojjgbmcaaGreat.Spans
def zsp : Sp := ⟨0, 0, by decide, by decide⟩
/-- A span of two numbers, whatever they are. -/
def mk (f t : Nat) : Sp := ⟨f % 4294967296, t % 4294967296, Nat.mod_lt _ (by decide), Nat.mod_lt _ (by decide)⟩
theorem mk_f {f t : Nat} (h : f < 4294967296) : (mk f t).f = f := Nat.mod_eq_of_lt h
theorem mk_t {f t : Nat} (h : t < 4294967296) : (mk f t).t = t := Nat.mod_eq_of_lt h
/-- May spans be, but for how many? -/
def Fine : List Sp → Prop
  | [] => True
  | [x] => Ok x
  | x :: y :: l => Ok x ∧ x.t + 2 ≤ y.f ∧ Fine (y :: l)
theorem Fine.head {x : Sp} {l : List Sp} (h : Fine (x :: l)) : Ok x := by
  cases l with
  | nil => exact h
  | cons y l => exact h.1
theorem Fine.tail {x : Sp} {l : List Sp} (h : Fine (x :: l)) : Fine l := by
  cases l with
  | nil => trivial
  | cons y l => exact h.2.2
theorem Fine.all : ∀ {l : List Sp}, Fine l → ∀ x ∈ l, Ok x
  | [], _, x, hx => by simp at hx
  | y :: l, h, x, hx => by
    rw [List.mem_cons] at hx
    rcases hx with rfl | hx
    · exact h.head
    · exact Fine.all h.tail x hx
theorem Fine.far : ∀ {x : Sp} {l : List Sp}, Fine (x :: l) → ∀ y ∈ l, x.t + 2 ≤ y.f
  | _, [], _, y, hy => by simp at hy
  | x, z :: l, h, y, hy => by
    rw [List.mem_cons] at hy
    rcases hy with rfl | hy
    · exact h.2.1
    · have h1 := Fine.far h.2.2 y hy
      have h2 := h.2.1
      have h3 := h.2.2.head
      unfold Ok at h3
      omega
theorem Fine.cons {x : Sp} {l : List Sp} (hx : Ok x) (hl : Fine l) (h : ∀ y ∈ l, x.t + 2 ≤ y.f) : Fine (x :: l) := by
  cases l with
  | nil => exact hx
  | cons y l => exact ⟨hx, h y (by simp), hl⟩
theorem fine_append : ∀ {l m : List Sp}, Fine l → Fine m → (∀ a ∈ l, ∀ b ∈ m, a.t + 2 ≤ b.f) → Fine (l ++ m)
  | [], m, _, h, _ => h
  | x :: l, m, h1, h2, h => by
    rw [List.cons_append]
    refine Fine.cons h1.head (fine_append h1.tail h2 (fun a ha b hb => h a (by simp [ha]) b hb)) (fun y hy => ?_)
    rw [List.mem_append] at hy
    rcases hy with hy | hy
    · exact h1.far y hy
    · exact h x (by simp) y hy
theorem in_nil (n : Nat) : ¬ In [] n := by simp [In]
theorem in_cons {x : Sp} {l : List Sp} {n : Nat} : In (x :: l) n ↔ (x.f ≤ n ∧ n ≤ x.t) ∨ In l n := by simp [In]
theorem in_append {l m : List Sp} {n : Nat} : In (l ++ m) n ↔ In l n ∨ In m n := by
  induction l with
  | nil => simp [in_nil]
  | cons x l ih => rw [List.cons_append, in_cons, in_cons, ih]; constructor <;> (intro h; rcases h with h | h) <;> first | exact .inl (.inl h) | exact .inl h | (rcases h with h | h; exact .inl (.inr h); exact .inr h) | exact .inr (.inl h) | exact .inr (.inr h) | (rcases h with h | h; exact .inl h; exact .inr (.inl h)) | skip
theorem in_far {x : Sp} {l : List Sp} (h : Fine (x :: l)) {n : Nat} (hn : In l n) : x.t + 2 ≤ n := by
  obtain ⟨y, hy, h1, _⟩ := hn
  have := h.far y hy
  omega
/-- A set is written in one way alone. -/
theorem uniq : ∀ {l m : List Sp}, Fine l → Fine m → (∀ n, In l n ↔ In m n) → l = m
  | [], [], _, _, _ => rfl
  | [], y :: m, _, h2, h => by
    have h3 := h2.head
    unfold Ok at h3
    exact absurd ((h y.f).2 (in_cons.2 (.inl ⟨by omega, by omega⟩))) (in_nil _)
  | x :: l, [], h1, _, h => by
    have h3 := h1.head
    unfold Ok at h3
    exact absurd ((h x.f).1 (in_cons.2 (.inl ⟨by omega, by omega⟩))) (in_nil _)
  | x :: l, y :: m, h1, h2, h => by
    have hx := h1.head
    have hy := h2.head
    unfold Ok at hx hy
    have least : ∀ {x y : Sp} {l m : List Sp}, Fine (x :: l) → Fine (y :: m) → Ok x → (∀ n, In (x :: l) n → In (y :: m) n) → y.f ≤ x.f := by
      intro x y l m h1 h2 hx h
      have := h x.f (in_cons.2 (.inl ⟨Nat.le_refl _, hx.2.1⟩))
      rcases in_cons.1 this with h3 | h3
      · exact h3.1
      · have h4 := in_far h2 h3
        have h5 := h2.head
        unfold Ok at h5
        omega
    have most : ∀ {x y : Sp} {l m : List Sp}, Fine (x :: l) → Fine (y :: m) → x.f = y.f → (∀ n, In (y :: m) n → In (x :: l) n) → y.t ≤ x.t := by
      intro x y l m h1 h2 hf h
      have hx := h1.head
      have hy := h2.head
      unfold Ok at hx hy
      by_cases hlt : x.t < y.t
      · have := h (x.t + 1) (in_cons.2 (.inl ⟨by omega, by omega⟩))
        rcases in_cons.1 this with h3 | h3
        · omega
        · have h4 := in_far h1 h3
          omega
      · omega
    have hf : x.f = y.f := by
      have a := least h1 h2 h1.head (fun n => (h n).1)
      have b := least h2 h1 h2.head (fun n => (h n).2)
      omega
    have ht : x.t = y.t := by
      have a := most h1 h2 hf (fun n => (h n).2)
      have b := most h2 h1 hf.symm (fun n => (h n).1)
      omega
    have e : x = y := Sp.ext' hf ht
    subst e
    congr 1
    refine uniq h1.tail h2.tail (fun n => ?_)
    constructor
    · intro hn
      have h3 := in_far h1 hn
      rcases in_cons.1 ((h n).1 (in_cons.2 (.inr hn))) with h4 | h4
      · omega
      · exact h4
    · intro hn
      have h3 := in_far h2 hn
      rcases in_cons.1 ((h n).2 (in_cons.2 (.inr hn))) with h4 | h4
      · omega
      · exact h4
/-- Two spans that touch, as one. -/
def mrg (y x : Sp) : Sp := ⟨min x.f y.f, max x.t y.t, by have := x.hf; omega, by have := x.ht; have := y.ht; omega⟩
/-- One put to spans, in order. -/
def ins : List Sp → Sp → List Sp
  | [], x => [x]
  | y :: l, x => if y.t + 1 < x.f then y :: ins l x else if x.t + 1 < y.f then x :: y :: l else ins l (mrg y x)
theorem mrg_ok {x y : Sp} (hx : Ok x) (hy : Ok y) : Ok (mrg y x) := by
  unfold Ok mrg at *; simp only; omega
theorem in_mrg {x y : Sp} (h1 : ¬ y.t + 1 < x.f) (h2 : ¬ x.t + 1 < y.f) (n : Nat) : ((mrg y x).f ≤ n ∧ n ≤ (mrg y x).t) ↔ (y.f ≤ n ∧ n ≤ y.t) ∨ (x.f ≤ n ∧ n ≤ x.t) := by
  unfold mrg; simp only; omega
theorem in_ins : ∀ {l : List Sp} {x : Sp}, Fine l → Ok x → ∀ n, In (ins l x) n ↔ In l n ∨ (x.f ≤ n ∧ n ≤ x.t)
  | [], x, _, _, n => by
    simp only [ins, in_cons]
    have := in_nil n
    constructor
    · rintro (h | h)
      · exact .inr h
      · exact absurd h this
    · rintro (h | h)
      · exact absurd h this
      · exact .inl h
  | y :: l, x, h, hx, n => by
    unfold ins
    by_cases h1 : y.t + 1 < x.f
    · rw [if_pos h1, in_cons, in_cons, in_ins h.tail hx n]
      constructor
      · rintro (h2 | h2 | h2)
        · exact .inl (.inl h2)
        · exact .inl (.inr h2)
        · exact .inr h2
      · rintro ((h2 | h2) | h2)
        · exact .inl h2
        · exact .inr (.inl h2)
        · exact .inr (.inr h2)
    · rw [if_neg h1]
      by_cases h2 : x.t + 1 < y.f
      · rw [if_pos h2, in_cons]
        exact ⟨fun h => h.symm, fun h => h.symm⟩
      · rw [if_neg h2, in_ins h.tail (mrg_ok hx h.head) n, in_mrg h1 h2 n, in_cons]
        constructor
        · rintro (h3 | h3 | h3)
          · exact .inl (.inr h3)
          · exact .inl (.inl h3)
          · exact .inr h3
        · rintro ((h3 | h3) | h3)
          · exact .inr (.inl h3)
          · exact .inl h3
          · exact .inr (.inr h3)
theorem ins_low : ∀ {l : List Sp} {x : Sp} {b : Nat}, (∀ y ∈ l, b ≤ y.f) → b ≤ x.f → ∀ y ∈ ins l x, b ≤ y.f
  | [], x, b, _, h2, y, hy => by simp only [ins, List.mem_singleton] at hy; subst hy; exact h2
  | z :: l, x, b, h1, h2, y, hy => by
    unfold ins at hy
    by_cases g1 : z.t + 1 < x.f
    · rw [if_pos g1, List.mem_cons] at hy
      rcases hy with rfl | hy
      · exact h1 y (by simp)
      · exact ins_low (fun u hu => h1 u (by simp [hu])) h2 y hy
    · rw [if_neg g1] at hy
      by_cases g2 : x.t + 1 < z.f
      · rw [if_pos g2, List.mem_cons] at hy
        rcases hy with rfl | hy
        · exact h2
        · exact h1 y hy
      · rw [if_neg g2] at hy
        refine ins_low (fun u hu => h1 u (by simp [hu])) ?_ y hy
        have := h1 z (by simp)
        unfold mrg; simp only; omega
theorem ins_fine : ∀ {l : List Sp} {x : Sp}, Fine l → Ok x → Fine (ins l x)
  | [], _, _, hx => hx
  | y :: l, x, h, hx => by
    unfold ins
    by_cases h1 : y.t + 1 < x.f
    · rw [if_pos h1]
      exact Fine.cons h.head (ins_fine h.tail hx) (ins_low h.far (by omega))
    · rw [if_neg h1]
      by_cases h2 : x.t + 1 < y.f
      · rw [if_pos h2]
        exact ⟨hx, by omega, h⟩
      · rw [if_neg h2]
        exact ins_fine h.tail (mrg_ok hx h.head)
theorem ins_len : ∀ (l : List Sp) (x : Sp), (ins l x).length ≤ l.length + 1
  | [], _ => by simp [ins]
  | y :: l, x => by
    unfold ins
    by_cases h1 : y.t + 1 < x.f
    · rw [if_pos h1]; have := ins_len l x; simp; omega
    · rw [if_neg h1]
      by_cases h2 : x.t + 1 < y.f
      · rw [if_pos h2]; simp
      · rw [if_neg h2]; have := ins_len l (mrg y x); simp; omega
/-- What is left of one. -/
def rem (y x : Sp) : List Sp :=
  if y.t < x.f ∨ x.t < y.f then [y] else (if y.f < x.f then [mk y.f (x.f - 1)] else []) ++ (if x.t < y.t then [mk (x.t + 1) y.t] else [])
def del : List Sp → Sp → List Sp
  | [], _ => []
  | y :: l, x => rem y x ++ del l x
def both : List Sp → List Sp → List Sp
  | a, [] => a
  | a, x :: b => both (ins a x) b
def left : List Sp → List Sp → List Sp
  | a, [] => a
  | a, x :: b => left (del a x) b
theorem both_ok : ∀ {b a : List Sp}, Fine a → (∀ x ∈ b, Ok x) → Fine (both a b) ∧ ∀ n, In (both a b) n ↔ In a n ∨ In b n
  | [], a, h, _ => ⟨h, fun n => by simp [both, in_nil]⟩
  | x :: b, a, h, hb => by
    have hx := hb x (by simp)
    have ih := both_ok (b := b) (ins_fine h hx) (fun y hy => hb y (by simp [hy]))
    refine ⟨ih.1, fun n => ?_⟩
    show In (both (ins a x) b) n ↔ _
    rw [ih.2 n, in_ins h hx n, in_cons]
    constructor
    · rintro ((h1 | h1) | h1)
      · exact .inl h1
      · exact .inr (.inl h1)
      · exact .inr (.inr h1)
    · rintro (h1 | h1 | h1)
      · exact .inl (.inl h1)
      · exact .inl (.inr h1)
      · exact .inr h1
end Go.Proofs.YtgjbnbojjgbmcaaGreat.Spans

namespace Go.Proofs.YtgjbnbojjgbmcaaGreat.Spans
def fineB : List Sp → Bool
  | [] => true
  | [x] => decide (Ok x)
  | x :: y :: l => decide (Ok x) && (decide (x.t + 2 ≤ y.f) && fineB (y :: l))
theorem fineB_iff : ∀ l : List Sp, fineB l = true ↔ Fine l
  | [] => by simp [fineB, Fine]
  | [x] => by simp [fineB, Fine]
  | x :: y :: l => by simp [fineB, Fine, fineB_iff (y :: l)]
/-- May spans be? -/
def mayB (l : List Sp) : Bool := fineB l && decide (l.length ≤ 1024)
theorem mayB_iff (l : List Sp) : mayB l = true ↔ Fine l ∧ l.length ≤ 1024 := by simp [mayB, fineB_iff]
theorem fine_ok : ∀ {l : List Sp} {k : Nat}, Fine l → k < l.length → Ok (l.getD k zsp)
  | [], k, _, h => by simp at h
  | x :: l, 0, h, _ => by simpa using h.head
  | x :: l, k + 1, h, hk => by simpa using fine_ok (k := k) h.tail (by simpa using hk)
theorem fine_next : ∀ {l : List Sp} {k : Nat}, Fine l → k + 1 < l.length → (l.getD k zsp).t + 2 ≤ (l.getD (k + 1) zsp).f
  | [], k, _, h => by simp at h
  | [x], k, _, h => by simp at h
  | x :: y :: l, 0, h, _ => by simpa using h.2.1
  | x :: y :: l, k + 1, h, hk => by
    have := fine_next (l := y :: l) (k := k) h.2.2 (by simpa using hk)
    simpa using this
theorem take_snoc (l : List Sp) (k : Nat) (h : k < l.length) : l.take (k + 1) = l.take k ++ [l.getD k zsp] := by
  rw [List.take_succ_eq_append_getElem h]
  simp [List.getD, List.getElem?_eq_getElem h]
theorem fine_front : ∀ {p q : List Sp}, Fine (p ++ q) → Fine p
  | [], _, _ => trivial
  | [_], _, h => h.head
  | _ :: y :: p, _, h => ⟨h.1, h.2.1, fine_front (p := y :: p) h.2.2⟩
theorem fine_most : ∀ {l : List Sp}, Fine l → ∀ a ∈ l, a.t ≤ (l.getD (l.length - 1) zsp).t
  | [], _, a, ha => by simp at ha
  | [x], _, a, ha => by simp only [List.mem_singleton] at ha; subst ha; simp
  | x :: y :: l, h, a, ha => by
    have ih := fine_most h.2.2
    have e : (x :: y :: l).getD ((x :: y :: l).length - 1) zsp = (y :: l).getD ((y :: l).length - 1) zsp := by simp
    rw [e]
    rw [List.mem_cons] at ha
    rcases ha with rfl | ha
    · have h1 := ih y (by simp)
      have h2 := h.2.1
      have h3 := h.2.2.head
      unfold Ok at h3
      omega
    · exact ih a ha
theorem fine_take_succ {l : List Sp} {k : Nat} (h : k < l.length) (hc : Fine (l.take k)) (h1 : Ok (l.getD k zsp)) (h2 : k = 0 ∨ (l.getD (k - 1) zsp).t + 2 ≤ (l.getD k zsp).f) : Fine (l.take (k + 1)) := by
  rw [take_snoc l k h]
  refine fine_append hc h1 (fun a ha b hb => ?_)
  simp only [List.mem_singleton] at hb
  subst hb
  rcases h2 with rfl | h2
  · simp at ha
  · have h3 := fine_most hc a ha
    have hk : 0 < k := by
      cases k with
      | zero => simp at ha
      | succ k => omega
    rw [List.length_take, Nat.min_eq_left (by omega)] at h3
    have e : (l.take k).getD (k - 1) zsp = l.getD (k - 1) zsp := by
      simp [List.getD, show k - 1 < k by omega]
    rw [e] at h3
    omega
theorem inB_snoc (l : List Sp) (x : Sp) (n : Nat) : inB (l ++ [x]) n = (inB l n || decide (x.f ≤ n ∧ n ≤ x.t)) := by
  induction l with
  | nil => simp [inB]
  | cons y l ih => simp only [List.cons_append, inB, ih, Bool.or_assoc]
theorem both_len : ∀ (b a : List Sp), (both a b).length ≤ a.length + b.length
  | [], _ => by simp [both]
  | x :: b, a => by have h1 := both_len b (ins a x); have h2 := ins_len a x; simp only [both, List.length_cons]; omega
end Go.Proofs.YtgjbnbojjgbmcaaGreat.Spans

namespace Go.Proofs.YtgjbnbojjgbmcaaGreat.Clocks
open Go.Proofs.YtgjbnbojjgbmcaaGreat.Spans
/-- A replica and its spans. -/
abbrev Tm := Nat × List Sp
/-- Replicas from lo on, ascending, each with spans that may be. -/
def Up : Nat → List Tm → Prop
  | _, [] => True
  | lo, x :: c => lo ≤ x.1 ∧ x.1 < 8 ∧ x.2 ≠ [] ∧ mayB x.2 = true ∧ Up (x.1 + 1) c
/-- May the clock be? -/
def Cok (c : List Tm) : Prop := Up 0 c
/-- A replica's spans. -/
def spn : List Tm → Nat → List Sp
  | [], _ => []
  | x :: c, r => if x.1 = r then x.2 else spn c r
theorem up_mono {c : List Tm} {lo lo' : Nat} (h : Up lo c) (hl : lo' ≤ lo) : Up lo' c := by
  cases c with
  | nil => trivial
  | cons x c => exact ⟨Nat.le_trans hl h.1, h.2⟩
theorem spn_low : ∀ {c : List Tm} {lo r : Nat}, Up lo c → r < lo → spn c r = []
  | [], _, _, _, _ => rfl
  | x :: c, lo, r, h, hr => by
    unfold spn
    rw [if_neg (by have := h.1; omega)]
    exact spn_low h.2.2.2.2 (by have := h.1; omega)
theorem spn_high : ∀ {c : List Tm} {lo r : Nat}, Up lo c → 8 ≤ r → spn c r = []
  | [], _, _, _, _ => rfl
  | x :: c, lo, r, h, hr => by
    unfold spn
    rw [if_neg (by have := h.2.1; omega)]
    exact spn_high h.2.2.2.2 hr
theorem spn_may : ∀ {c : List Tm} {lo : Nat}, Up lo c → ∀ r, mayB (spn c r) = true
  | [], _, _, _ => rfl
  | x :: c, lo, h, r => by
    unfold spn
    split
    · exact h.2.2.2.1
    · exact spn_may h.2.2.2.2 r
/-- A clock is written in one way alone. -/
theorem up_ext : ∀ {c d : List Tm} {lo : Nat}, Up lo c → Up lo d → (∀ r, spn c r = spn d r) → c = d
  | [], [], _, _, _, _ => rfl
  | [], y :: d, _, _, hd, h => by
    have := h y.1
    unfold spn at this
    rw [if_pos rfl] at this
    exact absurd this.symm hd.2.2.1
  | x :: c, [], _, hc, _, h => by
    have := h x.1
    unfold spn at this
    rw [if_pos rfl] at this
    exact absurd this hc.2.2.1
  | x :: c, y :: d, lo, hc, hd, h => by
    have hx : spn (x :: c) x.1 = x.2 := by unfold spn; rw [if_pos rfl]
    have hy : spn (y :: d) y.1 = y.2 := by unfold spn; rw [if_pos rfl]
    have e1 : x.1 = y.1 := by
      rcases Nat.lt_trichotomy x.1 y.1 with q | q | q
      · have : spn (y :: d) x.1 = [] := spn_low (lo := y.1) ⟨Nat.le_refl _, hd.2⟩ q
        rw [← h, hx] at this
        exact absurd this hc.2.2.1
      · exact q
      · have : spn (x :: c) y.1 = [] := spn_low (lo := x.1) ⟨Nat.le_refl _, hc.2⟩ q
        rw [h, hy] at this
        exact absurd this hd.2.2.1
    have e2 : x.2 = y.2 := by rw [← hx, ← hy, h, e1]
    have e3 : c = d := by
      refine up_ext (lo := x.1 + 1) hc.2.2.2.2 (by rw [e1]; exact hd.2.2.2.2) fun r => ?_
      by_cases q : x.1 = r
      · rw [spn_low hc.2.2.2.2 (by omega), spn_low hd.2.2.2.2 (by omega)]
      · have := h r
        unfold spn at this
        rwa [if_neg q, if_neg (by omega)] at this
    rw [e3, Prod.ext e1 e2]
/-- The clock of k replicas' spans, from lo on. -/
def clkFrom (g : Nat → List Sp) : Nat → Nat → List Tm
  | _, 0 => []
  | lo, k + 1 => if g lo = [] then clkFrom g (lo + 1) k else (lo, g lo) :: clkFrom g (lo + 1) k
def clk (g : Nat → List Sp) : List Tm := clkFrom g 0 8
theorem clkFrom_up {g : Nat → List Sp} (hg : ∀ r, mayB (g r) = true) : ∀ (k lo : Nat), lo + k ≤ 8 → Up lo (clkFrom g lo k)
  | 0, _, _ => trivial
  | k + 1, lo, h => by
    unfold clkFrom
    split
    · exact up_mono (clkFrom_up hg k (lo + 1) (by omega)) (Nat.le_succ _)
    · rename_i q
      exact ⟨Nat.le_refl _, by show lo < 8; omega, q, hg lo, clkFrom_up hg k (lo + 1) (by omega)⟩
theorem spn_clkFrom (g : Nat → List Sp) : ∀ (k lo r : Nat), spn (clkFrom g lo k) r = if lo ≤ r ∧ r < lo + k then g r else []
  | 0, lo, r => by rw [if_neg (by omega)]; rfl
  | k + 1, lo, r => by
    have ih := spn_clkFrom g k (lo + 1) r
    unfold clkFrom
    by_cases q : g lo = []
    · rw [if_pos q, ih]
      by_cases e : r = lo
      · subst e
        rw [if_neg (by omega), if_pos (by omega), q]
      · by_cases e2 : lo + 1 ≤ r ∧ r < lo + 1 + k
        · rw [if_pos e2, if_pos (by omega)]
        · rw [if_neg e2, if_neg (by omega)]
    · rw [if_neg q]
      unfold spn
      by_cases e : lo = r
      · subst e
        rw [if_pos rfl, if_pos (by omega)]
      · rw [if_neg e, ih]
        by_cases e2 : lo + 1 ≤ r ∧ r < lo + 1 + k
        · rw [if_pos e2, if_pos (by omega)]
        · rw [if_neg e2, if_neg (by omega)]
theorem clk_ok {g : Nat → List Sp} (hg : ∀ r, mayB (g r) = true) : Cok (clk g) := clkFrom_up hg 8 0 (by omega)
theorem spn_clk (g : Nat → List Sp) (r : Nat) : spn (clk g) r = if r < 8 then g r else [] := by
  unfold clk
  rw [spn_clkFrom]
  by_cases h : r < 8
  · rw [if_pos (by omega), if_pos h]
  · rw [if_neg (by omega), if_neg h]
theorem clk_spn {c : List Tm} (h : Cok c) : clk (spn c) = c := by
  refine up_ext (clk_ok (spn_may h)) h fun r => ?_
  rw [spn_clk]
  split
  · rfl
  · exact (spn_high h (by omega)).symm
end Go.Proofs.YtgjbnbojjgbmcaaGreat.Clocks

namespace Go.Proofs.YtgjbnbojjgbmcaaGreat.Clocks
open Go.Proofs.YtgjbnbojjgbmcaaGreat.Spans
def ztm : Tm := (0, [])
def upB : Nat → List Tm → Bool
  | _, [] => true
  | lo, x :: c => decide (lo ≤ x.1 ∧ x.1 < 8 ∧ x.2 ≠ []) && (mayB x.2 && upB (x.1 + 1) c)
theorem upB_iff : ∀ (c : List Tm) (lo : Nat), upB lo c = true ↔ Up lo c
  | [], _ => by simp [upB, Up]
  | x :: c, lo => by
    unfold upB Up
    rw [Bool.and_eq_true, Bool.and_eq_true, decide_eq_true_iff, upB_iff c (x.1 + 1)]
    constructor
    · rintro ⟨⟨h1, h2, h3⟩, h4, h5⟩; exact ⟨h1, h2, h3, h4, h5⟩
    · rintro ⟨h1, h2, h3, h4, h5⟩; exact ⟨⟨h1, h2, h3⟩, h4, h5⟩
/-- May the clock be? -/
def mayC (c : List Tm) : Bool := upB 0 c
theorem mayC_iff (c : List Tm) : mayC c = true ↔ Cok c := upB_iff c 0
theorem mayC_no {c : List Tm} (h : ¬ Cok c) : mayC c = false := by
  cases hb : mayC c
  · rfl
  · exact absurd ((mayC_iff c).1 hb) h
theorem up_all : ∀ {c : List Tm} {lo : Nat}, Up lo c → ∀ x ∈ c, lo ≤ x.1 ∧ x.1 < 8 ∧ x.2 ≠ [] ∧ mayB x.2 = true
  | [], _, _, x, hx => by simp at hx
  | y :: c, lo, h, x, hx => by
    rw [List.mem_cons] at hx
    rcases hx with rfl | hx
    · exact ⟨h.1, h.2.1, h.2.2.1, h.2.2.2.1⟩
    · have := up_all h.2.2.2.2 x hx
      have h1 := h.1
      exact ⟨by omega, this.2⟩
theorem up_snoc : ∀ {c : List Tm} {x : Tm} {lo : Nat}, Up lo c → (∀ y ∈ c, y.1 < x.1) → lo ≤ x.1 → x.1 < 8 → x.2 ≠ [] → mayB x.2 = true → Up lo (c ++ [x])
  | [], x, lo, _, _, h1, h2, h3, h4 => ⟨h1, h2, h3, h4, trivial⟩
  | y :: c, x, lo, h, hl, h1, h2, h3, h4 => by
    have := hl y (by simp)
    exact ⟨h.1, h.2.1, h.2.2.1, h.2.2.2.1, up_snoc h.2.2.2.2 (fun z hz => hl z (by simp [hz])) (by omega) h2 h3 h4⟩
theorem up_next : ∀ {c : List Tm} {lo k : Nat}, Up lo c → k + 1 < c.length → (c.getD k ztm).1 < (c.getD (k + 1) ztm).1
  | [], _, k, _, h => by simp at h
  | [x], _, k, _, h => by simp at h
  | x :: y :: c, _, 0, h, _ => by
    have h1 : x.1 + 1 ≤ y.1 := h.2.2.2.2.1
    show x.1 < y.1
    omega
  | x :: y :: c, _, k + 1, h, hk => by
    have := up_next (c := y :: c) (k := k) h.2.2.2.2 (by simpa using hk)
    simpa using this
theorem up_most : ∀ {c : List Tm} {lo : Nat}, Up lo c → ∀ a ∈ c, a.1 ≤ (c.getD (c.length - 1) ztm).1
  | [], _, _, a, ha => by simp at ha
  | [x], _, _, a, ha => by simp only [List.mem_singleton] at ha; subst ha; simp
  | x :: y :: c, lo, h, a, ha => by
    have ih := up_most h.2.2.2.2
    have e : (x :: y :: c).getD ((x :: y :: c).length - 1) ztm = (y :: c).getD ((y :: c).length - 1) ztm := by simp
    rw [e]
    rw [List.mem_cons] at ha
    rcases ha with rfl | ha
    · have h1 := ih y (by simp)
      have h2 := h.2.2.2.2.1
      omega
    · exact ih a ha
theorem tm_take_snoc (c : List Tm) (k : Nat) (h : k < c.length) : c.take (k + 1) = c.take k ++ [c.getD k ztm] := by
  rw [List.take_succ_eq_append_getElem h]
  simp [List.getD, List.getElem?_eq_getElem h]
theorem tm_mem {c : List Tm} {k : Nat} (h : k < c.length) : c.getD k ztm ∈ c := by
  rw [List.getD, List.getElem?_eq_getElem h]
  exact List.getElem_mem _
theorem up_take_succ {c : List Tm} {k : Nat} (h : k < c.length) (hc : Up 0 (c.take k)) (h1 : (c.getD k ztm).1 < 8) (h2 : (c.getD k ztm).2 ≠ []) (h3 : mayB (c.getD k ztm).2 = true)
    (h4 : k = 0 ∨ (c.getD (k - 1) ztm).1 < (c.getD k ztm).1) : Up 0 (c.take (k + 1)) := by
  rw [tm_take_snoc c k h]
  refine up_snoc hc (fun a ha => ?_) (Nat.zero_le _) h1 h2 h3
  rcases h4 with rfl | h4
  · simp at ha
  · have h5 := up_most hc a ha
    have hk : 0 < k := by
      cases k with
      | zero => simp at ha
      | succ k => omega
    rw [List.length_take, Nat.min_eq_left (by omega)] at h5
    have e : (c.take k).getD (k - 1) ztm = c.getD (k - 1) ztm := by
      simp [List.getD, show k - 1 < k by omega]
    rw [e] at h5
    omega
theorem clkFrom_snoc (g : Nat → List Sp) : ∀ (k lo : Nat), clkFrom g lo (k + 1) = clkFrom g lo k ++ (if g (lo + k) = [] then [] else [(lo + k, g (lo + k))])
  | 0, lo => by
    simp only [clkFrom, Nat.add_zero, List.nil_append]
  | k + 1, lo => by
    have ih := clkFrom_snoc g k (lo + 1)
    rw [show lo + (k + 1) = lo + 1 + k by omega]
    show (if g lo = [] then clkFrom g (lo + 1) (k + 1) else (lo, g lo) :: clkFrom g (lo + 1) (k + 1)) = (if g lo = [] then clkFrom g (lo + 1) k else (lo, g lo) :: clkFrom g (lo + 1) k) ++ _
    rw [ih]
    by_cases q : g lo = []
    · rw [if_pos q, if_pos q]
    · rw [if_neg q, if_neg q, List.cons_append]
theorem clkFrom_len (g : Nat → List Sp) : ∀ (k lo : Nat), (clkFrom g lo k).length ≤ k
  | 0, _ => Nat.le_refl _
  | k + 1, lo => by
    have := clkFrom_len g k (lo + 1)
    unfold clkFrom
    split
    · omega
    · simp; omega
/-- The clock of a stamp. -/
def one (a : Id) : List Tm := [(a.r, [mk a.t a.t])]
/-- Two together, one without another one. -/
def bothC (a b : List Tm) : List Tm := clk fun r => both (spn a r) (spn b r)
/-- No replica has too many spans. -/
def Few (a b : List Tm) : Prop := ∀ r, (spn a r).length + (spn b r).length ≤ 1024
theorem few_may {a b : List Tm} (ha : Cok a) (hb : Cok b) (h : Few a b) (r : Nat) : mayB (both (spn a r) (spn b r)) = true := by
  have h1 := (mayB_iff _).1 (spn_may ha r)
  have h2 := (mayB_iff _).1 (spn_may hb r)
  exact (mayB_iff _).2 ⟨(both_ok h1.1 h2.1.all).1, Nat.le_trans (both_len _ _) (h r)⟩
theorem bothC_ok {a b : List Tm} (ha : Cok a) (hb : Cok b) (h : Few a b) : Cok (bothC a b) := clk_ok (few_may ha hb h)
theorem spn_bothC {a b : List Tm} (ha : Cok a) (hb : Cok b) (r : Nat) : spn (bothC a b) r = both (spn a r) (spn b r) := by
  unfold bothC
  rw [spn_clk]
  split
  · rfl
  · rw [spn_high ha (by omega), spn_high hb (by omega)]; rfl
theorem one_sp {a : Id} (h : mayI a) : Ok (mk a.t a.t) := by
  have := a.ht
  unfold mayI at h
  unfold Ok
  rw [mk_f this, mk_t this]
  omega
theorem one_ok {a : Id} (h : mayI a) : Cok (one a) :=
  ⟨Nat.zero_le _, h.2.2, by simp, (mayB_iff _).2 ⟨one_sp h, by simp⟩, trivial⟩
theorem spn_one (a : Id) (r : Nat) : spn (one a) r = if a.r = r then [mk a.t a.t] else [] := by
  unfold one spn
  rfl
theorem spn_one_len (a : Id) (r : Nat) : (spn (one a) r).length ≤ 1 := by
  rw [spn_one]; split <;> simp
/-- The clock of some stamps. -/
def among : List Id → List Tm
  | l => l.foldl (fun c a => bothC c (one a)) []
theorem among_snoc (l : List Id) (a : Id) : among (l ++ [a]) = bothC (among l) (one a) := by unfold among; rw [List.foldl_append]; rfl
theorem among_ok (l : List Id) : (∀ a ∈ l, mayI a) → l.length ≤ 1024 → Cok (among l) ∧ (∀ r, (spn (among l) r).length ≤ l.length) ∧
    ∀ r n, In (spn (among l) r) n ↔ ∃ a ∈ l, a.r = r ∧ a.t = n := by
  refine list_snoc_ind (P := fun l => (∀ a ∈ l, mayI a) → l.length ≤ 1024 → Cok (among l) ∧ (∀ r, (spn (among l) r).length ≤ l.length) ∧ ∀ r n, In (spn (among l) r) n ↔ ∃ a ∈ l, a.r = r ∧ a.t = n) ?_ ?_ l
  · intro _ _
    refine ⟨trivial, fun r => Nat.zero_le _, fun r n => ?_⟩
    show In [] n ↔ _
    constructor
    · exact fun h => absurd h (in_nil n)
    · rintro ⟨a, ha, _⟩; simp at ha
  · intro l x ih hm hl
    rw [List.length_append, List.length_singleton] at hl
    obtain ⟨i1, i2, i3⟩ := ih (fun a ha => hm a (by simp [ha])) (by omega)
    have hx := hm x (by simp)
    have ho := one_ok hx
    have hfew : Few (among l) (one x) := fun r => by have := i2 r; have := spn_one_len x r; omega
    rw [among_snoc]
    refine ⟨bothC_ok i1 ho hfew, fun r => ?_, fun r n => ?_⟩
    · rw [spn_bothC i1 ho]
      have h1 := both_len (spn (one x) r) (spn (among l) r)
      have h2 := spn_one_len x r
      have h3 := i2 r
      rw [List.length_append, List.length_singleton]
      omega
    · have h1 := (mayB_iff _).1 (spn_may i1 r)
      have h2 := (mayB_iff _).1 (spn_may ho r)
      rw [spn_bothC i1 ho, (both_ok h1.1 h2.1.all).2 n, i3, spn_one]
      have hxt := x.ht
      constructor
      · rintro (⟨a, h3, h4⟩ | h3)
        · exact ⟨a, by simp [h3], h4⟩
        · by_cases q : x.r = r
          · rw [if_pos q, in_cons, mk_f hxt, mk_t hxt] at h3
            rcases h3 with h3 | h3
            · exact ⟨x, by simp, q, by omega⟩
            · exact absurd h3 (in_nil n)
          · rw [if_neg q] at h3; exact absurd h3 (in_nil n)
      · rintro ⟨a, h3, h4, h5⟩
        rw [List.mem_append, List.mem_singleton] at h3
        rcases h3 with h3 | rfl
        · exact .inl ⟨a, h3, h4, h5⟩
        · right
          rw [if_pos h4, in_cons, mk_f hxt, mk_t hxt]
          left; omega
theorem spn_cons (x : Tm) (c : List Tm) (r : Nat) : spn (x :: c) r = if x.1 = r then x.2 else spn c r := rfl
end Go.Proofs.YtgjbnbojjgbmcaaGreat.Clocks

namespace Go.Proofs.YtgjbnbojjgbmcaaGreat.Clocks
open Go.Proofs.YtgjbnbojjgbmcaaGreat.Spans
def chkC (c : List Tm) : Int := if mayC c = true then 0 else 8
def hasC (c : List Tm) (a : Id) : Bool := mayC c && inB (spn c a.r) a.t
def allMay (l : List Id) : Bool := l.all fun a => decide (mayI a)
theorem allMay_iff (l : List Id) : allMay l = true ↔ ∀ a ∈ l, mayI a := by simp [allMay]
def ofC (l : List Id) : List Tm × Int := if 1024 < l.length then ([], 4) else if allMay l = true then (among l, 0) else ([], 8)
theorem hasC_may {c : List Tm} (h : mayC c = true) (a : Id) : hasC c a = inB (spn c a.r) a.t := by unfold hasC; rw [h]; rfl
theorem sp_fine {c : List Tm} (h : Cok c) (r : Nat) : Fine (spn c r) := ((mayB_iff _).1 (spn_may h r)).1
end Go.Proofs.YtgjbnbojjgbmcaaGreat.Clocks

namespace Go.Proofs.YtgjbnbojjgbmcaaGreat.Bags
open Ops Stamp
def stampsO (l : List Opn) : List Id := l.map idO
def idsC (l : List Opn) : List Clocks.Tm := if bagB l = true then Clocks.among (stampsO l) else []
end Go.Proofs.YtgjbnbojjgbmcaaGreat.Bags

namespace Go.Proofs.YtgjbnbojjgbmcaaGreat
open Go.RowKit Go.WideShapes Spans
/-- Spans as cells. -/
def sps : List Sp → List Value
  | [] => []
  | a :: l => .int .u32 (a.f : Int) :: .int .u32 (a.t : Int) :: sps l
theorem sps_len : ∀ l : List Sp, (sps l).length = l.length * 2
  | [] => rfl
  | a :: l => by simp [sps, sps_len l]; omega
theorem sps_append : ∀ l m : List Sp, sps (l ++ m) = sps l ++ sps m
  | [], m => rfl
  | a :: l, m => by simp [sps, sps_append l m]
theorem sps_get : ∀ (l : List Sp) (j : Nat), j < l.length → (sps l)[j * 2]? = some (.int .u32 ((l.getD j zsp).f : Int)) ∧ (sps l)[j * 2 + 1]? = some (.int .u32 ((l.getD j zsp).t : Int))
  | [], j, h => by simp at h
  | a :: l, 0, _ => by simp [sps]
  | a :: l, j + 1, h => by
    have := sps_get l j (by simpa using h)
    rw [show (j + 1) * 2 = j * 2 + 1 + 1 by omega]
    simpa [sps] using this
theorem sps_oneCell : ∀ l : List Sp, ∀ u ∈ sps l, u.oneCell' = true
  | [], u, h => by simp [sps] at h
  | a :: l, u, h => by
    simp only [sps, List.mem_cons] at h
    rcases h with rfl | rfl | h
    · rfl
    · rfl
    · exact sps_oneCell l u h
/-- A slice of spans. -/
def Sps (w : World) (v : Value) (l : List Sp) : Prop := Sees w v 2 l.length (sps l)
theorem Sps.keeps {w w' : World} {v : Value} {l : List Sp} (h : Sps w v l) (hb : Below w.heap.size w w') : Sps w' v l := Sees.keeps h hb
theorem Sps.shape {w : World} {v : Value} {l : List Sp} (h : Sps w v l) : ∃ ao cap, v = .slice ao l.length cap := Sees.shape h
theorem Sps.at {w : World} {ao : Option Addr} {m cap : Nat} {l : List Sp} (h : Sps w (.slice ao m cap) l) (k : Nat) (hk : k < l.length) :
    ∃ b off, ao = some ⟨b, off, none⟩ ∧ b < w.heap.size ∧ w.cell? ⟨b, off + k * 2, none⟩ = some (.int .u32 ((l.getD k zsp).f : Int)) ∧ w.cell? ⟨b, off + k * 2 + 1, none⟩ = some (.int .u32 ((l.getD k zsp).t : Int)) := by
  obtain ⟨b, off, h1, h2, h3⟩ := Sees.at h (k * 2) (by rw [sps_len]; omega)
  have e := sps_get l k hk
  exact ⟨b, off, h1, h2, (h3 (k * 2) (by rw [sps_len]; omega)).trans e.1, (h3 (k * 2 + 1) (by rw [sps_len]; omega)).trans e.2⟩
theorem Sps.own {w : World} {base : Nat} {e : TypeId} {v : Value} {n : Nat} {l : List Sp} (h : w.ownsRow base e 2 v n (sps l)) : Sps w v l := by
  have h1 := h.1
  rw [sps_len] at h1
  obtain rfl : l.length = n := by omega
  exact Sees.own h
theorem span_info : (Tryz.prog.info? 174).map (fun i => (i.zero, i.size, i.bytes)) = some (some (.agg #[.int .u32 0, .int .u32 0]), 2, 8) := by kernel_rfl
end Go.Proofs.YtgjbnbojjgbmcaaGreat

namespace Go.Proofs.YtgjbnbojjgbmcaaGreat
open Go.RowKit Go.WideShapes Spans Clocks
/-- The cells hold the clock: a replica, and what reads as its spans. -/
def Hold (w : World) : List Value → List Tm → Prop
  | [], [] => True
  | a :: b :: cs, x :: c => a = .int .u8 (x.1 : Int) ∧ x.1 < 256 ∧ Sps w b x.2 ∧ Hold w cs c
  | _, _ => False
theorem Hold.len : ∀ {w : World} {cs : List Value} {c : List Tm}, Hold w cs c → cs.length = c.length * 2
  | _, [], [], _ => rfl
  | w, a :: b :: cs, x :: c, h => by have := Hold.len h.2.2.2; simp; omega
theorem Hold.keeps : ∀ {w w' : World} {cs : List Value} {c : List Tm}, Hold w cs c → Below w.heap.size w w' → Hold w' cs c
  | _, _, [], [], _, _ => trivial
  | _, _, _ :: _ :: _, _ :: _, h, hb => ⟨h.1, h.2.1, h.2.2.1.keeps hb, Hold.keeps h.2.2.2 hb⟩
theorem Hold.get : ∀ {w : World} {cs : List Value} {c : List Tm} (k : Nat), Hold w cs c → k < c.length →
    cs[k * 2]? = some (.int .u8 ((c.getD k (0, [])).1 : Int)) ∧ (c.getD k (0, [])).1 < 256 ∧ ∃ u, cs[k * 2 + 1]? = some u ∧ Sps w u (c.getD k (0, [])).2
  | _, _, [], _, _, hk => by simp at hk
  | _, [], _ :: _, _, h, _ => by simp [Hold] at h
  | _, [_], _ :: _, _, h, _ => by simp [Hold] at h
  | w, a :: b :: cs, x :: c, 0, h, _ => by
    obtain ⟨rfl, h1, h2, _⟩ := h
    exact ⟨by simp, by simpa using h1, b, by simp, by simpa using h2⟩
  | w, a :: b :: cs, x :: c, k + 1, h, hk => by
    have := Hold.get k h.2.2.2 (by simpa using hk)
    rw [show (k + 1) * 2 = k * 2 + 1 + 1 by omega]
    simpa using this
/-- A slice of replicas' spans. -/
def Tms (w : World) (v : Value) (c : List Tm) : Prop := ∃ cs, Sees w v 2 c.length cs ∧ Hold w cs c
theorem Tms.keeps {w w' : World} {v : Value} {c : List Tm} (h : Tms w v c) (hb : Below w.heap.size w w') : Tms w' v c := by
  obtain ⟨cs, h1, h2⟩ := h
  exact ⟨cs, h1.keeps hb, h2.keeps hb⟩
theorem Tms.shape {w : World} {v : Value} {c : List Tm} (h : Tms w v c) : ∃ ao cap, v = .slice ao c.length cap := by
  obtain ⟨cs, h1, _⟩ := h
  exact Sees.shape h1
theorem Tms.max {w : World} {v : Value} {c : List Tm} (h : Tms w v c) : c.length ≤ 9223372036854775807 := by
  obtain ⟨cs, h1, _⟩ := h
  exact Sees.max h1
theorem Tms.at {w : World} {ao : Option Addr} {m cap : Nat} {c : List Tm} (h : Tms w (.slice ao m cap) c) (k : Nat) (hk : k < c.length) :
    ∃ b off u, ao = some ⟨b, off, none⟩ ∧ b < w.heap.size ∧ w.cell? ⟨b, off + k * 2, none⟩ = some (.int .u8 ((c.getD k (0, [])).1 : Int)) ∧ w.cell? ⟨b, off + k * 2 + 1, none⟩ = some u ∧
      (c.getD k (0, [])).1 < 256 ∧ Sps w u (c.getD k (0, [])).2 := by
  obtain ⟨cs, h1, h2⟩ := h
  have hl := h2.len
  obtain ⟨b, off, e1, e2, e3⟩ := Sees.at h1 (k * 2) (by omega)
  obtain ⟨g1, g2, u, g3, g4⟩ := h2.get k hk
  exact ⟨b, off, u, e1, e2, (e3 (k * 2) (by omega)).trans g1, (e3 (k * 2 + 1) (by omega)).trans g3, g2, g4⟩
/-- The same, and each element's spans are of the call's own. -/
def HoldO (w : World) (base : Nat) : List Value → List Tm → Prop
  | [], [] => True
  | a :: b :: cs, x :: c => a = .int .u8 (x.1 : Int) ∧ x.1 < 256 ∧ w.ownsRow base 174 2 b x.2.length (sps x.2) ∧ HoldO w base cs c
  | _, _ => False
theorem HoldO.hold : ∀ {w : World} {base : Nat} {cs : List Value} {c : List Tm}, HoldO w base cs c → Hold w cs c
  | _, _, [], [], _ => trivial
  | _, _, _ :: _ :: _, _ :: _, h => ⟨h.1, h.2.1, Sps.own h.2.2.1, HoldO.hold h.2.2.2⟩
theorem HoldO.keeps : ∀ {w w' : World} {base : Nat} {cs : List Value} {c : List Tm}, HoldO w base cs c → Below w.heap.size w w' → HoldO w' base cs c
  | _, _, _, [], [], _, _ => trivial
  | _, _, _, _ :: _ :: _, _ :: _, h, hb => ⟨h.1, h.2.1, own_stays h.2.2.1 hb, HoldO.keeps h.2.2.2 hb⟩
theorem HoldO.append : ∀ {w : World} {base : Nat} {cs ds : List Value} {c d : List Tm}, HoldO w base cs c → HoldO w base ds d → HoldO w base (cs ++ ds) (c ++ d)
  | _, _, [], _, [], _, _, h => h
  | _, _, _ :: _ :: _, _, _ :: _, _, h, h2 => ⟨h.1, h.2.1, h.2.2.1, HoldO.append h.2.2.2 h2⟩
/-- A clock of the call's own, its spans too. -/
def OwnC (w : World) (base : Nat) (v : Value) (c : List Tm) : Prop := ∃ cs, w.ownsRow base 114 2 v c.length cs ∧ HoldO w base cs c
theorem OwnC.tms {w : World} {base : Nat} {v : Value} {c : List Tm} (h : OwnC w base v c) : Tms w v c := by
  obtain ⟨cs, h1, h2⟩ := h
  exact ⟨cs, Sees.own h1, h2.hold⟩
theorem times_info : (Tryz.prog.info? 114).map (fun i => (i.zero, i.size, i.bytes)) = some (some (.agg #[.int .u8 0, .slice none 0 0]), 2, 32) := by kernel_rfl
end Go.Proofs.YtgjbnbojjgbmcaaGreat

namespace Go.Proofs.YtgjbnbojjgbmcaaGreat.Spans
open Go.RowKit
attribute [local go_sem ↓] Go.wp_at_zero Go.wp_at_succ
def chk (l : List Sp) : Int := if mayB l = true then 0 else 8
def has (l : List Sp) (t : Nat) : Bool := mayB l && inB l t
end Go.Proofs.YtgjbnbojjgbmcaaGreat.Spans

namespace Go.Proofs.YtgjbnbojjgbmcaaGreat.Spans
open Go.RowKit
attribute [local go_sem ↓] Go.wp_at_zero Go.wp_at_succ
theorem two_blk {X : World} {g : Nat} {c0 c1 : Value} {e : TypeId} {fr : Nat × Nat} (h : X.heap[g]? = some (.cells #[c0, c1] e fr)) : X.cell? ⟨g, 0, none⟩ = some c0 ∧ X.cell? ⟨g, 1, none⟩ = some c1 :=
  ⟨cell_of_row _ g 0 #[c0, c1] e _ h, cell_of_row _ g 1 #[c0, c1] e _ h⟩
theorem sees_sp {X : World} {g : Nat} {a : Sp} {F T : Int} {e : TypeId} (h : X.heap[g]? = some (.cells #[.int .u32 F, .int .u32 T] e)) (hF : F = (a.f : Int)) (hT : T = (a.t : Int)) : Sees X (.slice (some ⟨g, 0, none⟩) 1 1) 2 1 (sps [a]) := by
  subst hF hT
  refine ⟨rfl, _, _, rfl, Nat.le_refl _, by decide, by simp, .inr ⟨g, 0, rfl, (Array.getElem?_eq_some_iff.1 h).1, fun j u hj => ?_⟩⟩
  rw [cell_of_row X g (0 + j) _ e _ h, Nat.zero_add]
  simpa [sps] using hj
theorem own_base {w : World} {b b' : Nat} {e : TypeId} {v : Value} {sz n : Nat} {cs : List Value} (h : w.ownsRow b e sz v n cs) (hb : b' ≤ b) : w.ownsRow b' e sz v n cs :=
  ⟨h.1, h.2.imp_right fun ⟨g, c, cur, h1, h2, h3⟩ => ⟨g, c, cur, h1, Nat.le_trans hb h2, h3⟩⟩
theorem kb_new {X : World} {g : Nat} {o : Obj} (h : X.heap.size = g) : (X.alloc o).heap[g]? = some o := by
  subst h; exact heap_alloc_new X o
end Go.Proofs.YtgjbnbojjgbmcaaGreat.Spans

namespace Go.Proofs.YtgjbnbojjgbmcaaGreat.Clocks
open Go.RowKit Go.Proofs.YtgjbnbojjgbmcaaGreat.Spans
attribute [local go_sem ↓] Go.wp_at_zero Go.wp_at_succ
theorem hold_grown {w w' : World} {base : Nat} : ∀ {cs : List Value} {c : List Tm} {row : Option Nat}, HoldO w base cs c → w.grownBy w' row →
    (∀ j cur, row = some j → w.heap[j]? ≠ some (.cells cur 174 (0, 0))) → HoldO w' base cs c
  | [], [], _, _, _, _ => trivial
  | _ :: b :: _, _ :: _, row, h, hg, hr => by
    refine ⟨h.1, h.2.1, h.2.2.1.kept hg ?_, hold_grown h.2.2.2 hg hr⟩
    rcases h.2.2.1.2 with ⟨h0, _⟩ | ⟨g, cap, cur, h0, _, hgb, _⟩
    · rw [h0]; exact .inl rfl
    · refine .inr (fun e => ?_)
      rw [h0] at e
      exact hr g cur e.symm hgb
theorem times_row {w : World} {base n : Nat} {v : Value} {cs : List Value} (h : w.ownsRow base 114 2 v n cs) : ∀ j cur, v.ownBlock = some j → w.heap[j]? ≠ some (.cells cur 174 (0, 0)) := by
  intro j cur hj he
  rcases h.2 with ⟨h0, _⟩ | ⟨g, cap, cur2, h0, _, hgb, _⟩
  · rw [h0] at hj; cases hj
  · rw [h0] at hj
    simp only [Value.ownBlock, Option.some.injEq] at hj
    subst hj
    rw [hgb] at he
    simp at he
theorem own_kept_span {w w' : World} {base B n : Nat} {u v : Value} {cs ds : List Value} {m : Nat} (h : w.ownsRow B 174 2 u n cs) (hv : w.ownsRow base 114 2 v m ds) (hg : w.grownBy w' v.ownBlock) : w'.ownsRow B 174 2 u n cs := by
  refine h.kept hg ?_
  rcases h.2 with ⟨h0, _⟩ | ⟨g, cap, cur, h0, _, hgb, _⟩
  · rw [h0]; exact .inl rfl
  · refine .inr (fun e => ?_)
    rw [h0] at e
    exact times_row hv g cur e.symm hgb
theorem HoldO.lower {w : World} {b b' : Nat} (hb : b' ≤ b) : ∀ {cs : List Value} {c : List Tm}, HoldO w b cs c → HoldO w b' cs c
  | [], [], _ => trivial
  | _ :: _ :: _, _ :: _, h => ⟨h.1, h.2.1, own_base h.2.2.1 hb, HoldO.lower hb h.2.2.2⟩
theorem OwnC.nil (w : World) (base : Nat) : OwnC w base (.slice none 0 0) [] := ⟨[], World.ownsRow_nil _ _ _ _, trivial⟩
theorem OwnC.base {w : World} {b b' : Nat} {v : Value} {c : List Tm} (h : OwnC w b v c) (hb : b' ≤ b) : OwnC w b' v c := by
  obtain ⟨cs, h1, h2⟩ := h
  exact ⟨cs, own_base h1 hb, HoldO.lower hb h2⟩
end Go.Proofs.YtgjbnbojjgbmcaaGreat.Clocks

namespace Go.Proofs.YtgjbnbojjgbmcaaGreat.Clocks
open Go.RowKit Go.Proofs.YtgjbnbojjgbmcaaGreat.Spans
attribute [local go_sem ↓] Go.wp_at_zero Go.wp_at_succ
/-- A replica's spans behind a clock, if there are any. -/
def putC (c : List Tm) (r : Nat) (l : List Sp) : List Tm := c ++ if l = [] then [] else [(r, l)]
/-- What is answered: a clock of its own, and an error. -/
def DoneC (c : List Tm) (x : Int) (w : World) (e : Ending) (w' : World) : Prop :=
  ∃ v, e = .returned (.tuple #[v, .int .i64 x]) ∧ OwnC w' w.heap.size v c ∧ Below w.heap.size w w'
end Go.Proofs.YtgjbnbojjgbmcaaGreat.Clocks

namespace Go.Proofs.YtgjbnbojjgbmcaaGreat.Clocks
open Go.RowKit Go.Proofs.YtgjbnbojjgbmcaaGreat.Spans
attribute [local go_sem ↓] Go.wp_at_zero Go.wp_at_succ
theorem id_take_snoc (l : List Id) (k : Nat) (h : k < l.length) : l.take (k + 1) = l.take k ++ [l.getD k zid] := by
  rw [List.take_succ_eq_append_getElem h]
  simp [List.getD, List.getElem?_eq_getElem h]
theorem id_mem {l : List Id} {k : Nat} (h : k < l.length) : l.getD k zid ∈ l := by
  rw [List.getD, List.getElem?_eq_getElem h]
  exact List.getElem_mem _
end Go.Proofs.YtgjbnbojjgbmcaaGreat.Clocks

namespace Go.Proofs.YtgjbnbojjgbmcaaGreat.Bags
open Go.RowKit Go.WideShapes Stamp Go.Proofs.YtgjbnbojjgbmcaaGreat.Place Ops Codes
attribute [local go_sem ↓] Go.wp_at_zero Go.wp_at_succ
attribute [local go_sem] yielded_undef
theorem shr_ids {w0 w : World} {v : Value} {l : List Id} (h : Shr idE 28 w0 w v l) : Ids w v l := by
  obtain ⟨cs, h1, h2⟩ := h
  have h3 := Sees.own h1
  rw [idE_rows h2] at h3
  exact h3
/-- A clock of the call's own, and an error. -/
def DoneC (c : List Clocks.Tm) (x : Int) (w : World) (e : Ending) (w' : World) : Prop := ∃ v, e = .returned (.tuple #[v, .int .i64 x]) ∧ OwnC w' w.heap.size v c ∧ Below w.heap.size w w'
end Go.Proofs.YtgjbnbojjgbmcaaGreat.Bags

namespace Go.Proofs.YtgjbnbojjgbmcaaGreat.Covers
open Ops Stamp Bags Marks Homes Go.Proofs.YtgjbnbojjgbmcaaGreat.Place
def versionL (l : List Opn) (s : Id) : List Clocks.Tm := if spanE l s = 0 then Clocks.among ((countL l (livesM l l) s).map idO) else []
theorem among_has {l : List Id} (hm : ∀ a ∈ l, Clocks.mayI a) (hl : l.length ≤ 1024) (a : Id) : Clocks.hasC (Clocks.among l) a = decide (a ∈ l) := by
  obtain ⟨h1, _, h3⟩ := Clocks.among_ok l hm hl
  rw [Clocks.hasC_may ((Clocks.mayC_iff _).2 h1), Bool.eq_iff_iff, Spans.inB_iff, h3, decide_eq_true_iff]
  constructor
  · rintro ⟨b, hb, e1, e2⟩
    rwa [show a = b from Id.ext' e2.symm e1.symm]
  · exact fun h => ⟨a, h, rfl, rfl⟩
theorem mayO_mayI {o : Opn} (h : mayO o = true) : Clocks.mayI (idO o) := by
  have h1 := (mayO_parts h).1
  unfold may at h1
  unfold Clocks.mayI idO
  simpa using h1
theorem count_may {l : List Opn} (hb : Bag l) (live : List Opn) (s : Id) : (∀ a ∈ (countL l live s).map idO, Clocks.mayI a) ∧ ((countL l live s).map idO).length ≤ 1024 ∧ ((countL l live s).map idO).Nodup := by
  refine ⟨fun a ha => ?_, ?_, ?_⟩
  · obtain ⟨o, ho, rfl⟩ := List.mem_map.1 ha
    exact mayO_mayI (hb.2.1 o (mem_countL.1 ho).1.1)
  · rw [List.length_map]
    exact Nat.le_trans (countL_sub l live s).length_le hb.1
  · unfold List.Nodup
    rw [List.pairwise_map]
    exact (hb.2.2.sublist (countL_sub l live s)).imp (fun h => lessO_ne h)
end Go.Proofs.YtgjbnbojjgbmcaaGreat.Covers

namespace Go.Proofs.YtgjbnbojjgbmcaaGreat.Views
open Ops Stamp Bags Marks Homes Covers Go.Proofs.YtgjbnbojjgbmcaaGreat.Place
theorem version_has {l : List Opn} {s : Id} (h0 : spanE l s = 0) (a : Id) : Clocks.hasC (versionL l s) a = true ↔ ∃ o ∈ countsL l s, idO o = a := by
  have hmy := count_may (spanE_zero.1 h0).1 (livesM l l) s
  unfold versionL countsL
  rw [if_pos h0, if_pos h0, among_has hmy.1 hmy.2.1, decide_eq_true_iff, List.mem_map]
end Go.Proofs.YtgjbnbojjgbmcaaGreat.Views

namespace Go.Proofs.YtgjbnbojjgbmcaaGreat.Edits
open Ops Stamp Bags Marks Homes Covers Views Go.Proofs.YtgjbnbojjgbmcaaGreat.Place
theorem hold_new {t : Nat} {a : Id} (ha : t < a.t) (m : List Id) : ∀ (q P : List Id), Upto t q → Go.Proofs.YtgjbnbojjgbmcaaGreat.Place.hold q (P ++ a :: m) = if Go.Proofs.YtgjbnbojjgbmcaaGreat.Place.hold q P = 0 then -1 else Go.Proofs.YtgjbnbojjgbmcaaGreat.Place.hold q P
  | [], [], _ => by simp [Go.Proofs.YtgjbnbojjgbmcaaGreat.Place.hold]
  | [], c :: P, _ => by simp [Go.Proofs.YtgjbnbojjgbmcaaGreat.Place.hold]
  | b :: q, [], h => by
    have hb := h b (by simp)
    have h1 : ¬ b = a := fun e => by rw [e] at hb; omega
    have h2 : less a.t a.r b.t b.r = false := less_no.2 (by omega)
    simp [Go.Proofs.YtgjbnbojjgbmcaaGreat.Place.hold, h1, h2]
  | b :: q, c :: P, h => by
    have ih := hold_new ha m q P (fun x hx => h x (by simp [hx]))
    by_cases e : b = c
    · subst e
      simpa [Go.Proofs.YtgjbnbojjgbmcaaGreat.Place.hold] using ih
    · by_cases h2 : less c.t c.r b.t b.r = true <;> simp [Go.Proofs.YtgjbnbojjgbmcaaGreat.Place.hold, e, h2]
theorem hold_new_le {t : Nat} {a : Id} (ha : t < a.t) {m q P : List Id} (h : Upto t q) : Go.Proofs.YtgjbnbojjgbmcaaGreat.Place.hold q (P ++ a :: m) ≤ 0 ↔ Go.Proofs.YtgjbnbojjgbmcaaGreat.Place.hold q P ≤ 0 := by
  rw [hold_new ha m q P h]
  split <;> omega
theorem cnt_new {live : List Opn} (hL : Liv live) {t : Nat} (hu : ∀ o ∈ live, Upto t (all o.pl)) {a : Id} (ha : t < a.t) {m : List Id} {p q : List Run} (e : all q = all p ++ a :: m) : cntM live q = cntM live p := by
  refine cnt_is hL (cntM_le live p) (fun i hi => ?_)
  rw [← nb_iff (p := p) hL i hi, nb_iff0, nb_iff0, e]
  exact hold_new_le ha (hu _ (List.getElem_mem hi))
theorem cnt_nil {live : List Opn} (hL : Liv live) : cntM live [] = 0 := by
  refine cnt_is hL (Nat.zero_le _) (fun i hi => ?_)
  rw [nb_iff0]
  have hm := (hL.may _ (List.getElem_mem hi)).1
  have hc := (mayB_iff _).1 (mayO_parts hm).2.1
  have hne : all (live[i]'hi).pl ≠ [] := fun h => by
    have h2 := (all_nil hc.2.2.1).1 h
    have h3 := hc.1
    rw [h2] at h3
    simp at h3
  show Go.Proofs.YtgjbnbojjgbmcaaGreat.Place.hold (all (live[i]'hi).pl) [] ≤ 0 ↔ i < 0
  cases h : all (live[i]'hi).pl with
  | nil => exact absurd h hne
  | cons b q => simp [Go.Proofs.YtgjbnbojjgbmcaaGreat.Place.hold]
theorem cnt_mark {live : List Opn} (hL : Liv live) {j : Nat} (hj : j < live.length) : cntM live (live[j]'hj).pl = j + 1 := by
  refine cnt_is hL hj (fun i hi => ?_)
  have mi := (hL.may _ (List.getElem_mem hi)).1
  have mj := (hL.may _ (List.getElem_mem hj)).1
  rw [nb_iff0]
  rcases Nat.lt_trichotomy i j with h | h | h
  · have := (pre_iff mi mj).1 (List.pairwise_iff_getElem.1 hL.srt i j hi hj h)
    omega
  · subst h
    have := (hold_eq (all (live[i]'hi).pl) (all (live[i]'hi).pl)).2 rfl
    omega
  · have h1 := (pre_iff mj mi).1 (List.pairwise_iff_getElem.1 hL.srt j i hj hi h)
    have h2 := hold_neg (all (live[j]'hj).pl) (all (live[i]'hi).pl)
    omega
theorem cnt_begin {live : List Opn} (hL : Liv live) {j : Nat} (hj : j < live.length + 1) : cntM live (beginM live (j : Int)) = j := by
  cases j with
  | zero => exact cnt_nil hL
  | succ j =>
    rw [show ((j + 1 : Nat) : Int) = (j : Int) + 1 by omega, begin_succ (by omega)]
    exact cnt_mark hL (by omega)
theorem home_left {l : List Opn} (hl : Bag l) {j k : Nat} (hj : j < (livesM l l).length + 1) (hk : k ≤ (elmL l ((sectsM (livesM l l)).getD j zid)).length) :
    cntM (livesM l l) (leftM (livesM l l) j (elmL l ((sectsM (livesM l l)).getD j zid)) k) = j := by
  have hL := liv_bag hl
  unfold leftM
  split
  · rename_i h0
    have hk1 : k - 1 < (elmL l ((sectsM (livesM l l)).getD j zid)).length := by omega
    rw [getD_of hk1]
    have hm := mem_elm_l (List.getElem_mem hk1)
    have h1 := hm.2.2.2.1
    rw [homeM_is hL] at h1
    have hle := cntM_le (livesM l l) ((elmL l ((sectsM (livesM l l)).getD j zid))[k - 1]'hk1).pl
    exact sects_inj hL (by omega) hj h1
  · exact cnt_begin hL hj
end Go.Proofs.YtgjbnbojjgbmcaaGreat.Edits
