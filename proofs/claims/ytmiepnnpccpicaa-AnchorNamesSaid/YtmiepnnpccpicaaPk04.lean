/- Places: a stamp put behind, beginnings, rising stamps, a child's place in the order. Conditions: none. octavo/op.Needs, octavoref09: May, Check, Many, Stands, Needs: what each answers. Conditions: the places' cells are runs. Slices of elements of any kind, whose cells may hold slices themselves: what such a slice value holds. Conditions: none. Operations as elements of slices. Conditions: none. Lists of operations: what a slice value holds, places of the call's own. Conditions: none. Spans of times, in plain words: which may be, their times, one way of writing, one put to them, one taken away, how many. Conditions: none. Clocks taken one by one, whether they may be, as a Bool; the clock of stamps, and the stamps of a clock. Conditions: none. Bags in plain words: which may be, one more in its place, two together, without stamps. Conditions: none. What calls of bag answer, in shape: lists  -/
import Derived.Test.YtmiepnnpccpicaaChecked
import Derived.WalkKit
import Derived.WalkSpells
import Derived.WalkLawsBesides
import Derived.Laws.BytesArg
import Derived.Lib.Hide
import Derived.Deep.LoopGhost
import Derived.Laws.AppendOwnNone
import Derived.Laws.OwnMore
import Derived.WideShapes
import Derived.Maps.AppendAt
import Derived.RegionTactic
import Derived.Deep.RegionHeld3
import Derived.Deep.DrawnRows
import Derived.Deep.QuietTactic
import Derived.BigQuiet
import Derived.IntWalk
import Derived.Deep.DeepCutAuto
import Derived.ScopeJumps
import Derived.Test.YtmiepnnpccpicaaProg
import Derived.LoopTactic
import Derived.Laws.EntriesVeiled
import Derived.RowKit
import Derived.Lib.DecodeN
import Derived.Lib.RuneBytes
import Derived.Test.YtmiepnnpccpicaaPk02
import Derived.Test.YtmiepnnpccpicaaPk01
import Derived.Test.YtmiepnnpccpicaaPk03

namespace Go.Proofs.Ytmiepnnpccpicaa.Place
open Go.RowKit Stamp
/-- A place that is not the beginning, as its last run behind the others. -/
theorem split_last {l : List Run} (h : 0 < l.length) : l = l.take (l.length - 1) ++ [l.getD (l.length - 1) zrun] := by
  have h2 : l.take (l.length - 1 + 1) = l := List.take_of_length_le (by omega)
  rw [List.take_succ_eq_append_getElem (by omega)] at h2
  rw [show l.getD (l.length - 1) zrun = l[l.length - 1] by simp [List.getD, List.getElem?_eq_getElem (show l.length - 1 < l.length by omega)]]
  exact h2.symm
theorem up_last (t r : Nat) : ∀ n, 1 ≤ n → (up t r n).getLast? = some (mk (t + n - 1) r) := by
  intro n hn
  obtain ⟨k, rfl⟩ : ∃ k, n = k + 1 := ⟨n - 1, by omega⟩
  rw [up_snoc, List.getLast?_append]
  simp
/-- The last run's last stamp is the last of all. -/
theorem last_all {l : List Run} (hc : Chain l) (h : 0 < l.length) : (all l).getLast? = some (mk ((l.getD (l.length - 1) zrun).t + (l.getD (l.length - 1) zrun).m.toNat - 1) (l.getD (l.length - 1) zrun).r) := by
  have hs := split_last h
  have ho := chain_one hc (k := l.length - 1) (by omega)
  obtain ⟨x, hx⟩ : ∃ x, x = l.getD (l.length - 1) zrun := ⟨_, rfl⟩
  rw [← hx] at hs ho ⊢
  obtain ⟨n, hn, n1, n2, n3, n4⟩ := ho.nat
  rw [hs, all_append, List.getLast?_append]
  have : all [x] = up x.t x.r n := by simp [all, n3]
  rw [this, up_last _ _ _ n1, n3]
  simp
end Go.Proofs.Ytmiepnnpccpicaa.Place

namespace Go.Proofs.Ytmiepnnpccpicaa.Ops
open Go.RowKit Stamp Go.Proofs.Ytmiepnnpccpicaa.Place
attribute [local go_sem ↓] Go.wp_at_zero Go.wp_at_succ
/-- How many of the stamps of its place it doesn't stand on. -/
def offs (o : Opn) : Nat := if ownB o = true then 1 else 0
theorem all_pos {l : List Run} (h : mayB l = true) : 1 ≤ (all l).length ∧ (all l).length ≤ 4096 ∧ ((all l).length : Int) = long l := by
  have hM := (mayB_iff l).1 h
  have h1 := long_len hM.2.2.1
  have h2 := hM.2.2.2
  refine ⟨?_, by omega, h1⟩
  rcases Nat.lt_or_ge 0 (all l).length with h3 | h3
  · exact h3
  · exfalso
    have h4 : all l = [] := List.length_eq_zero_iff.1 (by omega)
    have h5 := (all_nil hM.2.2.1).1 h4
    have := hM.1
    rw [h5] at this
    simp at this
theorem mayO_parts {o : Opn} (h : mayO o = true) : may o.t o.r = true ∧ mayB o.pl = true ∧ kindB o = true := by
  unfold mayO at h
  simp only [Bool.and_eq_true] at h
  exact ⟨h.1, h.2.1, h.2.2⟩
end Go.Proofs.Ytmiepnnpccpicaa.Ops

namespace Go.Proofs.Ytmiepnnpccpicaa
open Go.RowKit Go.WideShapes
/-- How elements of a kind lie in cells: how many cells, and what they hold in a world. -/
structure Enc (α : Type) where
  sz : Nat
  pos : 0 < sz
  inn : World → List Value → α → Prop
  len : ∀ {w : World} {cs : List Value} {a : α}, inn w cs a → cs.length = sz
  one : ∀ {w : World} {cs : List Value} {a : α}, inn w cs a → ∀ u ∈ cs, u.oneCell' = true
  keep : ∀ {w w' : World} {cs : List Value} {a : α}, Below w.heap.size w w' → inn w cs a → inn w' cs a
/-- Elements one behind the other. -/
def Enc.rows {α : Type} (E : Enc α) (w : World) : List Value → List α → Prop
  | cs, [] => cs = []
  | cs, a :: l => ∃ c d, cs = c ++ d ∧ E.inn w c a ∧ E.rows w d l
theorem Enc.rows_len {α : Type} {E : Enc α} {w : World} : ∀ {cs : List Value} {l : List α}, E.rows w cs l → cs.length = l.length * E.sz
  | cs, [], h => by rw [show cs = [] from h]; simp
  | cs, a :: l, ⟨c, d, h1, h2, h3⟩ => by
    rw [h1, List.length_append, E.len h2, Enc.rows_len h3, List.length_cons, Nat.succ_mul]
    omega
theorem Enc.rows_keep {α : Type} {E : Enc α} {w w' : World} (hb : Below w.heap.size w w') : ∀ {cs : List Value} {l : List α}, E.rows w cs l → E.rows w' cs l
  | _, [], h => h
  | _, _ :: _, ⟨c, d, h1, h2, h3⟩ => ⟨c, d, h1, E.keep hb h2, Enc.rows_keep hb h3⟩
/-- The cells of one of them. -/
theorem Enc.rows_at {α : Type} {E : Enc α} {w : World} : ∀ {cs : List Value} {l : List α} (k : Nat) (hk : k < l.length), E.rows w cs l → ∃ c, E.inn w c (l[k]'hk) ∧ ∀ j, j < E.sz → cs[k * E.sz + j]? = c[j]?
  | cs, a :: l, 0, _, ⟨c, d, h1, h2, h3⟩ => ⟨c, h2, fun j hj => by rw [h1, Nat.zero_mul, Nat.zero_add, List.getElem?_append_left (by rw [E.len h2]; exact hj)]⟩
  | cs, a :: l, k + 1, hk, ⟨c, d, h1, h2, h3⟩ => by
    obtain ⟨e, h4, h5⟩ := Enc.rows_at k (by simpa using hk) h3
    refine ⟨e, by simpa using h4, fun j hj => ?_⟩
    rw [h1, List.getElem?_append_right (by rw [E.len h2, Nat.succ_mul]; omega), E.len h2, show (k + 1) * E.sz + j - E.sz = k * E.sz + j by rw [Nat.succ_mul]; omega]
    exact h5 j hj
theorem Enc.rows_take {α : Type} {E : Enc α} {w : World} : ∀ {cs : List Value} {l : List α} (k : Nat), E.rows w cs l → E.rows w (cs.take (k * E.sz)) (l.take k)
  | cs, [], k, h => by rw [show cs = [] from h]; simp [Enc.rows]
  | cs, a :: l, 0, _ => by simp [Enc.rows]
  | cs, a :: l, k + 1, ⟨c, d, h1, h2, h3⟩ => by
    refine ⟨c, d.take (k * E.sz), ?_, h2, Enc.rows_take k h3⟩
    rw [h1, List.take_append, E.len h2, List.take_of_length_le (by rw [E.len h2, Nat.succ_mul]; omega), show (k + 1) * E.sz - E.sz = k * E.sz by rw [Nat.succ_mul]; omega]
/-- A slice of them. -/
def Seq {α : Type} (E : Enc α) (w : World) (v : Value) (l : List α) : Prop := ∃ cs, Sees w v E.sz l.length cs ∧ E.rows w cs l
theorem Seq.keeps {α : Type} {E : Enc α} {w w' : World} {v : Value} {l : List α} (h : Seq E w v l) (hb : Below w.heap.size w w') : Seq E w' v l := by
  obtain ⟨cs, h1, h2⟩ := h
  exact ⟨cs, h1.keeps hb, Enc.rows_keep hb h2⟩
theorem Seq.shape {α : Type} {E : Enc α} {w : World} {v : Value} {l : List α} (h : Seq E w v l) : ∃ ao cap, v = .slice ao l.length cap := by
  obtain ⟨cs, h1, _⟩ := h; exact h1.shape
theorem Seq.max {α : Type} {E : Enc α} {w : World} {v : Value} {l : List α} (h : Seq E w v l) : l.length ≤ 9223372036854775807 := by
  obtain ⟨cs, h1, _⟩ := h; exact Sees.max h1
/-- The cells of one of them, in memory. -/
theorem Seq.at {α : Type} {E : Enc α} {w : World} {ao : Option Addr} {m cap : Nat} {l : List α} (h : Seq E w (.slice ao m cap) l) (k : Nat) (hk : k < l.length) :
    ∃ b off c, ao = some ⟨b, off, none⟩ ∧ b < w.heap.size ∧ E.inn w c (l[k]'hk) ∧ ∀ j, j < E.sz → w.cell? ⟨b, off + k * E.sz + j, none⟩ = c[j]? := by
  obtain ⟨cs, h1, h2⟩ := h
  obtain ⟨c, h3, h4⟩ := Enc.rows_at k hk h2
  have hl := Enc.rows_len h2
  have hp := E.pos
  have hkl : k * E.sz + E.sz ≤ l.length * E.sz := by rw [← Nat.succ_mul]; exact Nat.mul_le_mul_right _ hk
  obtain ⟨b, off, e1, e2, e3⟩ := Sees.at h1 (k * E.sz) (by omega)
  refine ⟨b, off, c, e1, e2, h3, fun j hj => ?_⟩
  rw [show off + k * E.sz + j = off + (k * E.sz + j) by omega, e3 _ (by omega)]
  exact h4 j hj
theorem Seq.take {α : Type} {E : Enc α} {w : World} {ao : Option Addr} {n cap : Nat} {l : List α} (h : Seq E w (.slice ao n cap) l) {m : Nat} (hm : m ≤ l.length) : Seq E w (.slice ao m cap) (l.take m) := by
  obtain ⟨cs, ⟨h1, ao', cap', he, h2, h3, h4, h5⟩, h6⟩ := h
  obtain ⟨rfl, rfl, rfl⟩ := Value.slice.inj he
  have hl : (l.take m).length = m := by rw [List.length_take]; omega
  refine ⟨cs.take (m * E.sz), ⟨?_, ao, cap, by rw [hl], by omega, h3, h4, ?_⟩, Enc.rows_take m h6⟩
  · rw [List.length_take, h1, hl]
    exact Nat.min_eq_left (Nat.mul_le_mul_right _ hm)
  · rcases h5 with h5 | ⟨b, off, rfl, hb, hc⟩
    · left; rw [h5]; simp
    · right
      refine ⟨b, off, rfl, hb, fun j u hj => hc j u ?_⟩
      rw [List.getElem?_take] at hj
      split at hj
      · exact hj
      · cases hj
end Go.Proofs.Ytmiepnnpccpicaa

namespace Go.Proofs.Ytmiepnnpccpicaa.Ops
open Go.RowKit Go.WideShapes
def opE : Enc Opn where
  sz := 5
  pos := by decide
  inn w cs o := ∃ v, cs = [.int .u8 (o.k : Int), .int .u32 (o.t : Int), .int .u8 (o.r : Int), v, .int .i64 o.p] ∧ Runs w v o.pl
  len := by rintro w cs o ⟨v, rfl, _⟩; rfl
  one := by
    rintro w cs o ⟨v, rfl, h⟩ u hu
    obtain ⟨ao, cap, rfl⟩ := h.shape
    simp only [List.mem_cons, List.not_mem_nil, or_false] at hu
    rcases hu with rfl | rfl | rfl | rfl | rfl <;> rfl
  keep := by rintro w w' cs o hb ⟨v, rfl, h⟩; exact ⟨v, rfl, h.keeps hb⟩
/-- A slice of operations. -/
abbrev OpL (w : World) (v : Value) (l : List Opn) : Prop := Seq opE w v l
/-- One of them, in memory. -/
theorem opl_at {w : World} {ao : Option Addr} {m cap : Nat} {l : List Opn} (h : OpL w (.slice ao m cap) l) (k : Nat) (hk : k < l.length) :
    ∃ b off v, ao = some ⟨b, off, none⟩ ∧ b < w.heap.size ∧ Runs w v (l[k]'hk).pl ∧ w.cell? ⟨b, off + k * 5, none⟩ = some (.int .u8 ((l[k]'hk).k : Int)) ∧ w.cell? ⟨b, off + k * 5 + 1, none⟩ = some (.int .u32 ((l[k]'hk).t : Int)) ∧ w.cell? ⟨b, off + k * 5 + 2, none⟩ = some (.int .u8 ((l[k]'hk).r : Int)) ∧
      w.cell? ⟨b, off + k * 5 + 3, none⟩ = some v ∧ w.cell? ⟨b, off + k * 5 + 4, none⟩ = some (.int .i64 (l[k]'hk).p) := by
  obtain ⟨b, off, c, h1, h2, ⟨v, rfl, h3⟩, h4⟩ := h.at k hk
  exact ⟨b, off, v, h1, h2, h3, h4 0 (by decide), h4 1 (by decide), h4 2 (by decide), h4 3 (by decide), h4 4 (by decide)⟩
end Go.Proofs.Ytmiepnnpccpicaa.Ops

namespace Go.Proofs.Ytmiepnnpccpicaa.Codes
open Go.RowKit Go.WideShapes Go.Proofs.Ytmiepnnpccpicaa.Place Ops
def zop : Opn := ⟨0, 0, 0, [], 0, by decide, by decide, by decide, by decide⟩
instance : DecidableEq Opn := fun a b => decidable_of_iff (sameB a b = true) (sameB_iff a b)
theorem op_info : (Try.prog.info? 36).map (fun i => (i.zero, i.size, i.bytes)) = some (some (.agg #[.int .u8 0, .int .u32 0, .int .u8 0, .slice none 0 0, .int .i64 0]), 5, 48) := by kernel_rfl
/-- Operations in cells, each place of the call's own. -/
def HoldP (w : World) (base : Nat) : List Value → List Opn → Prop
  | cs, [] => cs = []
  | cs, o :: l => ∃ v d, cs = [.int .u8 (o.k : Int), .int .u32 (o.t : Int), .int .u8 (o.r : Int), v, .int .i64 o.p] ++ d ∧ w.ownsRow base 42 3 v o.pl.length (runs o.pl) ∧ HoldP w base d l
theorem HoldP.rows {w : World} {base : Nat} : ∀ {cs : List Value} {l : List Opn}, HoldP w base cs l → opE.rows w cs l
  | _, [], h => h
  | _, _ :: _, ⟨v, d, h1, h2, h3⟩ => ⟨_, d, h1, ⟨v, rfl, Runs.own h2⟩, HoldP.rows h3⟩
theorem HoldP.keeps {w w' : World} {base : Nat} (hb : Below w.heap.size w w') : ∀ {cs : List Value} {l : List Opn}, HoldP w base cs l → HoldP w' base cs l
  | _, [], h => h
  | _, _ :: _, ⟨v, d, h1, h2, h3⟩ => ⟨v, d, h1, own_stays h2 hb, HoldP.keeps hb h3⟩
theorem HoldP.append {w : World} {base : Nat} : ∀ {cs ds : List Value} {l m : List Opn}, HoldP w base cs l → HoldP w base ds m → HoldP w base (cs ++ ds) (l ++ m)
  | cs, _, [], _, h, h2 => by rw [show cs = [] from h]; exact h2
  | _, ds, _ :: _, _, ⟨v, d, h1, h3, h4⟩, h2 => ⟨v, d ++ ds, by rw [h1, List.append_assoc], h3, HoldP.append h4 h2⟩
theorem HoldP.base {w : World} {b b' : Nat} (hb : b' ≤ b) : ∀ {cs : List Value} {l : List Opn}, HoldP w b cs l → HoldP w b' cs l
  | _, [], h => h
  | _, _ :: _, ⟨v, d, h1, h2, h3⟩ => ⟨v, d, h1, op_base h2 hb, HoldP.base hb h3⟩
theorem HoldP.grown {w w' : World} {base sz n B : Nat} {v : Value} {rs : List Value} (hg : w.grownBy w' v.ownBlock) (hv : w.ownsRow B 36 sz v n rs) : ∀ {cs : List Value} {l : List Opn}, HoldP w base cs l → HoldP w' base cs l
  | _, [], h => h
  | _, _ :: _, ⟨u, d, h1, h2, h3⟩ => by
    refine ⟨u, d, h1, ?_, HoldP.grown hg hv h3⟩
    refine ⟨h2.1, h2.2.imp id fun ⟨g, cap, cur, e1, e2, e3, e4⟩ => ⟨g, cap, cur, e1, e2, ?_, e4⟩⟩
    exact blk_grown hg (own_ne hv e3 (by intro c h; injection h with h1 h2 h3; exact absurd h2 (by decide))) e3
/-- A list of the call's own, its places too. -/
def OwnL (w : World) (base : Nat) (v : Value) (l : List Opn) : Prop := ∃ cs, w.ownsRow base 36 5 v l.length cs ∧ HoldP w base cs l
theorem OwnL.opl {w : World} {base : Nat} {v : Value} {l : List Opn} (h : OwnL w base v l) : OpL w v l := by
  obtain ⟨cs, h1, h2⟩ := h
  exact ⟨cs, Sees.own h1, h2.rows⟩
theorem OwnL.keeps {w w' : World} {base : Nat} {v : Value} {l : List Opn} (h : OwnL w base v l) (hb : Below w.heap.size w w') : OwnL w' base v l := by
  obtain ⟨cs, h1, h2⟩ := h
  exact ⟨cs, own_stays h1 hb, h2.keeps hb⟩
theorem OwnL.nil (w : World) (base : Nat) : OwnL w base (.slice none 0 0) [] := ⟨[], World.ownsRow_nil _ _ _ _, rfl⟩
theorem OwnL.base {w : World} {b b' : Nat} {v : Value} {l : List Opn} (h : OwnL w b v l) (hb : b' ≤ b) : OwnL w b' v l := by
  obtain ⟨cs, h1, h2⟩ := h
  exact ⟨cs, op_base h1 hb, h2.base hb⟩
/-- One more behind a list: what is appended, and to where. -/
theorem OwnL.snoc {W W8 w5 : World} {base m : Nat} {v v5 u : Value} {cs : List Value} {l : List Opn} {o : Opn} (h1 : W.ownsRow base 36 5 v l.length cs) (h2 : HoldP W base cs l) (hb : Below W.heap.size W W8)
    (hu : W8.ownsRow base 42 3 u o.pl.length (runs o.pl)) (g5 : W8.grownBy w5 v.ownBlock) (o5 : w5.ownsRow base 36 5 v5 m (cs ++ [.int .u8 (o.k : Int), .int .u32 (o.t : Int), .int .u8 (o.r : Int), u, .int .i64 o.p])) (hm : m = l.length + 1) : OwnL w5 base v5 (l ++ [o]) := by
  have hx := own_stays h1 hb
  refine ⟨_, by rw [List.length_append, List.length_singleton, ← hm]; exact o5, ?_⟩
  refine HoldP.append (HoldP.grown g5 hx (h2.keeps hb)) ?_
  exact HoldP.grown g5 hx ⟨u, [], rfl, hu, rfl⟩
theorem five_one (o : Opn) (u : Value) (hu : ∃ ao n cap, u = .slice ao n cap) : ∀ x ∈ [Value.int .u8 (o.k : Int), .int .u32 (o.t : Int), .int .u8 (o.r : Int), u, .int .i64 o.p], x.oneCell' = true := by
  obtain ⟨ao, n, cap, rfl⟩ := hu
  intro x hx
  simp only [List.mem_cons, List.not_mem_nil, or_false] at hx
  rcases hx with rfl | rfl | rfl | rfl | rfl <;> rfl
end Go.Proofs.Ytmiepnnpccpicaa.Codes

namespace Go.Proofs.Ytmiepnnpccpicaa.Spans
/-- A span: from a time to a time. -/
structure Sp where
  f : Nat
  t : Nat
  hf : f < 4294967296
  ht : t < 4294967296
theorem Sp.ext' {a b : Sp} (h1 : a.f = b.f) (h2 : a.t = b.t) : a = b := by
  obtain ⟨f, t, _, _⟩ := a; obtain ⟨g, u, _, _⟩ := b
  simp only at h1 h2
  subst h1 h2
  rfl
theorem Sp.eq_iff {a b : Sp} : a = b ↔ a.f = b.f ∧ a.t = b.t := ⟨fun h => by rw [h]; exact ⟨rfl, rfl⟩, fun h => Sp.ext' h.1 h.2⟩
instance : DecidableEq Sp := fun a b => if h : a.f = b.f ∧ a.t = b.t then isTrue (Sp.eq_iff.2 h) else isFalse (fun e => h (Sp.eq_iff.1 e))
/-- May a span be, by itself? -/
def Ok (x : Sp) : Prop := 1 ≤ x.f ∧ x.f ≤ x.t ∧ x.t ≤ 1073741824
instance (x : Sp) : Decidable (Ok x) := inferInstanceAs (Decidable (_ ∧ _))
/-- Has it the time? -/
def In (l : List Sp) (n : Nat) : Prop := ∃ x ∈ l, x.f ≤ n ∧ n ≤ x.t
def inB : List Sp → Nat → Bool
  | [], _ => false
  | x :: l, n => decide (x.f ≤ n ∧ n ≤ x.t) || inB l n
theorem inB_iff : ∀ (l : List Sp) (n : Nat), inB l n = true ↔ In l n
  | [], n => by simp [inB, In]
  | x :: l, n => by
    have ih := inB_iff l n
    unfold In at ih ⊢
    simp [inB, ih]
instance (l : List Sp) (n : Nat) : Decidable (In l n) := decidable_of_iff _ (inB_iff l n)
end Go.Proofs.Ytmiepnnpccpicaa.Spans

namespace Go.Proofs.Ytmiepnnpccpicaa.Clocks
open Go.Proofs.Ytmiepnnpccpicaa.Spans
/-- May a stamp be? -/
def mayI (a : Id) : Prop := 1 ≤ a.t ∧ a.t ≤ 1073741824 ∧ a.r < 8
instance (a : Id) : Decidable (mayI a) := inferInstanceAs (Decidable (_ ∧ _))
theorem list_snoc_ind {α : Type} {P : List α → Prop} (h0 : P []) (h1 : ∀ l a, P l → P (l ++ [a])) (l : List α) : P l := by
  have go : ∀ (n : Nat) (l : List α), l.length = n → P l := by
    intro n
    induction n with
    | zero => intro l h; rw [List.length_eq_zero_iff.1 h]; exact h0
    | succ n ih =>
      intro l h
      rcases List.eq_nil_or_concat l with rfl | ⟨m, x, rfl⟩
      · simp at h
      · rw [List.concat_eq_append] at h ⊢
        exact h1 m x (ih m (by simpa using h))
  exact go l.length l rfl
end Go.Proofs.Ytmiepnnpccpicaa.Clocks

namespace Go.Proofs.Ytmiepnnpccpicaa.Bags
open Ops Stamp
def idO (o : Opn) : Id := ⟨o.t, o.r, o.ht, o.hr⟩
theorem idO_eq {a b : Opn} : idO a = idO b ↔ a.t = b.t ∧ a.r = b.r := by rw [Id.eq_iff]; rfl
/-- Is one's stamp less? -/
def lessO (a b : Opn) : Prop := a.t < b.t ∨ a.t = b.t ∧ a.r < b.r
instance (a b : Opn) : Decidable (lessO a b) := inferInstanceAs (Decidable (_ ∨ _))
theorem lessO_trans {a b c : Opn} (h : lessO a b) (k : lessO b c) : lessO a c := by unfold lessO at *; omega
theorem lessO_ne {a b : Opn} (h : lessO a b) : idO a ≠ idO b := by rw [Ne, idO_eq]; unfold lessO at h; omega
theorem pw_adj : ∀ {l : List Opn}, (∀ k (h : k + 1 < l.length), lessO (l[k]'(by omega)) (l[k + 1]'h)) → l.Pairwise lessO
  | [], _ => .nil
  | [a], _ => List.pairwise_singleton _ _
  | a :: b :: l, h => by
    have ih := pw_adj (l := b :: l) (fun k hk => h (k + 1) (by simpa using hk))
    refine List.Pairwise.cons (fun x hx => ?_) ih
    have h0 : lessO a b := by simpa using h 0 (by simp)
    rcases List.mem_cons.1 hx with rfl | hx
    · exact h0
    · exact lessO_trans h0 ((List.pairwise_cons.1 ih).1 x hx)
/-- A bag that may be. -/
def Bag (l : List Opn) : Prop := l.length ≤ 1024 ∧ (∀ o ∈ l, mayO o = true) ∧ l.Pairwise lessO
instance (l : List Opn) : Decidable (Bag l) := inferInstanceAs (Decidable (_ ∧ _))
def bagB (l : List Opn) : Bool := decide (Bag l)
theorem bagB_iff (l : List Opn) : bagB l = true ↔ Bag l := by simp [bagB]
theorem bagB_no {l : List Opn} (h : ¬ Bag l) : bagB l = false := by simp [bagB, h]
def chkL (l : List Opn) : Int := if bagB l = true then 0 else 8
/-- Each member by its stamp is one. -/
theorem pw_one : ∀ {l : List Opn}, l.Pairwise lessO → ∀ {a b : Opn}, a ∈ l → b ∈ l → idO a = idO b → a = b
  | [], _, _, _, h, _, _ => by simp at h
  | x :: l, hp, a, b, ha, hb, e => by
    have hp' := List.pairwise_cons.1 hp
    rcases List.mem_cons.1 ha with rfl | ha2
    · rcases List.mem_cons.1 hb with rfl | hb2
      · rfl
      · exact absurd e (lessO_ne (hp'.1 _ hb2))
    · rcases List.mem_cons.1 hb with rfl | hb2
      · exact absurd e.symm (lessO_ne (hp'.1 _ ha2))
      · exact pw_one hp'.2 ha2 hb2 e
def findO : List Opn → Id → Option Opn
  | [], _ => none
  | x :: l, a => if idO x = a then some x else findO l a
theorem findO_some : ∀ {l : List Opn} {a : Id} {o : Opn}, findO l a = some o → o ∈ l ∧ idO o = a
  | [], _, _, h => by simp [findO] at h
  | x :: l, a, o, h => by
    unfold findO at h
    by_cases e : idO x = a
    · rw [if_pos e] at h
      cases h
      exact ⟨by simp, e⟩
    · rw [if_neg e] at h
      obtain ⟨h1, h2⟩ := findO_some h
      exact ⟨by simp [h1], h2⟩
theorem findO_none : ∀ {l : List Opn} {a : Id}, findO l a = none ↔ ∀ o ∈ l, idO o ≠ a
  | [], _ => by simp [findO]
  | x :: l, a => by
    unfold findO
    by_cases e : idO x = a
    · rw [if_pos e]; simp [e]
    · rw [if_neg e, findO_none]; simp [e]
theorem findO_mem {l : List Opn} (hp : l.Pairwise lessO) {o : Opn} (h : o ∈ l) : findO l (idO o) = some o := by
  cases hf : findO l (idO o) with
  | none => exact absurd rfl (findO_none.1 hf o h)
  | some x => rw [pw_one hp (findO_some hf).1 h (findO_some hf).2]
def hasO (l : List Opn) (a : Id) : Bool := (findO l a).isSome
theorem hasO_iff {l : List Opn} {a : Id} : hasO l a = true ↔ ∃ o ∈ l, idO o = a := by
  unfold hasO
  cases h : findO l a with
  | none => simp; exact fun o ho => findO_none.1 h o ho
  | some x => simp; exact ⟨x, findO_some h⟩
theorem hasO_no {l : List Opn} {a : Id} : hasO l a = false ↔ ∀ o ∈ l, idO o ≠ a := by
  rw [← findO_none]; unfold hasO; cases findO l a <;> simp
end Go.Proofs.Ytmiepnnpccpicaa.Bags

namespace Go.Proofs.Ytmiepnnpccpicaa.Bags
open Go.RowKit Go.WideShapes Stamp Go.Proofs.Ytmiepnnpccpicaa.Place Ops Codes
/-- Operations of the call's own, and an error. -/
def DoneN (L : List Opn) (x : Int) (w : World) (e : Ending) (w' : World) : Prop := ∃ v, e = .returned (.tuple #[v, .int .i64 x]) ∧ OwnL w' w.heap.size v L ∧ Below w.heap.size w w'
theorem mayO_fits {o : Opn} (h : mayO o = true) : o.pl.length ≤ 64 := ((mayB_iff o.pl).1 (mayO_parts h).2.1).2.1
theorem bag_fits {l : List Opn} (h : Bag l) : l.length ≤ 1024 ∧ ∀ o ∈ l, o.pl.length ≤ 8796093022208 := ⟨h.1, fun o ho => by have := mayO_fits (h.2.1 o ho); omega⟩
end Go.Proofs.Ytmiepnnpccpicaa.Bags

namespace Go.Proofs.Ytmiepnnpccpicaa.Marks
open Ops Stamp Bags Go.Proofs.Ytmiepnnpccpicaa.Place
/-- The last stamp of its place. -/
def tgt (o : Opn) : Id := ⟨(lastV o.pl).1.toNat % 4294967296, (lastV o.pl).2.toNat % 256, Nat.mod_lt _ (by decide), Nat.mod_lt _ (by decide)⟩
theorem last_bounds {l : List Run} (h : mayB l = true) : 1 ≤ (lastV l).1 ∧ (lastV l).1 ≤ 1073741824 ∧ 0 ≤ (lastV l).2 ∧ (lastV l).2 < 8 := by
  have hm := (mayB_iff l).1 h
  obtain ⟨h1, _, hc, _⟩ := hm
  have ho := chain_one hc (k := l.length - 1) (by omega)
  unfold lastV
  rw [if_pos h]
  unfold Place.One at ho
  simp only
  omega
theorem tgt_cells {o : Opn} (h : mayO o = true) : ((tgt o).t : Int) = (lastV o.pl).1 ∧ ((tgt o).r : Int) = (lastV o.pl).2 := by
  have hb := last_bounds (mayO_parts h).2.1
  unfold tgt
  simp only
  omega
/-- A mark's place ends with its own stamp. -/
theorem mark_tgt {o : Opn} (h : mayO o = true) (hk : o.k = 2) : tgt o = idO o := by
  have h3 := (mayO_parts h).2.2
  have hc := tgt_cells h
  unfold kindB kindF at h3
  rw [hk] at h3
  simp only [show ¬ (2 : Nat) = 1 by decide, if_false, if_true, Bool.and_eq_true, decide_eq_true_eq, Prod.mk.injEq] at h3
  refine Id.ext' ?_ ?_
  · show (tgt o).t = o.t; omega
  · show (tgt o).r = o.r; omega
/-- Is a stamp joined? -/
def ended (l : List Opn) (a : Id) : Bool := l.any (fun o => decide (o.k = 4) && decide (tgt o = a))
/-- One goes ahead of another one. -/
def ahead (a b : Opn) : Bool := decide (cmp a.pl b.pl < 0)
/-- How many go ahead of one, at the beginning. -/
def atM (out : List Opn) (x : Opn) : Nat := (out.takeWhile (fun y => ahead y x)).length
def insM (out : List Opn) (x : Opn) : List Opn := out.take (atM out x) ++ [x] ++ out.drop (atM out x)
theorem atM_le (out : List Opn) (x : Opn) : atM out x ≤ out.length := (List.takeWhile_sublist _).length_le
theorem insM_len (out : List Opn) (x : Opn) : (insM out x).length = out.length + 1 := by
  have := atM_le out x
  unfold insM
  simp only [List.length_append, List.length_take, List.length_drop, List.length_cons, List.length_nil]
  omega
def stepM (L : List Opn) (out : List Opn) (x : Opn) : List Opn := if x.k = 2 ∧ ended L (idO x) = false then insM out x else out
def livesM (L l : List Opn) : List Opn := l.foldl (stepM L) []
theorem livesM_snoc (L l : List Opn) (x : Opn) : livesM L (l ++ [x]) = stepM L (livesM L l) x := by unfold livesM; rw [List.foldl_append]; rfl
theorem livesM_le (L : List Opn) : ∀ l : List Opn, (livesM L l).length ≤ l.length := by
  intro l
  induction l using Clocks.list_snoc_ind with
  | h0 => simp [livesM]
  | h1 l x ih =>
    rw [livesM_snoc, List.length_append]
    unfold stepM
    split
    · rw [insM_len]; simp; omega
    · simp; omega
theorem mem_insM {out : List Opn} {x y : Opn} : y ∈ insM out x ↔ y ∈ out ∨ y = x := by
  unfold insM
  simp only [List.mem_append, List.mem_singleton]
  conv => rhs; rw [← List.take_append_drop (atM out x) out]
  rw [List.mem_append]
  constructor
  · rintro ((h | h) | h)
    · exact .inl (.inl h)
    · exact .inr h
    · exact .inl (.inr h)
  · rintro ((h | h) | h)
    · exact .inl (.inl h)
    · exact .inr h
    · exact .inl (.inr h)
theorem mem_livesM {L l : List Opn} {y : Opn} : y ∈ livesM L l ↔ y ∈ l ∧ y.k = 2 ∧ ended L (idO y) = false := by
  induction l using Clocks.list_snoc_ind with
  | h0 => simp [livesM]
  | h1 l x ih =>
    rw [livesM_snoc, List.mem_append, List.mem_singleton]
    unfold stepM
    split
    · rename_i h
      rw [mem_insM, ih]
      constructor
      · rintro (⟨h1, h2⟩ | rfl)
        · exact ⟨.inl h1, h2⟩
        · exact ⟨.inr rfl, h⟩
      · rintro ⟨h1 | rfl, h2⟩
        · exact .inl ⟨h1, h2⟩
        · exact .inr rfl
    · rename_i h
      rw [ih]
      constructor
      · rintro ⟨h1, h2⟩; exact ⟨.inl h1, h2⟩
      · rintro ⟨h1 | rfl, h2⟩
        · exact ⟨h1, h2⟩
        · exact absurd h2 h
def liveL (l : List Opn) : List Opn := if bagB l = true then livesM l l else []
end Go.Proofs.Ytmiepnnpccpicaa.Marks

namespace Go.Proofs.Ytmiepnnpccpicaa.Place
open Go.RowKit Stamp
theorem anyB_may {l : List Run} (h : mayB l = true) : anyB l = true := by unfold anyB; rw [h]; simp
theorem hold_front (P : List Id) (a : Id) (m : List Id) : hold P (P ++ a :: m) = -1 := by
  have := hold_app P [] (a :: m)
  rw [List.append_nil] at this
  rw [this]; rfl
/-- The last stamp, as Last tells it. -/
theorem lastV_of {L : List Run} {P : List Id} {a : Id} (hm : mayB L = true) (h : all L = P ++ [a]) : lastV L = ((a.t : Int), (a.r : Int)) := by
  have hM := (mayB_iff L).1 hm
  have hc := hM.2.2.1
  have hl := last_all hc (by have := hM.1; omega)
  rw [h, List.getLast?_append] at hl
  have hl : a = _ := Option.some.inj hl
  have ho := chain_one hc (k := L.length - 1) (by have := hM.1; omega)
  obtain ⟨n, hn, n1, n2, n3, n4⟩ := ho.nat
  unfold lastV
  rw [if_pos hm]
  have h1 := Id.eq_iff.1 hl
  rw [mk_t (by omega), mk_r (L.getD (L.length - 1) zrun).hr] at h1
  rw [h1.1, h1.2, n3, hn]
  congr 1
  omega
end Go.Proofs.Ytmiepnnpccpicaa.Place

namespace Go.Proofs.Ytmiepnnpccpicaa.Place
open Go.RowKit Stamp
attribute [local go_sem ↓] Go.wp_at_zero Go.wp_at_succ
set_option maxRecDepth 100000 in
set_option maxHeartbeats 4000000 in
theorem pCompare_any {a b : Value} {p q : List Run} {w : World} (ha : Runs w a p) (hb : Runs w b q) :
    Calls Try.prog 21 #[a, b] w fun e w' => e = .returned (.int .i64 (cmp p q)) ∧ Below w.heap.size w w' := by
  have HA := Lib.hid ha
  have HB := Lib.hid hb
  obtain ⟨pb, hpb⟩ : ∃ pb, anyB p = pb := ⟨_, rfl⟩
  obtain ⟨qb, hqb⟩ : ∃ qb, anyB q = qb := ⟨_, rfl⟩
  have A1 : Hid (∀ W : World, Below w.heap.size w W → Calls Try.prog 38 #[a] W fun e w' => e = .returned (.bool pb) ∧ Below W.heap.size W w') := fun W hW => stands_is (HA.out.keeps hW) hpb
  have A2 : Hid (∀ W : World, Below w.heap.size w W → Calls Try.prog 38 #[b] W fun e w' => e = .returned (.bool qb) ∧ Below W.heap.size W w') := fun W hW => stands_is (HB.out.keeps hW) hqb
  have HPB := Lib.hid hpb
  have HQB := Lib.hid hqb
  clear ha hb hpb hqb
  cases pb
  · have hz : cmp p q = 0 := by unfold cmp; rw [if_neg (by rw [HPB.out]; simp)]
    rw [hz]
    clear hz
    go_enter Try.func21, Try.ntmps21
    go_wp2_with fail
    refine (A1.out _ (Below.refl _ _)).mono ?_
    rintro e w1 ⟨rfl, b1⟩
    go_wp2
    go_ret
    exact ⟨rfl, b1⟩
  cases qb
  · have hz : cmp p q = 0 := by unfold cmp; rw [if_neg (by rw [HQB.out]; simp)]
    rw [hz]
    clear hz
    go_enter Try.func21, Try.ntmps21
    go_wp2_with fail
    refine (A1.out _ (Below.refl _ _)).mono ?_
    rintro e w1 ⟨rfl, b1⟩
    have B1 := Lib.hid b1
    clear b1
    go_wp2_with fail
    refine (A2.out _ B1.out).mono ?_
    rintro e w2 ⟨rfl, b2⟩
    have B2 := Lib.hid (bt B1.out b2)
    clear b2
    go_wp2
    go_ret
    exact ⟨rfl, B2.out⟩
  have hz : cmp p q = hold (all p) (all q) := by unfold cmp; rw [if_pos ⟨HPB.out, HQB.out⟩]
  have AP : Hid (∀ W : World, Below w.heap.size w W → Calls Try.prog 39 #[a, b] W (Parted (hold (all p) (all q)) (first (all p) (all q)) W)) := fun W hW => apart_any (HA.out.keeps hW) (HB.out.keeps hW) ((anyB_iff p).1 HPB.out).chain ((anyB_iff q).1 HQB.out).chain
  rw [hz]
  obtain ⟨h0, hh0⟩ : ∃ h0, h0 = hold (all p) (all q) := ⟨_, rfl⟩
  obtain ⟨f0, hf0⟩ : ∃ f0, f0 = first (all p) (all q) := ⟨_, rfl⟩
  rw [← hh0, ← hf0] at AP
  rw [← hh0]
  clear hz hh0 hf0
  go_enter Try.func21, Try.ntmps21
  go_wp2_with fail
  refine (A1.out _ (Below.refl _ _)).mono ?_
  rintro e w1 ⟨rfl, b1⟩
  have B1 := Lib.hid b1
  clear b1
  go_wp2_with fail
  refine (A2.out _ B1.out).mono ?_
  rintro e w2 ⟨rfl, b2⟩
  have B2 := Lib.hid (bt B1.out b2)
  clear b2
  go_wp2_with fail
  refine (AP.out _ B2.out).mono ?_
  rintro e w3 ⟨x, y, rfl, he, hf, b3⟩
  have B3 := Lib.hid (bt B2.out b3)
  clear b3 AP hf A1 A2 B1 B2
  obtain ⟨t1, r1, m1, ht1, hr1, hm1⟩ := x
  obtain ⟨t2, r2, m2, ht2, hr2, hm2⟩ := y
  unfold ends at he
  simp only at he ⊢
  obtain ⟨wl, hwl⟩ : ∃ wl, wl = (w3.alloc (.cells #[.int .u32 (t1 : Int), .int .u8 (r1 : Int), .int .i64 m1] 42)).alloc (.cells #[.int .u32 (t2 : Int), .int .u8 (r2 : Int), .int .i64 m2] 42) := ⟨_, rfl⟩
  have PA : Hid (Tri wl w3.heap.size (.int .u32 (t1 : Int)) (.int .u8 (r1 : Int)) (.int .i64 m1)) := by
    rw [hwl]
    exact (tri_new w3 (.int .u32 (t1 : Int)) (.int .u8 (r1 : Int)) (.int .i64 m1) 42).keeps ((Below.refl _ _).alloc (Nat.le_refl _) _)
  have PB : Hid (Tri wl (w3.heap.size + 1) (.int .u32 (t2 : Int)) (.int .u8 (r2 : Int)) (.int .i64 m2)) := by
    have := tri_new (w3.alloc (.cells #[.int .u32 (t1 : Int), .int .u8 (r1 : Int), .int .i64 m1] 42)) (.int .u32 (t2 : Int)) (.int .u8 (r2 : Int)) (.int .i64 m2) 42
    rw [hwl]
    unfold Hid
    simpa using this
  have BL : Hid (Below w.heap.size w wl) := by rw [hwl]; exact (B3.out.alloc B3.out.size _).alloc (Nat.le_trans B3.out.size (by simp)) _
  by_cases hm1z : m1 = 0
  · rw [if_pos hm1z] at he
    by_cases hm2z : m2 = 0
    · rw [if_pos hm2z] at he
      simp only at he
      subst hm1z hm2z he
      go_wp2
      rw [← hwl]
      go_ret
      exact ⟨rfl, BL.out⟩
    · rw [if_neg hm2z] at he
      simp only at he
      have u1 : (m2 == 0) = false := by simpa using hm2z
      subst hm1z he
      go_wp2
      rw [← hwl]
      go_ret
      exact ⟨rfl, BL.out⟩
  · rw [if_neg hm1z] at he
    have u1 : (m1 == 0) = false := by simpa using hm1z
    by_cases hm2z : m2 = 0
    · rw [if_pos hm2z] at he
      simp only at he
      subst hm2z he
      go_wp2
      rw [← hwl]
      go_ret
      exact ⟨rfl, BL.out⟩
    · rw [if_neg hm2z] at he
      have u2 : (m2 == 0) = false := by simpa using hm2z
      have LS := Lib.hid (less_any t2 r2 t1 r1 ht2 hr2 ht1 hr1)
      have F1 := Lib.hid (firstOf_any t1 r1 m1)
      have F2 := Lib.hid (firstOf_any t2 r2 m2)
      obtain ⟨lb, hlb⟩ : ∃ lb, less t2 r2 t1 r1 = lb := ⟨_, rfl⟩
      rw [hlb] at LS he
      clear hlb hm1z hm2z
      cases lb
      all_goals
        simp only [Bool.false_eq_true, if_false, if_true] at he
        subst he
        go_wp2
        rw [← hwl]
        clear hwl
        go_region_held3 (fun w' => Below wl.heap.size wl w' ∧ w'.cell? ⟨w3.heap.size, 0, none⟩ = some (.int .u32 (t1 : Int)) ∧ w'.cell? ⟨w3.heap.size, 1, none⟩ = some (.int .u8 (r1 : Int)) ∧ w'.cell? ⟨w3.heap.size, 2, none⟩ = some (.int .i64 m1) ∧ w'.cell? ⟨w3.heap.size + 1, 0, none⟩ = some (.int .u32 (t2 : Int)) ∧ w'.cell? ⟨w3.heap.size + 1, 1, none⟩ = some (.int .u8 (r2 : Int)) ∧ w'.cell? ⟨w3.heap.size + 1, 2, none⟩ = some (.int .i64 m2))
          (first | exact keepT2 PA.out PB.out (drew1 _) (Below.refl _ _) | (go_split_ands; exact keepT2 PA.out PB.out (drew1 _) (by assumption)) | (go_split_ands; exact keepT2 PA.out PB.out (by assumption) (by assumption)))
          ((first | (go_at_call 41; (with_reducible refine (firstOf_any _ _ _ _).mono ?_); rintro e w4 ⟨rfl, b4⟩) | (go_at_call 40; (with_reducible refine (LS.out _).mono ?_); rintro e w6 ⟨rfl, b6⟩)))
      all_goals
        go_wp2
        go_ret
        go_split_ands
        exact ⟨rfl, BL.out.trans (Below.mono (by assumption) BL.out.size)⟩
end Go.Proofs.Ytmiepnnpccpicaa.Place

namespace Go.Proofs.Ytmiepnnpccpicaa.Place
open Go.RowKit Stamp
attribute [local go_sem ↓] Go.wp_at_zero Go.wp_at_succ
/-- A run written out. -/
def lr (t r m : Nat) (h : t < 4294967296 ∧ r < 256 ∧ m < 10000) : Run := ⟨t, r, m, h.1, h.2.1, by omega⟩
end Go.Proofs.Ytmiepnnpccpicaa.Place

namespace Go.Proofs.Ytmiepnnpccpicaa.Place
open Go.RowKit Stamp
attribute [local go_sem ↓] Go.wp_at_zero Go.wp_at_succ
theorem cmp_any {p q : List Run} (hp : anyB p = true) (hq : anyB q = true) : cmp p q = hold (all p) (all q) := by
  unfold cmp; rw [if_pos ⟨hp, hq⟩]
end Go.Proofs.Ytmiepnnpccpicaa.Place

namespace Go.Proofs.Ytmiepnnpccpicaa.Ops
open Go.RowKit Stamp Go.Proofs.Ytmiepnnpccpicaa.Place
attribute [local go_sem ↓] Go.wp_at_zero Go.wp_at_succ
attribute [local go_sem] yielded_undef
/-- The last stamp of a place, by its list. -/
theorem lastV_all {l : List Run} (h : mayB l = true) : lastV l = ((((all l).getD ((all l).length - 1) zid).t : Int), (((all l).getD ((all l).length - 1) zid).r : Int)) := by
  have hp := all_pos h
  refine lastV_of (P := (all l).take ((all l).length - 1)) h ?_
  have := List.take_append_drop ((all l).length - 1) (all l)
  rw [List.drop_eq_getElem_cons (by omega), List.drop_eq_nil_iff.2 (by omega)] at this
  rw [List.getD, List.getElem?_eq_getElem (by omega)]
  exact this.symm
end Go.Proofs.Ytmiepnnpccpicaa.Ops

namespace Go.Proofs.Ytmiepnnpccpicaa.Marks
open Ops Stamp Bags Go.Proofs.Ytmiepnnpccpicaa.Place
def pre (a b : Opn) : Prop := cmp a.pl b.pl < 0
theorem cmp_may {a b : Opn} (ha : mayO a = true) (hb : mayO b = true) : cmp a.pl b.pl = Go.Proofs.Ytmiepnnpccpicaa.Place.hold (all a.pl) (all b.pl) := by
  unfold cmp; rw [if_pos ⟨anyB_may (mayO_parts ha).2.1, anyB_may (mayO_parts hb).2.1⟩]
theorem hold_val : ∀ l m : List Id, Go.Proofs.Ytmiepnnpccpicaa.Place.hold l m = -1 ∨ Go.Proofs.Ytmiepnnpccpicaa.Place.hold l m = 0 ∨ Go.Proofs.Ytmiepnnpccpicaa.Place.hold l m = 1 := hold_range
theorem pre_iff {a b : Opn} (ha : mayO a = true) (hb : mayO b = true) : pre a b ↔ Go.Proofs.Ytmiepnnpccpicaa.Place.hold (all a.pl) (all b.pl) = -1 := by
  unfold pre
  rw [cmp_may ha hb]
  have := hold_val (all a.pl) (all b.pl)
  omega
theorem pre_trans {a b c : Opn} (ha : mayO a = true) (hb : mayO b = true) (hc : mayO c = true) (h : pre a b) (k : pre b c) : pre a c := by
  rw [pre_iff ha hb] at h
  rw [pre_iff hb hc] at k
  rw [pre_iff ha hc]
  exact hold_trans _ _ _ h k
theorem pre_irrefl {a : Opn} (ha : mayO a = true) : ¬ pre a a := by
  rw [pre_iff ha ha, (hold_eq _ _).2 rfl]; decide
theorem pre_asymm {a b : Opn} (ha : mayO a = true) (hb : mayO b = true) (h : pre a b) : ¬ pre b a := fun k => pre_irrefl ha (pre_trans ha hb ha h k)
/-- Marks of unlike stamps have unlike places. -/
theorem mark_ne {a b : Opn} (ha : mayO a = true) (hb : mayO b = true) (ka : a.k = 2) (kb : b.k = 2) (h : idO a ≠ idO b) : pre a b ∨ pre b a := by
  rw [pre_iff ha hb, pre_iff hb ha, hold_neg (all a.pl) (all b.pl)]
  have h0 : Go.Proofs.Ytmiepnnpccpicaa.Place.hold (all a.pl) (all b.pl) ≠ 0 := fun e => by
    have ma := (mayB_iff _).1 (mayO_parts ha).2.1
    have mb := (mayB_iff _).1 (mayO_parts hb).2.1
    have e2 := (hold_same ma.2.2.1 mb.2.2.1).1 e
    apply h
    rw [← mark_tgt ha ka, ← mark_tgt hb kb]
    unfold tgt
    simp only [e2]
  have := hold_val (all a.pl) (all b.pl)
  omega
theorem insM_nil (x : Opn) : insM [] x = [x] := rfl
theorem insM_cons (y : Opn) (out : List Opn) (x : Opn) : insM (y :: out) x = if ahead y x = true then y :: insM out x else x :: y :: out := by
  unfold insM atM
  by_cases h : ahead y x = true
  · rw [if_pos h, List.takeWhile_cons_of_pos (by simpa using h)]; simp
  · rw [if_neg h, List.takeWhile_cons_of_neg (by simpa using h)]; simp
theorem ahead_iff {a b : Opn} : ahead a b = true ↔ pre a b := by unfold ahead pre; exact decide_eq_true_iff
theorem ins_sorted {x : Opn} (hx : mayO x = true) (kx : x.k = 2) : ∀ {out : List Opn}, out.Pairwise pre → (∀ y ∈ out, mayO y = true ∧ y.k = 2) → (∀ y ∈ out, idO y ≠ idO x) → (insM out x).Pairwise pre
  | [], _, _, _ => by rw [insM_nil]; exact List.pairwise_singleton _ _
  | y :: out, hs, hm, hne => by
    have hs' := List.pairwise_cons.1 hs
    have hy := hm y (by simp)
    rw [insM_cons]
    by_cases h : ahead y x = true
    · rw [if_pos h]
      refine List.Pairwise.cons (fun z hz => ?_) (ins_sorted hx kx hs'.2 (fun z hz => hm z (by simp [hz])) (fun z hz => hne z (by simp [hz])))
      rcases mem_insM.1 hz with hz | rfl
      · exact hs'.1 z hz
      · exact ahead_iff.1 h
    · rw [if_neg h]
      have hxy : pre x y := by
        rcases mark_ne hy.1 hx hy.2 kx (hne y (by simp)) with h1 | h1
        · exact absurd (ahead_iff.2 h1) h
        · exact h1
      refine List.Pairwise.cons (fun z hz => ?_) hs
      rcases List.mem_cons.1 hz with rfl | hz
      · exact hxy
      · exact pre_trans hx hy.1 (hm z (by simp [hz])).1 hxy (hs'.1 z hz)
theorem lives_sorted {L : List Opn} : ∀ {l : List Opn}, (∀ o ∈ l, mayO o = true) → l.Pairwise lessO → (livesM L l).Pairwise pre := by
  intro l
  induction l using Clocks.list_snoc_ind with
  | h0 => intro _ _; exact .nil
  | h1 l x ih =>
    intro hm hp
    have hp' := List.pairwise_append.1 hp
    have ih' := ih (fun o ho => hm o (by simp [ho])) hp'.1
    rw [livesM_snoc]
    unfold stepM
    split
    · rename_i h
      refine ins_sorted (hm x (by simp)) h.1 ih' (fun y hy => ?_) (fun y hy => ?_)
      · have := mem_livesM.1 hy; exact ⟨hm y (by simp [this.1]), this.2.1⟩
      · have := mem_livesM.1 hy; exact lessO_ne (hp'.2.2 y this.1 x (by simp))
    · exact ih'
theorem sorted_ext : ∀ {l m : List Opn}, (∀ x ∈ l, mayO x = true) → (∀ x ∈ m, mayO x = true) → l.Pairwise pre → m.Pairwise pre → (∀ x, x ∈ l ↔ x ∈ m) → l = m
  | [], [], _, _, _, _, _ => rfl
  | [], y :: m, _, _, _, _, h => by have := (h y).2 (by simp); simp at this
  | x :: l, [], _, _, _, _, h => by have := (h x).1 (by simp); simp at this
  | x :: l, y :: m, al, am, hl, hm, h => by
    have hl' := List.pairwise_cons.1 hl
    have hm' := List.pairwise_cons.1 hm
    have e : x = y := by
      rcases List.mem_cons.1 ((h x).1 (by simp)) with e | hx
      · exact e
      · rcases List.mem_cons.1 ((h y).2 (by simp)) with e | hy
        · exact e.symm
        · exact absurd (hm'.1 x hx) (pre_asymm (al x (by simp)) (am y (by simp)) (hl'.1 y hy))
    subst e
    rw [sorted_ext (fun z hz => al z (by simp [hz])) (fun z hz => am z (by simp [hz])) hl'.2 hm'.2 (fun z => by
      constructor
      · intro hz
        rcases List.mem_cons.1 ((h z).1 (by simp [hz])) with rfl | hz'
        · exact absurd (hl'.1 z hz) (pre_irrefl (al z (by simp)))
        · exact hz'
      · intro hz
        rcases List.mem_cons.1 ((h z).2 (by simp [hz])) with rfl | hz'
        · exact absurd (hm'.1 z hz) (pre_irrefl (al z (by simp)))
        · exact hz')]
theorem lives_may {L l : List Opn} (hm : ∀ o ∈ l, mayO o = true) : ∀ x ∈ livesM L l, mayO x = true := fun x hx => hm x (mem_livesM.1 hx).1
/-- The live marks are known by which they are. -/
theorem lives_ext {l m : List Opn} (hl : Bag l) (ha : ∀ x ∈ m, mayO x = true) (hs : m.Pairwise pre) (h : ∀ y, y ∈ m ↔ y ∈ l ∧ y.k = 2 ∧ ended l (idO y) = false) : livesM l l = m :=
  sorted_ext (lives_may hl.2.1) ha (lives_sorted hl.2.1 hl.2.2) hs (fun y => mem_livesM.trans (h y).symm)
end Go.Proofs.Ytmiepnnpccpicaa.Marks

namespace Go.Proofs.Ytmiepnnpccpicaa.Homes
open Ops Stamp Bags Marks Go.Proofs.Ytmiepnnpccpicaa.Place
/-- One mark's place is not behind a place. -/
def notBehind (o : Opn) (p : List Run) : Bool := decide (Go.Proofs.Ytmiepnnpccpicaa.Place.hold (all o.pl) (all p) ≤ 0)
/-- The home of a place, by live marks in order. -/
def homeM (live : List Opn) (p : List Run) : Id := live.foldl (fun s o => if notBehind o p = true then idO o else s) zid
/-- All sections. -/
def sectsM (live : List Opn) : List Id := zid :: live.map idO
theorem sectsM_len (live : List Opn) : (sectsM live).length = live.length + 1 := by simp [sectsM]
/-- The place of a section among all, or how many there are. -/
def whereN (live : List Opn) (s : Id) : Nat := (sectsM live).findIdx (fun x => decide (x = s))
def whereM (live : List Opn) (s : Id) : Int := if whereN live s < live.length + 1 then (whereN live s : Int) else -1
/-- Where a section begins that is at a place among all. -/
def beginM (live : List Opn) (at' : Int) : List Run := if 1 ≤ at' ∧ at' ≤ live.length then (live.getD (at' - 1).toNat ⟨0, 0, 0, [], 0, by decide, by decide, by decide, by decide⟩).pl else []
def homeL (l : List Opn) (p : List Run) : Id := if (bagB l && anyB p) = true then homeM (livesM l l) p else zid
def homeE (l : List Opn) (p : List Run) : Int := if (bagB l && anyB p) = true then 0 else 8
def fromL (l : List Opn) (s : Id) : List Run := if bagB l = true ∧ 0 ≤ whereM (livesM l l) s then beginM (livesM l l) (whereM (livesM l l) s) else []
def toL (l : List Opn) (s : Id) : List Run := if bagB l = true ∧ 0 ≤ whereM (livesM l l) s then beginM (livesM l l) (whereM (livesM l l) s + 1) else []
def spanE (l : List Opn) (s : Id) : Int := if bagB l = true then (if 0 ≤ whereM (livesM l l) s then 0 else 130) else 8
end Go.Proofs.Ytmiepnnpccpicaa.Homes

namespace Go.Proofs.Ytmiepnnpccpicaa.Homes
open Ops Stamp Bags Marks Go.Proofs.Ytmiepnnpccpicaa.Place
/-- Live marks: in order, of stamps of their own. -/
structure Liv (live : List Opn) : Prop where
  may : ∀ o ∈ live, mayO o = true ∧ o.k = 2
  srt : live.Pairwise pre
  one : live.Pairwise (fun a b => idO a ≠ idO b)
theorem Liv.tail {a : Opn} {live : List Opn} (h : Liv (a :: live)) : Liv live :=
  ⟨fun o ho => h.may o (by simp [ho]), (List.pairwise_cons.1 h.srt).2, (List.pairwise_cons.1 h.one).2⟩
theorem liv_bag {l : List Opn} (h : Bag l) : Liv (livesM l l) := by
  have hs := lives_sorted (L := l) h.2.1 h.2.2
  refine ⟨fun o ho => ⟨h.2.1 o (mem_livesM.1 ho).1, (mem_livesM.1 ho).2.1⟩, hs, ?_⟩
  refine List.Pairwise.imp_of_mem ?_ hs
  intro a b ha hb hp e
  have h1 := findO_mem h.2.2 (mem_livesM.1 ha).1
  have h2 := findO_mem h.2.2 (mem_livesM.1 hb).1
  rw [e, h2] at h1
  injection h1 with h1
  subst h1
  exact pre_irrefl (h.2.1 _ (mem_livesM.1 ha).1) hp
theorem nb_iff0 {o : Opn} {p : List Run} : notBehind o p = true ↔ Go.Proofs.Ytmiepnnpccpicaa.Place.hold (all o.pl) (all p) ≤ 0 := by unfold notBehind; exact decide_eq_true_iff
theorem nb_mono {a b : Opn} {p : List Run} (ha : mayO a = true) (hb : mayO b = true) (h : pre a b) (hp : notBehind b p = true) : notBehind a p = true := by
  rw [nb_iff0] at hp ⊢
  rw [pre_iff ha hb] at h
  rcases hold_range (all b.pl) (all p) with h1 | h1 | h1
  · have := hold_trans _ _ _ h h1; omega
  · rw [← (hold_eq _ _).1 h1, h]; decide
  · omega
/-- How many marks are not behind a place. -/
def cntM (live : List Opn) (p : List Run) : Nat := (live.takeWhile (fun o => notBehind o p)).length
theorem cntM_le (live : List Opn) (p : List Run) : cntM live p ≤ live.length := (List.takeWhile_sublist _).length_le
theorem cntM_yes {a : Opn} {live : List Opn} {p : List Run} (h : notBehind a p = true) : cntM (a :: live) p = cntM live p + 1 := by
  unfold cntM; rw [List.takeWhile_cons_of_pos (by simpa using h)]; rfl
theorem cntM_no {a : Opn} {live : List Opn} {p : List Run} (h : notBehind a p = false) : cntM (a :: live) p = 0 := by
  unfold cntM; rw [List.takeWhile_cons_of_neg (by simpa using h)]; rfl
theorem nb_iff {p : List Run} : ∀ {live : List Opn}, Liv live → ∀ (i : Nat) (hi : i < live.length), notBehind (live[i]'hi) p = true ↔ i < cntM live p
  | [], _, i, hi => by simp at hi
  | a :: live, h, i, hi => by
    by_cases ha : notBehind a p = true
    · rw [cntM_yes ha]
      cases i with
      | zero => simp [ha]
      | succ i =>
        have := nb_iff (p := p) h.tail i (by simpa using hi)
        simp only [List.getElem_cons_succ]
        rw [this]
        omega
    · rw [cntM_no (by simpa using ha)]
      constructor
      · intro hb
        exfalso
        apply ha
        cases i with
        | zero => exact hb
        | succ i =>
          have hm := List.getElem_mem (l := live) (n := i) (by simpa using hi)
          exact nb_mono (h.may a (by simp)).1 (h.may _ (by simp [hm])).1 ((List.pairwise_cons.1 h.srt).1 _ hm) hb
      · intro h0; omega
theorem cnt_is {p : List Run} {live : List Opn} (h : Liv live) {k : Nat} (hk : k ≤ live.length) (h1 : ∀ (i : Nat) (hi : i < live.length), notBehind (live[i]'hi) p = true ↔ i < k) : cntM live p = k := by
  have hc := cntM_le live p
  rcases Nat.lt_trichotomy (cntM live p) k with hlt | he | hgt
  · have := (nb_iff (p := p) h (cntM live p) (by omega)).1 ((h1 _ (by omega)).2 hlt)
    omega
  · exact he
  · have := (h1 k (by omega)).1 ((nb_iff (p := p) h k (by omega)).2 hgt)
    omega
theorem fold_home {p : List Run} : ∀ {live : List Opn} (s : Id), Liv live → live.foldl (fun s o => if notBehind o p = true then idO o else s) s = (s :: live.map idO).getD (cntM live p) zid
  | [], s, _ => rfl
  | a :: live, s, h => by
    rw [List.foldl_cons]
    by_cases ha : notBehind a p = true
    · rw [if_pos ha, fold_home _ h.tail, cntM_yes ha]
      rfl
    · rw [if_neg ha, fold_home _ h.tail, cntM_no (by simpa using ha)]
      have : cntM live p = 0 := by
        refine cnt_is h.tail (Nat.zero_le _) (fun i hi => ?_)
        have := nb_iff (p := p) h (i + 1) (by simpa using hi)
        rw [cntM_no (by simpa using ha)] at this
        simp only [List.getElem_cons_succ] at this
        rw [this]
        omega
      rw [this]
      rfl
theorem homeM_is {p : List Run} {live : List Opn} (h : Liv live) : homeM live p = (sectsM live).getD (cntM live p) zid := fold_home zid h
theorem id_ne_zid {o : Opn} (h : mayO o = true) : idO o ≠ zid := fun e => by
  have := (mayO_parts h).1
  have ht : o.t = 0 := congrArg Id.t e
  rw [ht] at this
  simp [may] at this
theorem sects_one {live : List Opn} (h : Liv live) : (sectsM live).Pairwise (fun a b => a ≠ b) := by
  unfold sectsM
  refine List.Pairwise.cons (fun a ha => ?_) ?_
  · obtain ⟨o, ho, rfl⟩ := List.mem_map.1 ha
    exact fun e => id_ne_zid (h.may o ho).1 e.symm
  · rw [List.pairwise_map]; exact h.one
theorem where_at {live : List Opn} (h : Liv live) {i : Nat} (hi : i < live.length + 1) : whereN live ((sectsM live).getD i zid) = i := by
  have hi' : i < (sectsM live).length := by rw [sectsM_len]; exact hi
  rw [show (sectsM live).getD i zid = (sectsM live)[i] by rw [List.getD_eq_getElem?_getD, List.getElem?_eq_getElem hi']; rfl]
  unfold whereN
  rw [List.findIdx_eq hi']
  refine ⟨by simp, fun j hj => ?_⟩
  have := List.pairwise_iff_getElem.1 (sects_one h) j i (by omega) hi' hj
  simpa using this
theorem where_of {live : List Opn} {s : Id} (h : whereN live s < live.length + 1) : (sectsM live).getD (whereN live s) zid = s := by
  have hi' : whereN live s < (sectsM live).length := by rw [sectsM_len]; exact h
  rw [show (sectsM live).getD (whereN live s) zid = (sectsM live)[whereN live s] by rw [List.getD_eq_getElem?_getD, List.getElem?_eq_getElem hi']; rfl]
  have := List.findIdx_getElem (p := fun x => decide (x = s)) (xs := sectsM live) (w := hi')
  exact of_decide_eq_true this
theorem sects_inj {live : List Opn} (h : Liv live) {i j : Nat} (hi : i < live.length + 1) (hj : j < live.length + 1) (e : (sectsM live).getD i zid = (sectsM live).getD j zid) : i = j := by
  rw [← where_at h hi, e, where_at h hj]
theorem whereM_at {live : List Opn} (h : Liv live) {i : Nat} (hi : i < live.length + 1) : whereM live ((sectsM live).getD i zid) = i := by
  unfold whereM
  rw [where_at h hi, if_pos hi]
theorem begin_zero (live : List Opn) : beginM live 0 = [] := rfl
theorem begin_succ {live : List Opn} {i : Nat} (hi : i < live.length) : beginM live ((i : Int) + 1) = (live[i]'hi).pl := by
  unfold beginM
  rw [if_pos (by omega), show ((i : Int) + 1 - 1).toNat = i by omega, List.getD_eq_getElem?_getD, List.getElem?_eq_getElem hi]
  rfl
theorem begin_end (live : List Opn) : beginM live ((live.length : Int) + 1) = [] := by
  unfold beginM
  rw [if_neg (by omega)]
/-- A place stands in the span of one section alone, its home. -/
theorem span_home {live : List Opn} (h : Liv live) {p : List Run} (hp : anyB p = true) {i : Nat} (hi : i < live.length + 1) :
    (decide (cmp (beginM live i) p ≤ 0) && (decide ((beginM live ((i : Int) + 1)).length = 0) || decide (cmp p (beginM live ((i : Int) + 1)) < 0))) = decide (i = cntM live p) := by
  have hc := cntM_le live p
  have e1 : cmp (beginM live i) p ≤ 0 ↔ i ≤ cntM live p := by
    cases i with
    | zero =>
      have : cmp (beginM live ((0 : Nat) : Int)) p = Go.Proofs.Ytmiepnnpccpicaa.Place.hold [] (all p) := by
        show cmp (beginM live 0) p = _
        rw [begin_zero]; unfold cmp; rw [if_pos ⟨rfl, hp⟩]; rfl
      rw [this]
      have h2 : Go.Proofs.Ytmiepnnpccpicaa.Place.hold [] (all p) ≤ 0 := by cases all p <;> simp [Go.Proofs.Ytmiepnnpccpicaa.Place.hold]
      simp [h2]
    | succ i =>
      have hi' : i < live.length := by omega
      have hm := (h.may _ (List.getElem_mem hi')).1
      rw [show ((i + 1 : Nat) : Int) = (i : Int) + 1 by omega, begin_succ hi']
      unfold cmp
      rw [if_pos ⟨anyB_may (mayO_parts hm).2.1, hp⟩, ← nb_iff0, nb_iff h i hi']
      omega
  have e2 : ((beginM live ((i : Int) + 1)).length = 0 ∨ cmp p (beginM live ((i : Int) + 1)) < 0) ↔ cntM live p ≤ i := by
    by_cases hi' : i < live.length
    · have hm := (h.may _ (List.getElem_mem hi')).1
      have hb := (mayO_parts hm).2.1
      rw [begin_succ hi']
      have h1 : ¬ ((live[i]'hi').pl.length = 0) := by have := ((mayB_iff _).1 hb).1; omega
      unfold cmp
      rw [if_pos ⟨hp, anyB_may hb⟩]
      have h3 := nb_iff (p := p) h i hi'
      rw [nb_iff0] at h3
      have h4 := hold_neg (all (live[i]'hi').pl) (all p)
      constructor
      · rintro (h5 | h5)
        · exact absurd h5 h1
        · exact Nat.le_of_not_lt (fun h6 => by have := h3.2 h6; omega)
      · intro h5
        right
        have h6 : ¬ Go.Proofs.Ytmiepnnpccpicaa.Place.hold (all (live[i]'hi').pl) (all p) ≤ 0 := fun h7 => by have := h3.1 h7; omega
        omega
    · obtain rfl : i = live.length := by omega
      rw [begin_end]
      simp [hc]
  rw [Bool.eq_iff_iff, Bool.and_eq_true, Bool.or_eq_true, decide_eq_true_iff, decide_eq_true_iff, decide_eq_true_iff, decide_eq_true_iff, e1, e2]
  omega
end Go.Proofs.Ytmiepnnpccpicaa.Homes

namespace Go.Proofs.Ytmiepnnpccpicaa.Covers
open Ops Stamp Bags Marks Homes Go.Proofs.Ytmiepnnpccpicaa.Place
/-- The first so many stamps of a place, as a place. -/
def cutN : List Run → Nat → List Run
  | [], _ => []
  | x :: p, k => if k = 0 then [] else if x.m ≤ (k : Int) then x :: cutN p (k - x.m.toNat) else [mkRun x.t x.r (k : Int)]
theorem cutN_zero (p : List Run) : cutN p 0 = [] := by cases p <;> rfl
theorem up_take (t r : Nat) : ∀ (n k : Nat), k ≤ n → (up t r n).take k = up t r k := fun n k h => by
  obtain ⟨m, rfl⟩ : ∃ m, n = k + m := ⟨n - k, by omega⟩
  rw [up_add, List.take_append_of_le_length (by rw [up_len]; exact Nat.le_refl _), List.take_of_length_le (by rw [up_len]; exact Nat.le_refl _)]
theorem all_cutN : ∀ {p : List Run} {k : Nat}, Chain p → all (cutN p k) = (all p).take k
  | [], k, _ => by simp [cutN, all]
  | x :: p, k, h => by
    by_cases h0 : k = 0
    · subst h0; simp [cutN_zero, all]
    obtain ⟨n, hn, n1, n2, n3, n4⟩ := h.head.nat
    unfold cutN
    rw [if_neg h0]
    by_cases h1 : x.m ≤ (k : Int)
    · rw [if_pos h1]
      show up x.t x.r x.m.toNat ++ all (cutN p (k - x.m.toNat)) = (up x.t x.r x.m.toNat ++ all p).take k
      rw [all_cutN h.tail, n3, List.take_append, up_len, List.take_of_length_le (l := up x.t x.r n) (by rw [up_len]; omega)]
    · rw [if_neg h1]
      have hx := x.ht
      have hr := x.hr
      show up (mkRun x.t x.r k).t (mkRun x.t x.r k).r (mkRun x.t x.r k).m.toNat ++ [] = (up x.t x.r x.m.toNat ++ all p).take k
      rw [mkRun_t hx, mkRun_r hr, mkRun_m (by omega), List.append_nil, Int.toNat_natCast, n3, List.take_append_of_le_length (by rw [up_len]; omega), up_take _ _ _ _ (by omega)]
theorem cutN_head : ∀ {p : List Run} {k : Nat} {z : Run}, (cutN p k).head? = some z → ∃ y q, p = y :: q ∧ z.t = y.t ∧ z.r = y.r
  | [], k, z, h => by simp [cutN] at h
  | x :: p, k, z, h => by
    refine ⟨x, p, rfl, ?_⟩
    unfold cutN at h
    split at h
    · simp at h
    · split at h
      · simp only [List.head?_cons, Option.some.injEq] at h
        subst h
        exact ⟨rfl, rfl⟩
      · simp only [List.head?_cons, Option.some.injEq] at h
        subst h
        exact ⟨mkRun_t x.ht, mkRun_r x.hr⟩
theorem chain_cons {x : Run} {p : List Run} (h1 : Go.Proofs.Ytmiepnnpccpicaa.Place.One x) (h2 : Chain p) (h3 : ∀ y, p.head? = some y → Go.Proofs.Ytmiepnnpccpicaa.Place.Next x y) : Chain (x :: p) := by
  cases p with
  | nil => exact h1
  | cons y p => exact ⟨h1, h3 y rfl, h2⟩
theorem chain_cutN : ∀ {p : List Run} {k : Nat}, Chain p → Chain (cutN p k)
  | [], k, _ => trivial
  | x :: p, k, h => by
    unfold cutN
    split
    · trivial
    · split
      · refine chain_cons h.head (chain_cutN h.tail) (fun z hz => ?_)
        obtain ⟨y, q, rfl, e1, e2⟩ := cutN_head hz
        have := h.2.1
        unfold Go.Proofs.Ytmiepnnpccpicaa.Place.Next at this ⊢
        rw [e1, e2]
        exact this
      · rename_i h0 h1
        obtain ⟨o1, o2, o3, o4, o5, o6⟩ := h.head
        show Go.Proofs.Ytmiepnnpccpicaa.Place.One _
        unfold Go.Proofs.Ytmiepnnpccpicaa.Place.One
        rw [mkRun_t x.ht, mkRun_r x.hr, mkRun_m (by omega)]
        omega
theorem cutN_len : ∀ (p : List Run) (k : Nat), (cutN p k).length ≤ p.length
  | [], _ => by simp [cutN]
  | x :: p, k => by
    unfold cutN
    split
    · simp
    · split
      · have := cutN_len p (k - x.m.toNat)
        simpa using this
      · simp
theorem may_cutN {p : List Run} {k : Nat} (h : mayB p = true) (hk : 1 ≤ k) : mayB (cutN p k) = true := by
  have hM := (mayB_iff p).1 h
  have hc := chain_cutN (k := k) hM.2.2.1
  have hl := cutN_len p k
  refine (mayB_iff _).2 ⟨?_, Nat.le_trans hl hM.2.1, hc, ?_⟩
  · cases p with
    | nil => have := hM.1; simp at this
    | cons x p =>
      unfold cutN
      rw [if_neg (by omega)]
      split <;> simp
  · have h1 := long_len hc
    have h2 := long_len hM.2.2.1
    have h3 := hM.2.2.2
    rw [all_cutN hM.2.2.1, List.length_take] at h1
    omega
theorem any_cutN {p : List Run} {k : Nat} (h : mayB p = true) : anyB (cutN p k) = true := by
  by_cases hk : k = 0
  · subst hk; rw [cutN_zero]; rfl
  · exact anyB_may (may_cutN h (by omega))
theorem cutN_cutN {p : List Run} {j k : Nat} (h : Chain p) (hj : j ≤ k) : cutN (cutN p k) j = cutN p j := by
  refine all_inj (chain_cutN (chain_cutN h)) (chain_cutN h) ?_
  rw [all_cutN (chain_cutN h), all_cutN h, all_cutN h, List.take_take, Nat.min_eq_left hj]
theorem cutN_all {p : List Run} (h : Chain p) : cutN p (all p).length = p := by
  refine all_inj (chain_cutN h) h ?_
  rw [all_cutN h, List.take_length]
/-- The last stamp of the first ones. -/
theorem last_cutN {p : List Run} {k : Nat} (h : mayB p = true) (hk : k < (all p).length) : lastV (cutN p (k + 1)) = ((((all p).getD k zid).t : Int), (((all p).getD k zid).r : Int)) := by
  have hM := (mayB_iff p).1 h
  refine lastV_of (P := (all p).take k) (may_cutN h (by omega)) ?_
  rw [all_cutN hM.2.2.1, List.take_succ_eq_append_getElem hk, getD_id hk]
where
  getD_id {l : List Id} {j : Nat} (h : j < l.length) : l.getD j zid = l[j]'h := by rw [List.getD_eq_getElem?_getD, List.getElem?_eq_getElem h]; rfl
/-- On how many stamps of its place one stands. -/
def manyN (o : Opn) : Nat := (all o.pl).length - offs o
/-- The content that is homed in a section, by live marks. -/
def inL (l live : List Opn) (s : Id) : List Opn := l.filter (fun o => contB o && decide (homeM live o.pl = s))
/-- Does content that is homed in a section count? -/
def isB (l live : List Opn) (s : Id) (o : Opn) : Bool := (List.range (manyN o)).all (fun k => !decide (homeM live (cutN o.pl (k + 1)) = s) || hasO l ((all o.pl).getD k zid))
theorem isB_iff {l live : List Opn} {s : Id} {o : Opn} : isB l live s o = true ↔ ∀ k, k < manyN o → homeM live (cutN o.pl (k + 1)) = s → hasO l ((all o.pl).getD k zid) = true := by
  unfold isB
  rw [List.all_eq_true]
  constructor
  · intro h k hk e
    have := h k (List.mem_range.2 hk)
    simpa [e] using this
  · intro h k hk
    by_cases e : homeM live (cutN o.pl (k + 1)) = s
    · rw [h k (List.mem_range.1 hk) e, Bool.or_true]
    · simp [e]
def countL (l live : List Opn) (s : Id) : List Opn := (inL l live s).filter (isB l live s)
def countsL (l : List Opn) (s : Id) : List Opn := if spanE l s = 0 then countL l (livesM l l) s else []
theorem spanE_zero {l : List Opn} {s : Id} : spanE l s = 0 ↔ Bag l ∧ 0 ≤ whereM (livesM l l) s := by
  unfold spanE
  by_cases h : bagB l = true
  · rw [if_pos h]
    by_cases h2 : 0 ≤ whereM (livesM l l) s
    · simp [h2, (bagB_iff l).1 h]
    · simp [h2]
  · have : ¬ Bag l := fun hb => h ((bagB_iff l).2 hb)
    simp [h, this]
theorem spanE_cases (l : List Opn) (s : Id) : spanE l s = 0 ∨ spanE l s = 8 ∨ spanE l s = 130 := by
  unfold spanE
  split
  · split
    · exact .inl rfl
    · exact .inr (.inr rfl)
  · exact .inr (.inl rfl)
theorem mem_inL {l live : List Opn} {s : Id} {o : Opn} : o ∈ inL l live s ↔ o ∈ l ∧ contB o = true ∧ homeM live o.pl = s := by
  unfold inL; rw [List.mem_filter]; simp
theorem mem_countL {l live : List Opn} {s : Id} {o : Opn} : o ∈ countL l live s ↔ (o ∈ l ∧ contB o = true ∧ homeM live o.pl = s) ∧ isB l live s o = true := by
  unfold countL; rw [List.mem_filter, mem_inL]
theorem inL_sub (l live : List Opn) (s : Id) : (inL l live s).Sublist l := List.filter_sublist
theorem countL_sub (l live : List Opn) (s : Id) : (countL l live s).Sublist l := List.filter_sublist.trans (inL_sub l live s)
end Go.Proofs.Ytmiepnnpccpicaa.Covers

namespace Go.Proofs.Ytmiepnnpccpicaa.Homes
open Ops Stamp Bags Marks Go.Proofs.Ytmiepnnpccpicaa.Place
theorem span_at {l : List Opn} (hb : Bag l) {i : Nat} (hi : i < (livesM l l).length + 1) :
    fromL l ((sectsM (livesM l l)).getD i zid) = beginM (livesM l l) i ∧ toL l ((sectsM (livesM l l)).getD i zid) = beginM (livesM l l) ((i : Int) + 1) ∧ spanE l ((sectsM (livesM l l)).getD i zid) = 0 := by
  have hw := whereM_at (liv_bag hb) hi
  unfold fromL toL spanE
  rw [hw, (bagB_iff l).2 hb]
  rw [if_pos ⟨rfl, by omega⟩, if_pos ⟨rfl, by omega⟩, if_pos rfl, if_pos (by omega)]
  exact ⟨rfl, rfl, rfl⟩
theorem home_at {live : List Opn} (h : Liv live) {p : List Run} {i : Nat} (hi : i < live.length + 1) : (sectsM live).getD i zid = homeM live p ↔ i = cntM live p := by
  rw [homeM_is h]
  constructor
  · intro e
    exact sects_inj h hi (by have := cntM_le live p; omega) e
  · rintro rfl; rfl
end Go.Proofs.Ytmiepnnpccpicaa.Homes

namespace Go.Proofs.Ytmiepnnpccpicaa.Covers
open Ops Stamp Bags Marks Homes Go.Proofs.Ytmiepnnpccpicaa.Place
theorem manyN_le (o : Opn) : manyN o ≤ (all o.pl).length := Nat.sub_le _ _
/-- A place's home is a section. -/
theorem home_where {l : List Opn} (hl : Bag l) (p : List Run) : spanE l (homeM (livesM l l) p) = 0 := by
  have hL := liv_bag hl
  refine spanE_zero.2 ⟨hl, ?_⟩
  rw [homeM_is hL, whereM_at hL (by have := cntM_le (livesM l l) p; omega)]
  omega
end Go.Proofs.Ytmiepnnpccpicaa.Covers

namespace Go.Proofs.Ytmiepnnpccpicaa.Point
open Go.RowKit
/-- A code point. -/
def IsPt (n : Int) : Prop := 0 ≤ n ∧ n ≤ 1114111 ∧ (n < 55296 ∨ 57343 < n)
instance (n : Int) : Decidable (IsPt n) := by unfold IsPt; infer_instance
/-- All are code points. -/
def Pts (l : List Int) : Prop := ∀ x ∈ l, IsPt x
instance (l : List Int) : Decidable (Pts l) := by unfold Pts; infer_instance
end Go.Proofs.Ytmiepnnpccpicaa.Point
