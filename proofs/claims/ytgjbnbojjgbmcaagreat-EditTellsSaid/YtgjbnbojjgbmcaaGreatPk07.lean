/- Lists of operations as the row that a sort passes through. Conditions: places that may be, or the beginning. Lists of elements as the row that a sort passes through. Conditions: places that may be, or the beginning. The draws of a run: no step takes any back. Conditions: none. octavo/view.Elements's closure: how two elements are held against each other. Conditions: the places read as such. slices.SortFunc at elements: the library's contract laid at this program. Conditions: as it says. slices.SortFunc over elements by their places: what it leaves. Conditions: a list of the call's own; places that may be, or the beginning. A place gone back, from its end on: what is found by that. Conditions: a bag, a section of it, its content. -/
import Derived.Test.YtgjbnbojjgbmcaaGreatChecked
import Derived.WalkKit
import Derived.WalkSpells
import Derived.WalkLawsBesides
import Derived.Laws.BytesArg
import Derived.Lib.Hide
import Derived.Deep.LoopGhost
import Derived.Laws.AppendOwnNone
import Derived.Laws.OwnMore
import Derived.WideShapes
import Derived.Maps.AppendAt
import Derived.RegionTactic
import Derived.Deep.RegionHeld3
import Derived.Deep.DrawnRows
import Derived.Deep.QuietTactic
import Derived.BigQuiet
import Derived.IntWalk
import Derived.Deep.DeepCutAuto
import Derived.ScopeJumps
import Derived.Test.YtgjbnbojjgbmcaaGreatProg
import Derived.LoopTactic
import Derived.Laws.EntriesVeiled
import Derived.Shelf.SlSortCmp.InsertionK
import Derived.RowKit
import Derived.Lib.DecodeN
import Derived.Lib.RuneBytes
import Derived.Calls
import Derived.StepT
import Derived.Below
import Derived.Sort.Grow
import Derived.Deep.Draws
import Derived.Shelf.SlLaysF0
import Derived.Shelf.SlSortCmp.NoneTotal
import Derived.Test.YtgjbnbojjgbmcaaGreatPk04
import Derived.Test.YtgjbnbojjgbmcaaGreatPk01
import Derived.Test.YtgjbnbojjgbmcaaGreatPk03
import Derived.Test.YtgjbnbojjgbmcaaGreatPk02
import Derived.Test.YtgjbnbojjgbmcaaGreatPk06
import Derived.Test.YtgjbnbojjgbmcaaGreatPk05

namespace Go.Proofs.YtgjbnbojjgbmcaaGreat.Marks
open Go.RowKit Go.WideShapes Go.Sort Stamp Go.Proofs.YtgjbnbojjgbmcaaGreat.Place Ops Codes
theorem flat_list {α : Type} [Inhabited α] (enc : α → List Value) (k : Nat) (hk0 : 0 < k) (hk : ∀ x, (enc x).length = k) : ∀ ds : List α,
    (List.range (ds.length * k)).map (fun t => (enc (ds[t / k]!))[t % k]!) = ds.flatMap enc
  | [] => by simp
  | x :: ds => by
    rw [List.length_cons, show (ds.length + 1) * k = k + ds.length * k by rw [Nat.succ_mul]; omega, List.range_add, List.map_append, List.flatMap_cons]
    congr 1
    · apply List.ext_getElem
      · simp [hk]
      · intro i h1 h2
        have hi : i < k := by simpa using h1
        rw [List.getElem_map, List.getElem_range, Nat.div_eq_of_lt hi, Nat.mod_eq_of_lt hi]
        show (enc x)[i]! = _
        rw [getElem!_pos (enc x) i h2]
    · rw [List.map_map, ← flat_list enc k hk0 hk ds]
      apply List.map_congr_left
      intro t _
      simp only [Function.comp]
      rw [Nat.add_div_left _ hk0, Nat.add_mod_left]
      rfl
theorem flatK_list {α : Type} [Inhabited α] (enc : α → List Value) (k : Nat) (hk0 : 0 < k) (hk : ∀ x, (enc x).length = k) (d : Array α) : (flatK enc k d).toList = d.toList.flatMap enc := by
  rw [← flat_list enc k hk0 hk d.toList]
  unfold flatK
  rw [Array.toList_map, Array.toList_range]
  apply List.map_congr_left
  intro t _
  simp [Array.getElem!_eq_getD, Array.getD_eq_getD_getElem?]
theorem putCells_take (F c : Array Value) (h : F.size ≤ c.size) : (putCells id 0 F c).toList.take F.size = F.toList := by
  apply List.ext_getElem
  · simp [putCells]; omega
  · intro i h1 h2
    have hi : i < F.size := by simpa using h2
    rw [List.getElem_take]
    simp [putCells, hi]
theorem putCells_size (F c : Array Value) (o : Nat) : (putCells id o F c).size = c.size := by simp [putCells]
theorem srt_other {α : Type} [Inhabited α] (enc : α → List Value) (k : Nat) (w : World) (g o m : Nat) (d : Array α) (os : Array Obj) {j : Nat} (hj : j ≠ g) (hs : j < w.heap.size) : (sortWorldK enc k w g o m d os).heap[j]? = w.heap[j]? := by
  show ((w.heap.modify g _) ++ os)[j]? = _
  rw [Array.getElem?_append_left (by simpa using hs), Array.getElem?_modify, if_neg (Ne.symm hj)]
theorem srt_row {α : Type} [Inhabited α] (enc : α → List Value) (k : Nat) {w : World} {g : Nat} (m : Nat) (d : Array α) (os : Array Obj) {cur : Array Value} {e : TypeId} {fr : Nat × Nat} (h : w.heap[g]? = some (.cells cur e fr)) : (sortWorldK enc k w g 0 m d os).heap[g]? = some (.cells (putCells id 0 (flatK enc k d) cur) e fr) := by
  have hs := (Array.getElem?_eq_some_iff.1 h).1
  show ((w.heap.modify g _) ++ os)[g]? = _
  rw [Array.getElem?_append_left (by simpa using hs), Array.getElem?_modify, if_pos rfl, h]
  rfl
theorem srt_below {α : Type} [Inhabited α] (enc : α → List Value) (k : Nat) (w : World) (g o m B : Nat) (d : Array α) (os : Array Obj) (hB : B ≤ g) (hs : g < w.heap.size) : Below B w (sortWorldK enc k w g o m d os) := by
  refine ⟨rfl, rfl, rfl, ?_, fun j hj => srt_other enc k w g o m d os (by omega) (by omega)⟩
  show w.heap.size ≤ ((w.heap.modify g _) ++ os).size
  simp
/-- An operation whose place is of the call's own. -/
def Elt (w : World) (base : Nat) : Type := {x : Opn × Value // anyB x.1.pl = true ∧ w.ownsRow base 32 3 x.2 x.1.pl.length (runs x.1.pl)}
instance (w : World) (base : Nat) : Inhabited (Elt w base) := ⟨⟨(zop, .slice none 0 0), rfl, World.ownsRow_nil _ _ _ _⟩⟩
def encE {w : World} {base : Nat} (x : Elt w base) : List Value := [.int .u8 (x.1.1.k : Int), .int .u32 (x.1.1.t : Int), .int .u8 (x.1.1.r : Int), x.1.2, .int .i64 x.1.1.p]
def opE' {w : World} {base : Nat} (x : Elt w base) : Opn := x.1.1
theorem encE_len {w : World} {base : Nat} (x : Elt w base) : (encE x).length = 5 := rfl
theorem elts_of {w : World} {base : Nat} : ∀ {cs : List Value} {l : List Opn}, HoldP w base cs l → (∀ o ∈ l, anyB o.pl = true) → ∃ ds : List (Elt w base), cs = ds.flatMap encE ∧ l = ds.map opE'
  | _, [], h, _ => ⟨[], h, rfl⟩
  | _, o :: l, ⟨v, d, h1, h2, h3⟩, hm => by
    obtain ⟨ds, e1, e2⟩ := elts_of h3 (fun o ho => hm o (by simp [ho]))
    have ho := hm o (by simp)
    obtain ⟨z, hz⟩ : ∃ z : Elt w base, z.1 = (o, v) := ⟨⟨(o, v), ho, h2⟩, rfl⟩
    refine ⟨z :: ds, ?_, ?_⟩
    · rw [h1, e1, List.flatMap_cons]; unfold encE; rw [hz]
    · rw [List.map_cons, ← e2]; unfold opE'; rw [hz]
theorem holdP_of {w w' : World} {base : Nat} (hk : ∀ x : Elt w base, w'.ownsRow base 32 3 x.1.2 x.1.1.pl.length (runs x.1.1.pl)) : ∀ ds : List (Elt w base), HoldP w' base (ds.flatMap encE) (ds.map opE')
  | [] => rfl
  | x :: ds => ⟨x.1.2, ds.flatMap encE, by rw [List.flatMap_cons]; rfl, hk x, holdP_of hk ds⟩
/-- Places stay while the operations are moved about. -/
theorem elt_stays {w : World} {base g : Nat} {cur : Array Value} (hg : w.heap[g]? = some (.cells cur 38 (0, 0))) (m : Nat) (d : Array (Elt w base)) (os : Array Obj) (x : Elt w base) :
    (sortWorldK encE 5 w g 0 m d os).ownsRow base 32 3 x.1.2 x.1.1.pl.length (runs x.1.1.pl) := by
  obtain ⟨x, _, h⟩ := x
  refine ⟨h.1, ?_⟩
  rcases h.2 with h | ⟨b, cap, c, e1, e2, e3, e4⟩
  · exact .inl h
  · refine .inr ⟨b, cap, c, e1, e2, ?_, e4⟩
    rw [srt_other encE 5 w g 0 m d os ?_ (Array.getElem?_eq_some_iff.1 e3).1]
    · exact e3
    · rintro rfl
      rw [hg] at e3
      injection e3 with e3
      injection e3 with _ e3 _
      exact absurd e3 (by decide)
theorem elt_holds {w : World} {base g cap n : Nat} {ds : List (Elt w base)} (hg : ∃ cur, w.heap[g]? = some (.cells cur 38 (0, 0)) ∧ cur.size = cap * 5 ∧ cur.toList.take (n * 5) = ds.flatMap encE) (hn : n = ds.length) (hc : n ≤ cap) : HoldsK encE 5 w g 0 ds.toArray := by
  obtain ⟨cur, h1, h2, h3⟩ := hg
  intro j hj
  rw [size_flatK] at hj
  have hj' : j < ds.length * 5 := by simpa using hj
  have hjc : j < cur.size := by rw [h2]; have := Nat.mul_le_mul_right 5 hc; omega
  have e : cur[j]? = (flatK encE 5 ds.toArray)[j]? := by
    rw [← Array.getElem?_toList, ← Array.getElem?_toList, flatK_list encE 5 (by decide) encE_len, ← h3, List.getElem?_take, if_pos (by omega)]
  have hf : j < (flatK encE 5 ds.toArray).size := by rw [size_flatK]; exact hj
  rw [Nat.zero_add]
  constructor
  · have e2 : w.cell? ⟨g, j, none⟩ = cur[j]? := by simp [World.cell?, h1]
    rw [e2, e, Array.getElem?_eq_getElem hf, getElem!_pos _ j hf]
    rfl
  · simp [World.frozen?, h1]
def cfE {w : World} {base : Nat} (x y : Elt w base) : Int := cmp x.1.1.pl y.1.1.pl
theorem cfE_is {w : World} {base : Nat} (x y : Elt w base) : cfE x y = Go.Proofs.YtgjbnbojjgbmcaaGreat.Place.hold (all x.1.1.pl) (all y.1.1.pl) := by
  unfold cfE cmp
  rw [if_pos ⟨x.2.1, y.2.1⟩]
theorem ltE_is {w : World} {base : Nat} (x y : Elt w base) : ltOf cfE x y = true ↔ Go.Proofs.YtgjbnbojjgbmcaaGreat.Place.hold (all x.1.1.pl) (all y.1.1.pl) = -1 := by
  unfold ltOf
  rw [cfE_is, decide_eq_true_iff]
  have := hold_range (all x.1.1.pl) (all y.1.1.pl)
  omega
theorem ltE_no {w : World} {base : Nat} (x y : Elt w base) : ltOf cfE x y = false ↔ ¬ Go.Proofs.YtgjbnbojjgbmcaaGreat.Place.hold (all x.1.1.pl) (all y.1.1.pl) = -1 := by
  rw [← ltE_is, Bool.not_eq_true]
theorem swoE (w : World) (base : Nat) : SWO (ltOf (cfE (w := w) (base := base))) where
  irrefl x := by rw [ltE_no, (hold_eq _ _).2 rfl]; decide
  trans x y z h1 h2 := by rw [ltE_is] at *; exact hold_trans _ _ _ h1 h2
  ntrans x y z h1 h2 := by
    rw [ltE_no] at *
    intro h3
    have n1 := hold_neg (all x.1.1.pl) (all y.1.1.pl)
    rcases hold_range (all x.1.1.pl) (all y.1.1.pl) with h | h | h
    · exact h1 h
    · have := (hold_eq _ _).1 h
      rw [this] at h3
      exact h2 h3
    · exact h2 (hold_trans _ _ _ (by omega) h3)
end Go.Proofs.YtgjbnbojjgbmcaaGreat.Marks

namespace Go.Proofs.YtgjbnbojjgbmcaaGreat.Views
open Go.RowKit Go.WideShapes Go.Sort Stamp Go.Proofs.YtgjbnbojjgbmcaaGreat.Place Ops Codes Bags Marks
def encV {w : World} {base : Nat} (x : Elt w base) : List Value := [.int .u32 (x.1.1.t : Int), .int .u8 (x.1.1.r : Int), x.1.2, .int .i64 x.1.1.p]
theorem encV_len {w : World} {base : Nat} (x : Elt w base) : (encV x).length = 4 := rfl
theorem eltsV_of {w : World} {base : Nat} : ∀ {cs : List Value} {l : List Opn}, HoldE w base cs l → (∀ o ∈ l, anyB o.pl = true) → ∃ ds : List (Elt w base), cs = ds.flatMap encV ∧ l = ds.map opE'
  | _, [], h, _ => ⟨[], h, rfl⟩
  | _, o :: l, ⟨v, d, h1, h2, h3⟩, hm => by
    obtain ⟨ds, e1, e2⟩ := eltsV_of h3 (fun o ho => hm o (by simp [ho]))
    have ho := hm o (by simp)
    obtain ⟨z, hz⟩ : ∃ z : Elt w base, z.1 = (o, v) := ⟨⟨(o, v), ho, h2⟩, rfl⟩
    refine ⟨z :: ds, ?_, ?_⟩
    · rw [h1, e1, List.flatMap_cons]; unfold encV; rw [hz]
    · rw [List.map_cons, ← e2]; unfold opE'; rw [hz]
theorem holdE_of {w w' : World} {base : Nat} (hk : ∀ x : Elt w base, w'.ownsRow base 32 3 x.1.2 x.1.1.pl.length (runs x.1.1.pl)) : ∀ ds : List (Elt w base), HoldE w' base (ds.flatMap encV) (ds.map opE')
  | [] => rfl
  | x :: ds => ⟨x.1.2, ds.flatMap encV, by rw [List.flatMap_cons]; rfl, hk x, holdE_of hk ds⟩
/-- Places stay while the elements are moved about. -/
theorem eltV_stays {w : World} {base g : Nat} {cur : Array Value} (hg : w.heap[g]? = some (.cells cur 91 (0, 0))) (m : Nat) (d : Array (Elt w base)) (os : Array Obj) (x : Elt w base) :
    (sortWorldK encV 4 w g 0 m d os).ownsRow base 32 3 x.1.2 x.1.1.pl.length (runs x.1.1.pl) := by
  obtain ⟨x, _, h⟩ := x
  refine ⟨h.1, ?_⟩
  rcases h.2 with h | ⟨b, cap, c, e1, e2, e3, e4⟩
  · exact .inl h
  · refine .inr ⟨b, cap, c, e1, e2, ?_, e4⟩
    rw [srt_other encV 4 w g 0 m d os ?_ (Array.getElem?_eq_some_iff.1 e3).1]
    · exact e3
    · rintro rfl
      rw [hg] at e3
      injection e3 with e3
      injection e3 with _ e3 _
      exact absurd e3 (by decide)
theorem eltV_holds {w : World} {base g cap n : Nat} {ds : List (Elt w base)} (hg : ∃ cur, w.heap[g]? = some (.cells cur 91 (0, 0)) ∧ cur.size = cap * 4 ∧ cur.toList.take (n * 4) = ds.flatMap encV) (hn : n = ds.length) (hc : n ≤ cap) : HoldsK encV 4 w g 0 ds.toArray := by
  obtain ⟨cur, h1, h2, h3⟩ := hg
  intro j hj
  rw [size_flatK] at hj
  have hj' : j < ds.length * 4 := by simpa using hj
  have hjc : j < cur.size := by rw [h2]; have := Nat.mul_le_mul_right 4 hc; omega
  have e : cur[j]? = (flatK encV 4 ds.toArray)[j]? := by
    rw [← Array.getElem?_toList, ← Array.getElem?_toList, flatK_list encV 4 (by decide) encV_len, ← h3, List.getElem?_take, if_pos (by omega)]
  have hf : j < (flatK encV 4 ds.toArray).size := by rw [size_flatK]; exact hj
  rw [Nat.zero_add]
  constructor
  · have e2 : w.cell? ⟨g, j, none⟩ = cur[j]? := by simp [World.cell?, h1]
    rw [e2, e, Array.getElem?_eq_getElem hf, getElem!_pos _ j hf]
    rfl
  · simp [World.frozen?, h1]
end Go.Proofs.YtgjbnbojjgbmcaaGreat.Views

namespace Go.Proofs.YtgjbnbojjgbmcaaGreat.Draws
open Go Go.RowKit Go.Sort
theorem ask_drawn {α : Type} (q : Ask α) : ∀ w : World, w.drawn ≤ (w.ask q).2.drawn := by
  induction q with
  | done a => intro w; exact Nat.le_refl _
  | ask what range k ih =>
    intro w
    rw [World.ask]
    split
    · exact ih _ _
    · exact Nat.le_trans (Nat.le_succ _) (ih _ { w with drawn := w.drawn + 1 })
theorem sys_drawn (w : World) (c : Sys) : w.drawn ≤ (w.sys c).2.drawn := by
  have h := ask_drawn (Kernel.perform c w.os) w
  unfold World.sys
  split
  · exact Nat.le_refl _
  · rename_i r os w' _ heq
    rw [heq] at h
    exact h
def rd {α : Type} : Result α → Nat
  | .ok _ w => w.drawn
  | .halt _ w => w.drawn
theorem setCell_drawn (w : World) (a : Addr) (v : Value) : (w.setCell a v).drawn = w.drawn := rfl
theorem freeze_drawn (w : World) (a : Addr) (n : Nat) : (w.freeze a n).drawn = w.drawn := by
  unfold World.freeze
  split <;> rfl
theorem viewStore_drawn {p : Program} {w : World} {at_ : Addr} {u : TypeId} {k : Addr} {v : Value} {am : Bool} {r : World × List Addr} (h : w.viewStore p at_ u k v am = .ok r) : r.1.drawn = w.drawn := by
  unfold World.viewStore at h
  simp only [bind, Except.bind, pure, Except.pure] at h
  repeat' first
    | (simp only [reduceCtorEq] at h; done)
    | (cases h; rfl)
    | split at h
theorem farStore_drawn {p : Program} {w : World} {a : Addr} {v : Value} {am : Bool} {r : World × List Addr} (h : w.farStore p a v am = .ok r) : r.1.drawn = w.drawn := by
  unfold World.farStore at h
  repeat' first
    | (cases h; done)
    | (rename_i hr; cases h; exact viewStore_drawn hr)
    | split at h
theorem run_drawn {α : Type} (p : Program) (s : Sem α) : ∀ w : World, w.drawn ≤ rd (s.run p w) := by
  induction s with
  | pure a => intro w; exact Nat.le_refl _
  | load m a k ih =>
    intro w
    rw [Sem.run]
    split
    · exact ih _ _
    · split
      · exact ih _ _
      · exact Nat.le_refl _
  | store m a v k ih =>
    intro w
    by_cases hc : (∃ c, v = .agg c) ∨ ∃ c, v = .tuple c
    · rcases hc with ⟨c, rfl⟩ | ⟨c, rfl⟩ <;> (rw [Sem.run]; exact Nat.le_refl _)
    · rw [Sem.run]
      · split
        · split
          · exact Nat.le_refl _
          · have := ih (w.setCell a v); rw [setCell_drawn] at this; exact this
        · split
          · rename_i hf
            have := farStore_drawn hf
            rw [← this]
            exact ih _
          · exact Nat.le_refl _
      · exact fun c h => hc (.inl ⟨c, h⟩)
      · exact fun c h => hc (.inr ⟨c, h⟩)
  | new o k ih => intro w; rw [Sem.run]; exact ih _ { w with heap := w.heap.push o }
  | shape r k ih => intro w; rw [Sem.run]; exact ih _ _
  | freeze a n k ih => intro w; rw [Sem.run]; have := ih (w.freeze a n); rw [freeze_drawn] at this; exact this
  | frozen a k ih => intro w; rw [Sem.run]; exact ih _ _
  | getObj r k ih =>
    intro w
    rw [Sem.run]
    split
    · exact Nat.le_refl _
    · exact ih _ _
    · exact Nat.le_refl _
  | setObj r o k ih =>
    intro w
    rw [Sem.run]
    split
    · exact Nat.le_refl _
    · exact ih { w with heap := w.heap.setIfInBounds r o }
    · exact Nat.le_refl _
  | choose q k ih =>
    intro w
    rw [Sem.run]
    split
    · exact ih _ _
    · exact Nat.le_trans (Nat.le_succ _) (ih _ { w with drawn := w.drawn + 1 })
  | sys c k ih => intro w; rw [Sem.run]; exact Nat.le_trans (sys_drawn w c) (ih _ _)
  | program k ih => intro w; rw [Sem.run]; exact ih _ _
  | mark m k ih => intro w; rw [Sem.run]; exact ih _
  | halt h => intro w; exact Nat.le_refl _
def gd : GStep → Nat
  | .go _ w _ => w.drawn
  | .comm _ _ _ _ w _ => w.drawn
  | .spawn _ _ w _ => w.drawn
  | .count _ w _ => w.drawn
  | .timer _ _ w _ => w.drawn
  | .alone _ _ w _ => w.drawn
  | .newcoro _ _ _ w _ => w.drawn
  | .coroswitch _ _ _ w _ => w.drawn
  | .collect _ w _ => w.drawn
  | .watch _ w _ => w.drawn
  | .ended _ w _ => w.drawn
theorem after_drawn (es : Array Event) (s : GStep) : gd (s.after es) = gd s := by cases s <;> rfl
theorem endWith_drawn (w : World) (fd : Nat) (t : ByteArray) (o : Outcome) : w.drawn ≤ gd (endWith w fd t o) := by
  have h := sys_drawn w (.write fd t)
  unfold endWith
  simp only []
  split
  · rename_i heq; rw [heq] at h
    split <;> exact h
  · rename_i heq; rw [heq] at h; exact h
  · rename_i heq; rw [heq] at h; exact h
theorem endThrow_drawn (fr : Frame) (m : String) (w : World) : gd (endThrow fr m w) = w.drawn := rfl
theorem endPrinting_drawn (p : Program) (fr : Frame) (v : Value) (w : World) : gd (endPrinting p fr v w) = w.drawn := by
  unfold endPrinting
  simp only []
  split <;> rfl
theorem run_ok {α : Type} {p : Program} {s : Sem α} {w w' : World} {a : α} (h : s.run p w = .ok a w') : w.drawn ≤ w'.drawn := by
  have := run_drawn p s w
  rw [h] at this
  exact this
theorem run_halt {α : Type} {p : Program} {s : Sem α} {w w' : World} {x : Halt} (h : s.run p w = .halt x w') : w.drawn ≤ w'.drawn := by
  have := run_drawn p s w
  rw [h] at this
  exact this
theorem endFatal_drawn (p : Program) (fr : Frame) (cs : List Frame) (d : Option Dying) (m : String) (w : World) : w.drawn ≤ gd (endFatal p fr cs d m w) := by
  unfold endFatal
  simp only []
  split
  · rename_i h; exact run_ok h
  · rename_i h; exact run_halt h
  · rename_i h; exact run_halt h
theorem writeOn_drawn (p : Program) (fr : Frame) (d : Dying) (f : Fatal) (w : World) : w.drawn ≤ gd (writeOn p fr d f w) := by
  unfold writeOn
  simp only [Sem.runT_eq]
  split
  · exact Nat.le_refl _
  · split <;> rename_i h <;> simp only [Prod.mk.injEq] at h <;> first | exact run_ok h.1 | exact run_halt h.1
theorem die_drawn (p : Program) (fr : Frame) (d : Dying) (w : World) : w.drawn ≤ gd (die p fr d w) := by
  unfold die
  simp only [Sem.runT_eq]
  repeat' first
    | exact Nat.le_refl _
    | exact writeOn_drawn _ _ _ _ _
    | exact endWith_drawn _ _ _ _
    | (rename_i h; exact run_ok h)
    | (rename_i h; exact run_halt h)
    | (rename_i h; rw [after_drawn, endPrinting_drawn]; exact run_halt h)
    | split
theorem doReturn_drawn (p : Program) (main : Bool) (fr : Frame) (cs : List Frame) (d : Option Dying) (v : Value) (w : World) : gd (doReturn p main fr cs d v w) = w.drawn := by
  unfold doReturn
  simp only []
  repeat' first
    | rfl
    | split
theorem run_le {α : Type} {p : Program} {s : Sem α} {w w' : World} {a : α} {n : Nat} (h : s.run p w = .ok a w') (hn : w'.drawn ≤ n) : w.drawn ≤ n := Nat.le_trans (run_ok h) hn
theorem gd_ite {c : Prop} [Decidable c] {a b : GStep} {n : Nat} (ha : n ≤ gd a) (hb : n ≤ gd b) : n ≤ gd (if c then a else b) := by split <;> assumption
theorem gd_elim {α : Type} {o : Option α} {a : GStep} {f : α → GStep} {n : Nat} (ha : n ≤ gd a) (hf : ∀ x, n ≤ gd (f x)) : n ≤ gd (o.elim a f) := by
  cases o
  · exact ha
  · exact hf _
theorem early_drawn (p : Program) (fr : Frame) (cs : List Frame) (d : Option Dying) (g : Nat) (w : World) : w.drawn ≤ gd (early p fr cs d g w) := by
  unfold early
  simp only []
  repeat' first
    | exact Nat.le_refl _
    | exact run_ok (by assumption)
    | exact run_halt (by assumption)
    | (refine run_le (by assumption) ?_; exact Nat.le_refl _)
    | split
theorem callDeferred_drawn (p : Program) (fr : Frame) (cs : List Frame) (d : Option Dying) (x : Deferred) (w : World) : w.drawn ≤ gd (callDeferred p fr cs d x w) := by
  unfold callDeferred
  simp only [Sem.runT_eq]
  refine gd_ite (Nat.le_refl _) ?_
  · rw [after_drawn]
    repeat' first
      | exact run_ok (by assumption)
      | exact run_halt (by assumption)
      | exact Nat.le_trans (run_halt (by assumption)) (endFatal_drawn _ _ _ _ _ _)
      | split
theorem unwind_drawn (p : Program) (main : Bool) (fr : Frame) (cs : List Frame) (d : Option Dying) (w : World) : w.drawn ≤ gd (unwind p main fr cs d w) := by
  unfold unwind
  simp only [Sem.runT_eq]
  repeat' first
    | exact Nat.le_refl _
    | exact callDeferred_drawn _ _ _ _ _ _
    | (rw [doReturn_drawn]; exact Nat.le_refl _)
    | (rw [endPrinting_drawn]; exact Nat.le_refl _)
    | exact run_ok (by assumption)
    | exact run_halt (by assumption)
    | (rw [doReturn_drawn]; exact run_ok (by assumption))
    | (rw [after_drawn])
    | split
theorem apply_drawn (p : Program) (l : Bool) (fr : Frame) (cs : List Frame) (d : Option Dying) (s : Sem Next) (w : World) : w.drawn ≤ gd (stepG.apply p l fr cs d s w) := by
  unfold stepG.apply
  have e : (if l = true then s.runT p w #[] else (s.run p w, #[])).1 = s.run p w := by
    split
    · rw [Sem.runT_eq]
    · rfl
  revert e
  generalize (if l = true then s.runT p w #[] else (s.run p w, #[])) = re
  intro e
  obtain ⟨r, es⟩ := re
  simp only at e
  subst e
  simp only []
  rw [after_drawn]
  split
  all_goals repeat' first
    | exact run_ok (by assumption)
    | exact run_halt (by assumption)
    | exact Nat.le_trans (run_halt (by assumption)) (endFatal_drawn _ _ _ _ _ _)
    | exact Nat.le_trans (run_halt (by assumption)) (early_drawn _ _ _ _ _ _)
    | split
theorem oper_drawn (p : Program) (l : Bool) (fr : Frame) (cs : List Frame) (d : Option Dying) (w : World) : w.drawn ≤ gd (stepG.oper p l fr cs d w) := by
  unfold stepG.oper
  repeat' first
    | exact Nat.le_refl _
    | exact apply_drawn _ _ _ _ _ _ _
    | split
theorem exec_drawn (p : Program) (main : Bool) (l : Bool) (fr : Frame) (cs : List Frame) (d : Option Dying) (w : World) : w.drawn ≤ gd (stepG.exec p main l fr cs d w) := by
  unfold stepG.exec
  simp only [Sem.runT_eq]
  split
  all_goals repeat' first
    | exact Nat.le_refl _
    | exact apply_drawn _ _ _ _ _ _ _
    | exact oper_drawn _ _ _ _ _ _
    | exact run_ok (by assumption)
    | exact run_halt (by assumption)
    | (rw [doReturn_drawn]; exact run_ok (by assumption))
    | exact Nat.le_trans (run_ok (by assumption)) (apply_drawn _ _ _ _ _ _ _)
    | (rw [after_drawn])
    | (refine gd_elim ?_ (fun _ => ?_))
    | split
theorem stepG_drawn (p : Program) (main : Bool) (g : Goroutine) (w : World) (l : Bool) : w.drawn ≤ gd (stepG p main g w l) := by
  unfold stepG
  simp only []
  split
  · exact die_drawn _ _ _ _
  · exact exec_drawn _ _ _ _ _ _ _
  · exact unwind_drawn _ _ _ _ _ _
theorem waitingAt_drawn {r : Rest} {c : Array CommCase} {w w' : World} (h : waitingAt r c w = some w') : w'.drawn = w.drawn := by
  unfold waitingAt at h
  repeat' first
    | (simp at h; done)
    | (cases h; rfl)
    | split at h
theorem communicate_drawn (p : Program) (rest : Rest) (gs : Array Goroutine) (i : Nat) (g : Goroutine) (cases : Array CommCase) (blocking : Bool)
    (shape : CommShape) (w : World) (m' : Machine) (h : (communicate p rest gs i g cases blocking shape w).1 = .next m') : w.drawn ≤ m'.world.drawn := by
  unfold communicate at h
  simp only [] at h
  repeat' first
    | (simp at h; done)
    | (simp only [Stepped.next.injEq] at h; subst h; exact Nat.le_refl _)
    | (simp only [Stepped.next.injEq] at h; subst h; exact run_ok (by assumption))
    | (simp only [Stepped.next.injEq] at h; subst h; refine run_le (by assumption) ?_; exact Nat.le_refl _)
    | (simp only [Stepped.next.injEq] at h; subst h; refine run_le (by assumption) ?_; refine run_le (by assumption) ?_; exact Nat.le_refl _)
    | (simp only [Stepped.next.injEq] at h; subst h; refine run_le (by assumption) ?_; exact run_halt (by assumption))
    | (simp only [Stepped.next.injEq] at h; subst h; rename_i hw; exact Nat.le_of_eq (waitingAt_drawn hw).symm)
    | split at h
theorem look_drawn (p : Program) (gs : Array Goroutine) (rest : Rest) (w : World) (m' : Machine)
    (h : look p gs rest w = .next m') : w.drawn ≤ m'.world.drawn := by
  unfold look at h
  simp only [] at h
  repeat' first
    | (simp at h; done)
    | (simp only [Stepped.next.injEq] at h; subst h; refine run_le (by assumption) ?_; exact Nat.le_refl _)
    | split at h
theorem retime_drawn (m : Machine) (k : Nat) (t : Timer) (a b : Nat) : (retime m k t a b).2.world.drawn = m.world.drawn := by
  unfold retime
  simp only []
  split
  · unfold drain; split <;> rfl
  · rfl
theorem opened_drawn {m m' : Machine} {var : Addr} (h : timerOp.opened m var = some m') : m'.world.drawn = m.world.drawn := by
  unfold timerOp.opened at h
  repeat' first
    | (simp at h; done)
    | (cases h; rfl)
    | split at h
theorem named_drawn {m m' : Machine} {var : Addr} {f : Nat → Timer → Value × Machine} {v : Value} {n : Nat} (hf : ∀ k t, (f k t).2.world.drawn = n) (h : timerOp.named m var f = .ok (v, m')) : m'.world.drawn = n := by
  unfold timerOp.named at h
  split at h
  · simp only [Except.ok.injEq] at h
    rename_i c _
    have := hf c (m.rest.timers.getD c default)
    rw [h] at this
    exact this
  · cases h
theorem timerOp_drawn {m m' : Machine} {op : TimerOp} {v : Value} (h : timerOp m op = .ok (v, m')) : m'.world.drawn = m.world.drawn := by
  unfold timerOp at h
  repeat' first
    | (simp at h; done)
    | (cases h; rfl)
    | exact named_drawn (fun k t => retime_drawn _ _ _ _ _) h
    | (rename_i ho; exact named_drawn (fun k t => (retime_drawn _ _ _ _ _).trans (opened_drawn ho)) h)
    | split at h
theorem runT_drawn (p : Program) (m m' : Machine) (i : Nat) (b : Bool) (h : (runT p m i b).1 = .next m') : m.world.drawn ≤ m'.world.drawn := by
  simp only [runT] at h
  revert h
  generalize m.gs.swapAt! _ _ = gg
  have hs := stepG_drawn p (i == 0) gg.1 m.world b
  revert hs
  generalize stepG p _ gg.1 m.world b = s
  intro hs h
  cases s <;> simp only [] at h <;> simp only [gd] at hs
  all_goals first
    | (simp at h; done)
    | (exact Nat.le_trans hs (communicate_drawn _ _ _ _ _ _ _ _ _ _ h))
    | (exact Nat.le_trans hs (look_drawn _ _ _ _ _ h))
    | (simp only [Stepped.next.injEq] at h; subst h; exact hs)
    | (repeat' first
        | (simp at h; done)
        | (simp only [Stepped.next.injEq] at h; subst h; exact hs)
        | (simp only [Stepped.next.injEq] at h; subst h; rename_i hq; have := timerOp_drawn hq; simp only at this; exact Nat.le_trans hs (Nat.le_of_eq this.symm))
        | (simp only [Stepped.next.injEq] at h; subst h; rename_i hq; have := congrArg gd hq; rw [endThrow_drawn] at this; exact Nat.le_trans hs (Nat.le_of_eq this))
        | split at h)
theorem serve_drawn (p : Program) (m m' : Machine) (k : Nat) (h : serve p m k = .next m') : m.world.drawn ≤ m'.world.drawn := by
  unfold serve at h
  simp only [] at h
  repeat' first
    | (simp at h; done)
    | (simp only [Stepped.next.injEq] at h; subst h; exact Nat.le_refl _)
    | split at h
def moved : Move → Nat → Prop
  | .goroutine m _, n => n ≤ m.world.drawn
  | .machine (.next m) _, n => n ≤ m.world.drawn
  | .machine (.ended _ _) _, _ => True
theorem moved_machine {s : Stepped} {ops : Array MemOp} {n : Nat} (h : ∀ m', s = .next m' → n ≤ m'.world.drawn) : moved (.machine s ops) n := by
  cases s
  · exact h _ rfl
  · exact trivial
theorem run_moved {α : Type} {p : Program} {s : Sem α} {w w' : World} {a : α} {x : Move} (h : s.run p w = .ok a w') (hn : moved x w'.drawn) : moved x w.drawn := by
  have := run_ok h
  cases x with
  | goroutine m i => exact Nat.le_trans this hn
  | machine s ops =>
    cases s
    · exact Nat.le_trans this hn
    · exact trivial
theorem askOn_drawn (p : Program) (m : Machine) : moved (askOn p m) m.world.drawn := by
  unfold askOn
  simp only []
  repeat' first
    | exact trivial
    | (refine run_moved (by assumption) ?_; exact moved_machine (fun m' h => serve_drawn _ _ _ _ h))
    | (refine run_moved (by assumption) ?_; exact Nat.le_refl _)
    | (refine run_moved (by assumption) ?_; refine run_moved (by assumption) ?_; exact Nat.le_refl _)
    | (refine run_moved (by assumption) ?_; refine run_moved (by assumption) ?_; refine run_moved (by assumption) ?_; exact Nat.le_refl _)
    | (refine run_moved (by assumption) ?_; refine run_moved (by assumption) ?_; refine run_moved (by assumption) ?_; refine run_moved (by assumption) ?_; exact Nat.le_refl _)
    | (rename_i hs _ _ _ _ _ _ _ _ _ hc _ _ _ hq _; have h1 := Nat.le_trans (run_ok hs) (run_ok hc); have h2 := run_ok hq; exact Nat.le_trans h1 h2)
    | (rename_i hs _ _ _ _ _ _ _ _ _ hc _ _ _ hq _ _ _ _ hz _; have h1 := Nat.le_trans (run_ok hs) (run_ok hc); have h2 := Nat.le_trans (run_ok hq) (run_ok hz); exact Nat.le_trans h1 h2)
    | split
theorem moved_le {x : Move} {n k : Nat} (h : moved x k) (hn : n ≤ k) : moved x n := by
  cases x with
  | goroutine m i => exact Nat.le_trans hn h
  | machine s ops =>
    cases s
    · exact Nat.le_trans hn h
    · exact trivial
theorem ask_drawn' (p : Program) (m : Machine) : moved (ask p m) m.world.drawn := by
  unfold ask
  split
  · split
    · exact trivial
    · split
      · rename_i hr _ _ hl
        exact moved_le (askOn_drawn _ _) (Nat.le_trans (run_ok hr) (look_drawn _ _ _ _ _ hl))
      · rename_i hr _ hl
        exact moved_machine (fun m' h => (hl m' h).elim)
    · rename_i hr
      exact moved_le (askOn_drawn _ _) (run_ok hr)
  · exact askOn_drawn _ _
theorem move_drawn (p : Program) (m : Machine) : moved (move p m) m.world.drawn := by
  unfold move
  repeat' first
    | exact trivial
    | exact Nat.le_refl _
    | exact ask_drawn' _ _
    | split
theorem stepT_drawn (p : Program) (m m' : Machine) (b : Bool) (h : (stepT p m b).1 = .next m') : m.world.drawn ≤ m'.world.drawn := by
  have hm := move_drawn p m
  unfold stepT at h
  split at h
  · rename_i m1 i he
    rw [he] at hm
    exact Nat.le_trans hm (runT_drawn _ _ _ _ _ h)
  · rename_i s ops he
    rw [he] at hm
    simp only at h
    subst h
    exact hm
theorem runN_drawn (p : Program) : ∀ (n : Nat) (m m' : Machine), runN p n m = .next m' → m.world.drawn ≤ m'.world.drawn
  | 0, m, m', h => by
    rw [runN] at h
    cases h
    exact Nat.le_refl _
  | n + 1, m, m', h => by
    rw [runN] at h
    split at h
    · rename_i m1 h1
      exact Nat.le_trans (stepT_drawn p m m1 true h1) (runN_drawn p n m1 m' h)
    · rename_i hl; exact (hl m' h).elim
theorem steps_drawn {p : Program} {m m' : Machine} (h : Steps p m m') : m.world.drawn ≤ m'.world.drawn := by
  obtain ⟨n, hn⟩ := h
  exact runN_drawn p n m m' hn
/-- Of what a call answers: its draws are no fewer than those ahead of it. -/
theorem calls_drawn {P : Program} {f : FuncId} {args : Array Value} {w : World} {R : Ending → World → Prop} (h : Calls P f args w fun e w' => (∃ v, e = .returned v) ∧ R e w') :
    Calls P f args w fun e w' => R e w' ∧ w.drawn ≤ w'.drawn := by
  intro cs
  obtain ⟨e, w', fr, ⟨⟨v, rfl⟩, hr⟩, hc, hf, hl⟩ := h cs
  exact ⟨_, w', fr, ⟨hr, steps_drawn hc⟩, hc, hf, hl⟩
theorem below_grow {w w' : World} (h : Below w.heap.size w w') (hd : w.drawn ≤ w'.drawn) : ∃ q os, w' = grow (w.drewN q) os := by
  refine ⟨w'.drawn - w.drawn, w'.heap.extract w.heap.size w'.heap.size, ?_⟩
  have e1 : w'.heap = w.heap ++ w'.heap.extract w.heap.size w'.heap.size := by
    apply Array.ext_getElem?
    intro i
    by_cases hi : i < w.heap.size
    · rw [Array.getElem?_append_left hi]; exact h.block i hi
    · rw [Array.getElem?_append_right (by omega), Array.getElem?_extract]
      by_cases h2 : i < w'.heap.size
      · rw [if_pos (by omega)]; congr 1; omega
      · rw [if_neg (by omega)]; exact Array.getElem?_eq_none (by omega)
  have e2 : w'.drawn = w.drawn + (w'.drawn - w.drawn) := by omega
  obtain ⟨h1, h2, h3, h4, h5⟩ := h
  obtain ⟨heap, tape, drawn, os, output⟩ := w
  obtain ⟨heap', tape', drawn', os', output'⟩ := w'
  simp only at h1 h2 h3 e1 e2
  subst h1 h2 h3
  unfold grow World.drewN
  simp only [World.mk.injEq]
  exact ⟨e1, trivial, e2, trivial, trivial⟩
/-- A call that leaves all that was there: behind it the world has grown, and has drawn, and nothing else. -/
theorem calls_grow {P : Program} {f : FuncId} {args : Array Value} {w : World} {v : Value} (h : Calls P f args w fun e w' => e = .returned v ∧ Below w.heap.size w w') :
    Calls P f args w fun e w' => e = .returned v ∧ ∃ q os, w' = grow (w.drewN q) os :=
  (calls_drawn (R := fun e w' => e = .returned v ∧ Below w.heap.size w w') (h.mono fun _ _ k => ⟨⟨v, k.1⟩, k⟩)).mono fun _ _ k => ⟨k.1.1, below_grow k.1.2 k.2⟩
end Go.Proofs.YtgjbnbojjgbmcaaGreat.Draws

namespace Go.Proofs.YtgjbnbojjgbmcaaGreat.Views
open Go.RowKit Go.WideShapes Stamp Go.Proofs.YtgjbnbojjgbmcaaGreat.Place Ops Codes Bags Marks
attribute [local go_sem ↓] Go.wp_at_zero Go.wp_at_succ
set_option maxRecDepth 100000 in
set_option maxHeartbeats 4000000 in
theorem clsV_any {u v : Value} {x y : Opn} {w : World} (hu : Runs w u x.pl) (hv : Runs w v y.pl) :
    Calls Tryz.prog 59 #[elv x u, elv y v] w fun e w' => e = .returned (.int .i64 (cmp x.pl y.pl)) ∧ Below w.heap.size w w' := by
  have PC : Hid (∀ W : World, Below w.heap.size w W → Calls Tryz.prog 60 #[u, v] W fun e w' => e = .returned (.int .i64 (cmp x.pl y.pl)) ∧ Below W.heap.size W w') := fun W h => pCompare_any (hu.keeps h) (hv.keeps h)
  have B0 : Hid (Below w.heap.size w ((w.alloc (.cells #[.int .u32 (x.t : Int), .int .u8 (x.r : Int), u, .int .i64 x.p] 91)).alloc (.cells #[.int .u32 (y.t : Int), .int .u8 (y.r : Int), v, .int .i64 y.p] 91))) := ((Below.refl _ _).alloc (Nat.le_refl _) _).alloc (by simp) _
  obtain ⟨q, hq⟩ : ∃ q, cmp x.pl y.pl = q := ⟨_, rfl⟩
  rw [hq] at PC ⊢
  obtain ⟨uo, uc, rfl⟩ := hu.shape
  obtain ⟨vo, vc, rfl⟩ := hv.shape
  obtain ⟨nu, hnu⟩ : ∃ n, x.pl.length = n := ⟨_, rfl⟩
  obtain ⟨nv, hnv⟩ : ∃ n, y.pl.length = n := ⟨_, rfl⟩
  rw [hnu] at PC B0 ⊢
  rw [hnv] at PC B0 ⊢
  clear hq hu hv hnu hnv
  obtain ⟨k1, t1, r1, l1, p1, hk1, ht1, hr1, hp1⟩ := x
  obtain ⟨k2, t2, r2, l2, p2, hk2, ht2, hr2, hp2⟩ := y
  unfold elv
  simp only at B0 ⊢
  clear hk1 ht1 hr1 hp1 hk2 ht2 hr2 hp2
  go_enter Tryz.func59, Tryz.ntmps59
  go_wp2_with fail
  refine (PC.out _ B0.out).mono ?_
  rintro e w1 ⟨rfl, b1⟩
  have B1 := Lib.hid (bt B0.out b1)
  clear b1 PC B0
  go_wp2
  go_ret
  exact ⟨rfl, B1.out⟩
end Go.Proofs.YtgjbnbojjgbmcaaGreat.Views

namespace Go.Proofs.YtgjbnbojjgbmcaaGreat.Views
open Go.Shelf Go.Proofs
def sortEl_ren : Go.Shelf.Ren := ⟨fun | 6 => 58 | 15 => 108 | 14 => 107 | 28 => 159 | 29 => 160 | 20 => 151 | 21 => 152 | 22 => 153 | 23 => 154 | 24 => 155 | 25 => 156 | 26 => 157 | 27 => 158 | 46 => 190 | 47 => 191 | 48 => 192 | 49 => 193 | 50 => 194 | 57 => 201 | n => n, fun | 22 => 52 | 24 => 91 | 25 => 106 | 3 => 3 | 39 => 164 | 0 => 0 | 53 => 26 | 55 => 202 | 4 => 4 | 46 => 195 | 45 => 194 | 50 => 155 | 5 => 5 | 9 => 9 | 66 => 227 | 70 => 231 | 76 => 239 | 77 => 148 | n => n, fun | n => n⟩
theorem sortEl : Go.Proofs.SlLaysF0.n6 Tryz.prog sortEl_ren where
  mixed := by kernel_rfl
  f6 := ⟨ "slices.SortFunc[[]octavo/api.Element,octavo/api.Element]", by decide, Tryz.func58.trans (congrArg some (by kernel_rfl))⟩
  f14 := ⟨ "slices.pdqsortCmpFunc[octavo/api.Element]", by decide, Tryz.func107.trans (congrArg some (by kernel_rfl))⟩
  f15 := Tryz.func108.trans (congrArg some (by kernel_rfl))
  f20 := ⟨ "slices.insertionSortCmpFunc[octavo/api.Element]", by decide, Tryz.func151.trans (congrArg some (by kernel_rfl))⟩
  f21 := ⟨ "slices.heapSortCmpFunc[octavo/api.Element]", by decide, Tryz.func152.trans (congrArg some (by kernel_rfl))⟩
  f22 := ⟨ "slices.breakPatternsCmpFunc[octavo/api.Element]", by decide, Tryz.func153.trans (congrArg some (by kernel_rfl))⟩
  f23 := ⟨ "slices.choosePivotCmpFunc[octavo/api.Element]", by decide, Tryz.func154.trans (congrArg some (by kernel_rfl))⟩
  f24 := ⟨ "slices.reverseRangeCmpFunc[octavo/api.Element]", by decide, Tryz.func155.trans (congrArg some (by kernel_rfl))⟩
  f25 := ⟨ "slices.partialInsertionSortCmpFunc[octavo/api.Element]", by decide, Tryz.func156.trans (congrArg some (by kernel_rfl))⟩
  f26 := ⟨ "slices.partitionEqualCmpFunc[octavo/api.Element]", by decide, Tryz.func157.trans (congrArg some (by kernel_rfl))⟩
  f27 := ⟨ "slices.partitionCmpFunc[octavo/api.Element]", by decide, Tryz.func158.trans (congrArg some (by kernel_rfl))⟩
  f28 := Tryz.func159.trans (congrArg some (by kernel_rfl))
  f29 := Tryz.func160.trans (congrArg some (by kernel_rfl))
  f46 := ⟨ "slices.siftDownCmpFunc[octavo/api.Element]", by decide, Tryz.func190.trans (congrArg some (by kernel_rfl))⟩
  f47 := Tryz.func191.trans (congrArg some (by kernel_rfl))
  f48 := Tryz.func192.trans (congrArg some (by kernel_rfl))
  f49 := ⟨ "slices.medianAdjacentCmpFunc[octavo/api.Element]", by decide, Tryz.func193.trans (congrArg some (by kernel_rfl))⟩
  f50 := ⟨ "slices.medianCmpFunc[octavo/api.Element]", by decide, Tryz.func194.trans (congrArg some (by kernel_rfl))⟩
  f57 := ⟨ "slices.order2CmpFunc[octavo/api.Element]", by decide, Tryz.func201.trans (congrArg some (by kernel_rfl))⟩
  t0 := Tryz.underlying0
  a0 := Tryz.isAgg0
  z0 := Tryz.sizeOf0
  v0 := Tryz.zeroValue0
  t3 := Tryz.underlying3
  a3 := Tryz.isAgg3
  z3 := Tryz.sizeOf3
  v3 := Tryz.zeroValue3
  t4 := Tryz.underlying4
  a4 := Tryz.isAgg4
  z4 := Tryz.sizeOf4
  v4 := Tryz.zeroValue4
  t5 := Tryz.underlying5
  a5 := Tryz.isAgg5
  z5 := Tryz.sizeOf5
  v5 := Tryz.zeroValue5
  t9 := Tryz.underlying9
  a9 := Tryz.isAgg9
  z9 := Tryz.sizeOf9
  v9 := Tryz.zeroValue9
  t22 := Tryz.underlying52
  a22 := Tryz.isAgg52
  z22 := Tryz.sizeOf52
  v22 := Tryz.zeroValue52
  t25 := Tryz.underlying106
  a25 := Tryz.isAgg106
  z25 := Tryz.sizeOf106
  v25 := Tryz.zeroValue106
  t39 := Tryz.underlying164
  a39 := Tryz.isAgg164
  z39 := Tryz.sizeOf164
  v39 := Tryz.zeroValue164
  t45 := Tryz.underlying194
  a45 := Tryz.isAgg194
  z45 := Tryz.sizeOf194
  v45 := Tryz.zeroValue194
  t46 := Tryz.underlying195
  a46 := Tryz.isAgg195
  z46 := Tryz.sizeOf195
  v46 := Tryz.zeroValue195
  t50 := Tryz.underlying155
  a50 := Tryz.isAgg155
  z50 := Tryz.sizeOf155
  v50 := Tryz.zeroValue155
  t53 := Tryz.underlying26
  a53 := Tryz.isAgg26
  z53 := Tryz.sizeOf26
  v53 := Tryz.zeroValue26
  t55 := Tryz.underlying202
  a55 := Tryz.isAgg202
  z55 := Tryz.sizeOf202
  v55 := Tryz.zeroValue202
  t66 := Tryz.underlying227
  a66 := Tryz.isAgg227
  z66 := Tryz.sizeOf227
  v66 := Tryz.zeroValue227
  t70 := Tryz.underlying231
  a70 := Tryz.isAgg231
  z70 := Tryz.sizeOf231
  v70 := Tryz.zeroValue231
  t76 := Tryz.underlying239
  a76 := Tryz.isAgg239
  z76 := Tryz.sizeOf239
  v76 := Tryz.zeroValue239
  t77 := Tryz.underlying148
  a77 := Tryz.isAgg148
  z77 := Tryz.sizeOf148
  v77 := Tryz.zeroValue148
end Go.Proofs.YtgjbnbojjgbmcaaGreat.Views

namespace Go.Proofs.YtgjbnbojjgbmcaaGreat.Views
open Go.RowKit Go.WideShapes Go.Sort Stamp Go.Proofs.YtgjbnbojjgbmcaaGreat.Place Ops Codes Bags Marks
theorem four_one (o : Opn) (u : Value) (hu : ∃ ao n cap, u = .slice ao n cap) : ∀ x ∈ [Value.int .u32 (o.t : Int), .int .u8 (o.r : Int), u, .int .i64 o.p], x.oneCell' = true := by
  obtain ⟨ao, n, cap, rfl⟩ := hu
  intro x hx
  simp only [List.mem_cons, List.not_mem_nil, or_false] at hx
  rcases hx with rfl | rfl | rfl | rfl <;> rfl
theorem sortE_any {v : Value} {l : List Opn} {base : Nat} {w : World} (hv : OwnE w base v l) (hm : ∀ o ∈ l, anyB o.pl = true) (hl : l.length < 4611686018427387904) :
    Calls Tryz.prog 58 #[v, .func (.func 59) #[] #[]] w fun e w' => e = .returned (.tuple #[]) ∧ ∃ l', l'.Perm l ∧ l'.Pairwise (fun a b => ¬ cmp b.pl a.pl < 0) ∧ OwnE w' base v l' ∧ Below base w w' := by
  obtain ⟨cs, h1, h2⟩ := hv
  by_cases hz : l = []
  · subst hz
    obtain ⟨ao, cap, rfl⟩ : ∃ ao cap, v = .slice ao 0 cap := Sees.shape (Sees.own h1)
    refine (AnyF.slices_SortFunc_none sortEl ao cap (.func (.func 59) #[] #[]) w).mono ?_
    rintro e w' ⟨rfl, rfl⟩
    exact ⟨rfl, [], .refl _, .nil, ⟨cs, h1, h2⟩, Below.refl _ _⟩
  rcases h1.2 with ⟨rfl, h⟩ | ⟨g, cap, cur, rfl, hbg, hg, hlc, hcm, hcs, hct⟩
  · exact absurd (List.length_eq_zero_iff.1 h) hz
  obtain ⟨ds, e1, e2⟩ := eltsV_of h2 hm
  have hn : l.length = ds.length := by rw [e2, List.length_map]
  have hgs := (Array.getElem?_eq_some_iff.1 hg).1
  have eg : ∀ args w, (callFunc 59 args).run Tryz.prog w = .ok (.enter 59 args) w := enters_of Tryz.func59 (by kernel_rfl) rfl
  have hcmp : CmpLays Tryz.prog 59 #[] (encV (w := w) (base := base)) 4 cfE g 0 ds.toArray.size w := fun m os dk _ x y =>
    Draws.calls_grow (clsV_any (Runs.own (eltV_stays hg m dk os x)) (Runs.own (eltV_stays hg m dk os y)))
  have hH : HoldsK encV 4 w g 0 ds.toArray := eltV_holds ⟨cur, hg, hcs, by rw [hct, e1]⟩ hn hlc
  have hcon := AnyQ.slices_SortFunc sortEl 4 Tryz.isAgg91 Tryz.sizeOf91 encV encV_len (fun x => by
      obtain ⟨ao, c, h⟩ := Sees.shape (Sees.own x.2.2)
      exact four_one x.1.1 x.1.2 ⟨ao, _, c, h⟩) cfE (swoE w base) 59 #[] g 0 cap ds.toArray w eg hcmp hH hgs (by simpa [← hn] using hl)
  change Calls Tryz.prog 58 _ _ _ at hcon
  rw [show ds.toArray.size = l.length by rw [hn]; simp] at hcon
  refine hcon.mono ?_
  rintro e w' ⟨rfl, d', n, os, hp, hs, rfl⟩
  obtain ⟨hp1, _, hp3⟩ := hp
  have hdn : d'.size = l.length := by rw [hp1, hn]; simp
  refine ⟨rfl, d'.toList.map opE', ?_, ?_, ⟨d'.toList.flatMap encV, ⟨?_, .inr ⟨g, cap, putCells id 0 (flatK encV 4 d') cur, ?_, hbg, srt_row encV 4 n d' os hg, ?_, hcm, ?_, ?_⟩⟩, holdE_of (eltV_stays hg n d' os) _⟩, srt_below encV 4 w g 0 n base d' os hbg hgs⟩
  · rw [e2]
    refine List.Perm.map _ ?_
    have : (d'.extract 0 l.length).toList.Perm (ds.toArray.extract 0 l.length).toList := hp3
    rw [Array.extract_eq_self_of_le (by omega), Array.extract_eq_self_of_le (by simp [hn])] at this
    simpa using this
  · rw [List.pairwise_map, List.pairwise_iff_getElem]
    intro i j hi hj hij
    have := hs i j (Nat.zero_le _) hij (by rw [← hdn]; simpa using hj)
    rw [getElem!_pos d' j (by simpa using hj), getElem!_pos d' i (by simpa using hi)] at this
    unfold ltOf cfE at this
    have h := of_decide_eq_false this
    simpa [opE'] using h
  · rw [← flatK_list encV 4 (by decide) encV_len]
    simp
  · simp [hdn]
  · simpa [hdn] using hlc
  · rw [putCells_size]; exact hcs
  · have h3 : (flatK encV 4 d').size = l.length * 4 := by rw [size_flatK, hdn]
    rw [List.length_map, Array.length_toList, hdn, ← h3, putCells_take _ _ (by rw [h3, hcs]; exact Nat.mul_le_mul_right 4 hlc), flatK_list encV 4 (by decide) encV_len]
end Go.Proofs.YtgjbnbojjgbmcaaGreat.Views

namespace Go.Proofs.YtgjbnbojjgbmcaaGreat.Covers
open Ops Stamp Bags Marks Homes Go.Proofs.YtgjbnbojjgbmcaaGreat.Place
/-- Does a span hold a place? -/
def homB (F T p : List Run) : Bool := decide (cmp F p ≤ 0) && (decide (T.length = 0) || decide (cmp p T < 0))
theorem begin_any {live : List Opn} (h : Liv live) (a : Int) : anyB (beginM live a) = true := by
  unfold beginM
  split
  · rename_i hx
    have hj : (a - 1).toNat < live.length := by omega
    rw [List.getD_eq_getElem?_getD, List.getElem?_eq_getElem hj]
    exact anyB_may (mayO_parts (h.may _ (List.getElem_mem hj)).1).2.1
  · rfl
theorem from_any {l : List Opn} {s : Id} (hE : spanE l s = 0) : anyB (fromL l s) = true := by
  obtain ⟨hb, hs⟩ := spanE_zero.1 hE
  unfold fromL
  rw [if_pos ⟨(bagB_iff l).2 hb, hs⟩]
  exact begin_any (liv_bag hb) _
theorem homB_is {l : List Opn} {s : Id} (hE : spanE l s = 0) {p : List Run} (hp : anyB p = true) : homB (fromL l s) (toL l s) p = decide (homeM (livesM l l) p = s) := by
  obtain ⟨hb, hs⟩ := spanE_zero.1 hE
  have hw : whereN (livesM l l) s < (livesM l l).length + 1 := by
    unfold whereM at hs
    split at hs
    · assumption
    · omega
  have e := where_of hw
  obtain ⟨i, hi⟩ : ∃ i, whereN (livesM l l) s = i := ⟨_, rfl⟩
  rw [hi] at hw e
  subst e
  obtain ⟨e1, e2, _⟩ := span_at hb hw
  rw [e1, e2]
  unfold homB
  rw [span_home (liv_bag hb) hp hw, decide_eq_decide, eq_comm (a := homeM _ _), home_at (liv_bag hb) hw]
theorem cut_ahead {p : List Run} (h : mayB p = true) {j k : Nat} (hj : j ≤ k) : Go.Proofs.YtgjbnbojjgbmcaaGreat.Place.hold (all (cutN p j)) (all (cutN p k)) = 0 ∨ Go.Proofs.YtgjbnbojjgbmcaaGreat.Place.hold (all (cutN p j)) (all (cutN p k)) = -1 := by
  have hc := ((mayB_iff p).1 h).2.2.1
  rw [all_cutN hc, all_cutN hc]
  have e : (all p).take k = (all p).take j ++ ((all p).take k).drop j := by
    have := List.take_append_drop j ((all p).take k)
    rw [List.take_take, Nat.min_eq_left hj] at this
    exact this.symm
  rw [e]
  cases ((all p).take k).drop j with
  | nil => left; rw [List.append_nil]; exact (hold_eq _ _).2 rfl
  | cons a m => right; exact hold_front _ a m
theorem cmp_any {p q : List Run} (hp : anyB p = true) (hq : anyB q = true) : cmp p q = Go.Proofs.YtgjbnbojjgbmcaaGreat.Place.hold (all p) (all q) := by
  unfold cmp; rw [if_pos ⟨hp, hq⟩]
theorem cmp_back {F p : List Run} (hF : anyB F = true) (h : mayB p = true) {j k : Nat} (hj : j ≤ k) (hk : cmp (cutN p k) F < 0) : cmp F (cutN p j) > 0 := by
  rw [cmp_any (any_cutN h) hF] at hk
  rw [cmp_any hF (any_cutN h)]
  have h1 := hold_range (all (cutN p k)) (all F)
  have h2 := hold_neg (all (cutN p j)) (all F)
  have h3 : Go.Proofs.YtgjbnbojjgbmcaaGreat.Place.hold (all (cutN p j)) (all F) = -1 := by
    rcases cut_ahead h hj with e | e
    · rw [(hold_eq _ _).1 e]; omega
    · exact hold_trans _ _ _ e (by omega)
  omega
/-- From a stamp on, all that is homed in the section is there. -/
def okN (l : List Opn) (s : Id) (o : Opn) (k : Nat) : Prop := ∀ j, k ≤ j → j < (all o.pl).length → homeM (livesM l l) (cutN o.pl (j + 1)) = s → hasO l ((all o.pl).getD j zid) = true
theorem ok_end (l : List Opn) (s : Id) (o : Opn) : okN l s o (all o.pl).length := fun j h1 h2 => by omega
theorem ok_zero {l : List Opn} {s : Id} {o : Opn} (h : okN l s o 0) : isB l (livesM l l) s o = true :=
  isB_iff.2 fun k hk e => h k (by omega) (by have := manyN_le o; omega) e
theorem ok_break {l : List Opn} {s : Id} {o : Opn} {k : Nat} (hE : spanE l s = 0) (ho : o ∈ l) (h : okN l s o k) (hk : cmp (cutN o.pl k) (fromL l s) < 0) : isB l (livesM l l) s o = true := by
  have hm := (mayO_parts ((spanE_zero.1 hE).1.2.1 o ho)).2.1
  refine isB_iff.2 fun j hj e => ?_
  by_cases hjk : k ≤ j
  · exact h j hjk (by have := manyN_le o; omega) e
  · exfalso
    have h1 := cmp_back (from_any hE) hm (show j + 1 ≤ k by omega) hk
    have h2 := homB_is hE (any_cutN (k := j + 1) hm)
    rw [decide_eq_true e] at h2
    unfold homB at h2
    rw [decide_eq_false (by omega)] at h2
    simp at h2
theorem ok_step {l : List Opn} {s : Id} {o : Opn} {k : Nat} (h : okN l s o (k + 1)) (hh : hasO l ((all o.pl).getD k zid) = true) : okN l s o k := fun j h1 h2 e => by
  by_cases hjk : j = k
  · subst hjk; exact hh
  · exact h j (by omega) h2 e
theorem own_last {o : Opn} (h : mayO o = true) (hk : ownB o = true) : (all o.pl).getD ((all o.pl).length - 1) zid = idO o := by
  have h3 := (mayO_parts h).2.2
  have hl := lastV_all (mayO_parts h).2.1
  unfold kindB kindF at h3
  unfold ownB at hk
  rw [hl] at h3
  have : o.k = 1 ∨ o.k = 2 := by simpa using hk
  have h4 : (((((all o.pl).getD ((all o.pl).length - 1) zid).t : Int), (((all o.pl).getD ((all o.pl).length - 1) zid).r : Int)) : Int × Int) = ((o.t : Int), (o.r : Int)) := by
    rcases this with e | e
    · rw [e] at h3; simp at h3; simpa using h3.1
    · rw [e] at h3; simp at h3; simpa using h3.1
  obtain ⟨h5, h6⟩ := Prod.mk.inj h4
  exact Id.ext' (by show _ = o.t; omega) (by show _ = o.r; omega)
theorem ok_no {l : List Opn} {s : Id} {o : Opn} {k : Nat} (hE : spanE l s = 0) (ho : o ∈ l) (hB : homB (fromL l s) (toL l s) o.pl = true) (hk : k < (all o.pl).length)
    (h1 : ¬ cmp (cutN o.pl (k + 1)) (fromL l s) < 0) (h2 : hasO l ((all o.pl).getD k zid) = false) : isB l (livesM l l) s o = false := by
  have hO := (spanE_zero.1 hE).1.2.1 o ho
  have hm := (mayO_parts hO).2.1
  have hc := ((mayB_iff o.pl).1 hm).2.2.1
  have hkm : k < manyN o := by
    unfold manyN offs
    by_cases hw : ownB o = true
    · rw [if_pos hw]
      by_cases he : k = (all o.pl).length - 1
      · rw [he, own_last hO hw] at h2
        exact absurd rfl (hasO_no.1 h2 o ho)
      · omega
    · rw [if_neg hw]; omega
  have hh : homeM (livesM l l) (cutN o.pl (k + 1)) = s := by
    have e := homB_is hE (any_cutN (k := k + 1) hm)
    have hF := from_any hE
    have e2 : homB (fromL l s) (toL l s) (cutN o.pl (k + 1)) = true := by
      unfold homB at hB ⊢
      rw [Bool.and_eq_true, Bool.or_eq_true, decide_eq_true_iff, decide_eq_true_iff, decide_eq_true_iff] at hB ⊢
      refine ⟨?_, hB.2.imp id fun h => ?_⟩
      · rw [cmp_any hF (any_cutN hm)]
        rw [cmp_any (any_cutN hm) hF] at h1
        have := hold_neg (all (cutN o.pl (k + 1))) (all (fromL l s))
        omega
      · have hT : anyB (toL l s) = true := by
          obtain ⟨hb, hs⟩ := spanE_zero.1 hE
          unfold toL
          rw [if_pos ⟨(bagB_iff l).2 hb, hs⟩]
          exact begin_any (liv_bag hb) _
        rw [cmp_any (anyB_may hm) hT] at h
        rw [cmp_any (any_cutN hm) hT]
        have h3 := hold_range (all o.pl) (all (toL l s))
        have h4 := cut_ahead hm (show k + 1 ≤ (all o.pl).length by omega)
        rw [cutN_all hc] at h4
        rcases h4 with h5 | h5
        · rw [(hold_eq _ _).1 h5]; omega
        · have := hold_trans _ _ _ h5 (show Go.Proofs.YtgjbnbojjgbmcaaGreat.Place.hold (all o.pl) (all (toL l s)) = -1 by omega)
          omega
    rw [e2] at e
    exact of_decide_eq_true e.symm
  cases hz : isB l (livesM l l) s o
  · rfl
  · have := isB_iff.1 hz k hkm hh
    rw [this] at h2
    cases h2
/-- A place without its last stamp, by its last run. -/
def downL (p : List Run) : List Run := p.take (p.length - 1) ++ (if (p.getD (p.length - 1) zrun).m = 1 then [] else [mkRun (p.getD (p.length - 1) zrun).t (p.getD (p.length - 1) zrun).r ((p.getD (p.length - 1) zrun).m - 1)])
theorem down_is : ∀ {p : List Run}, Chain p → 0 < p.length → cutN p ((all p).length - 1) = downL p
  | [], _, h => by simp at h
  | [x], hc, _ => by
    obtain ⟨n, hn, n1, n2, n3, n4⟩ := hc.head.nat
    have e : (all [x]).length = n := by
      show (up x.t x.r x.m.toNat ++ []).length = n
      rw [List.append_nil, up_len]; omega
    rw [e]
    unfold downL cutN
    simp only [List.length_singleton, Nat.sub_self, List.take_zero, List.nil_append, List.getD_cons_zero]
    by_cases h1 : x.m = 1
    · rw [if_pos h1, if_pos (by omega)]
    · rw [if_neg h1, if_neg (by omega), if_neg (by omega)]
      congr 2
      omega
  | x :: y :: p, hc, _ => by
    obtain ⟨n, hn, n1, n2, n3, n4⟩ := hc.head.nat
    have ih := down_is hc.tail (by simp)
    obtain ⟨m, hm, m1, m2, m3, m4⟩ := hc.tail.head.nat
    have e2 : 1 ≤ (all (y :: p)).length := by
      show 1 ≤ (up y.t y.r y.m.toNat ++ all p).length
      rw [List.length_append, up_len]; omega
    have e : (all (x :: y :: p)).length = n + (all (y :: p)).length := by
      show (up x.t x.r x.m.toNat ++ all (y :: p)).length = _
      rw [List.length_append, up_len]; omega
    have e3 : cutN (x :: y :: p) ((all (x :: y :: p)).length - 1) = x :: cutN (y :: p) ((all (y :: p)).length - 1) := by
      rw [e]
      conv => lhs; unfold cutN
      rw [if_neg (by omega), if_pos (by omega)]
      congr 2
      omega
    rw [e3, ih]
    unfold downL
    simp
theorem cut_down {p : List Run} (h : mayB p = true) {k : Nat} (hk : k < (all p).length) : cutN p k = downL (cutN p (k + 1)) := by
  have hc := ((mayB_iff p).1 h).2.2.1
  have hm := may_cutN (k := k + 1) h (by omega)
  have e : (all (cutN p (k + 1))).length = k + 1 := by rw [all_cutN hc, List.length_take]; omega
  rw [← down_is (chain_cutN hc) ((mayB_iff _).1 hm).1, e, cutN_cutN hc (by omega)]
  rfl
end Go.Proofs.YtgjbnbojjgbmcaaGreat.Covers
