/- Stamps, and slices of them: what a slice value holds. Conditions: none. -/
import Derived.Test.YtgeeaipdihlmhaaCells
namespace Go.Proofs.Ytgeeaipdihlmhaa
open Go.RowKit Go.WideShapes

/-- A stamp: a time, a replica. -/
structure Id where
  t : Nat
  r : Nat
  ht : t < 4294967296
  hr : r < 256
theorem Id.ext' {a b : Id} (h1 : a.t = b.t) (h2 : a.r = b.r) : a = b := by
  obtain ⟨t, r, _, _⟩ := a; obtain ⟨u, s, _, _⟩ := b
  simp only at h1 h2
  subst h1 h2
  rfl
theorem Id.eq_iff {a b : Id} : a = b ↔ a.t = b.t ∧ a.r = b.r := ⟨fun h => by rw [h]; exact ⟨rfl, rfl⟩, fun h => Id.ext' h.1 h.2⟩
instance : DecidableEq Id := fun a b => if h : a.t = b.t ∧ a.r = b.r then isTrue (Id.eq_iff.2 h) else isFalse (fun e => h (Id.eq_iff.1 e))
/-- The zero stamp. -/
def zid : Id := ⟨0, 0, by decide, by decide⟩
/-- A stamp as a value. -/
def idv (a : Id) : Value := .agg #[.int .u32 (a.t : Int), .int .u8 (a.r : Int)]
/-- Stamps as cells. -/
def ids : List Id → List Value
  | [] => []
  | a :: l => .int .u32 (a.t : Int) :: .int .u8 (a.r : Int) :: ids l
theorem ids_len : ∀ l : List Id, (ids l).length = l.length * 2
  | [] => rfl
  | a :: l => by simp [ids, ids_len l]; omega
theorem ids_append : ∀ l m : List Id, ids (l ++ m) = ids l ++ ids m
  | [], m => rfl
  | a :: l, m => by simp [ids, ids_append l m]
theorem ids_get : ∀ (l : List Id) (j : Nat), j < l.length → (ids l)[j * 2]? = some (.int .u32 ((l.getD j zid).t : Int)) ∧ (ids l)[j * 2 + 1]? = some (.int .u8 ((l.getD j zid).r : Int))
  | [], j, h => by simp at h
  | a :: l, 0, _ => by simp [ids]
  | a :: l, j + 1, h => by
    have := ids_get l j (by simpa using h)
    rw [show (j + 1) * 2 = j * 2 + 1 + 1 by omega]
    simpa [ids] using this
theorem ids_oneCell : ∀ l : List Id, ∀ u ∈ ids l, u.oneCell' = true
  | [], u, h => by simp [ids] at h
  | a :: l, u, h => by
    simp only [ids, List.mem_cons] at h
    rcases h with rfl | rfl | h
    · rfl
    · rfl
    · exact ids_oneCell l u h
/-- A slice of stamps. -/
def Ids (w : World) (v : Value) (l : List Id) : Prop := Sees w v 2 l.length (ids l)
theorem Ids.keeps {w w' : World} {v : Value} {l : List Id} (h : Ids w v l) (hb : Below w.heap.size w w') : Ids w' v l := Sees.keeps h hb
theorem Ids.nil (w : World) : Ids w (.slice none 0 0) [] := Sees.nil w 2
theorem Ids.shape {w : World} {v : Value} {l : List Id} (h : Ids w v l) : ∃ ao cap, v = .slice ao l.length cap := Sees.shape h
theorem Ids.at {w : World} {ao : Option Addr} {m cap : Nat} {l : List Id} (h : Ids w (.slice ao m cap) l) (k : Nat) (hk : k < l.length) :
    ∃ b off, ao = some ⟨b, off, none⟩ ∧ b < w.heap.size ∧ w.cell? ⟨b, off + k * 2, none⟩ = some (.int .u32 ((l.getD k zid).t : Int)) ∧ w.cell? ⟨b, off + k * 2 + 1, none⟩ = some (.int .u8 ((l.getD k zid).r : Int)) := by
  obtain ⟨b, off, h1, h2, h3⟩ := Sees.at h (k * 2) (by rw [ids_len]; omega)
  have e := ids_get l k hk
  exact ⟨b, off, h1, h2, (h3 (k * 2) (by rw [ids_len]; omega)).trans e.1, (h3 (k * 2 + 1) (by rw [ids_len]; omega)).trans e.2⟩
theorem Ids.own {w : World} {base : Nat} {e : TypeId} {v : Value} {n : Nat} {l : List Id} (h : w.ownsRow base e 2 v n (ids l)) : Ids w v l := by
  have h1 := h.1
  rw [ids_len] at h1
  obtain rfl : l.length = n := by omega
  exact Sees.own h
theorem ids_new (w : World) (l : List Id) (n : Nat) (hn : n = l.length) (hl : l.length ≤ 1000000) (e : TypeId) (fr : Nat × Nat) : Ids (w.alloc (.cells (ids l).toArray e fr)) (.slice (some ⟨w.heap.size, 0, none⟩) n n) l := by
  subst hn
  exact sees_new w (ids l) 2 l.length (ids_len l) hl _ _

/-- Old cells and marks behind a call that writes nothing that was there. -/
theorem bcell {B : Nat} {w w1 : World} (hb : Below B w w1) : (∀ b o, b < B → w1.cell? ⟨b, o, none⟩ = w.cell? ⟨b, o, none⟩) ∧ (∀ b o, b < B → w1.frozen? ⟨b, o, none⟩ = w.frozen? ⟨b, o, none⟩) :=
  ⟨fun b o h => hb.cell (p := ⟨b, o, none⟩) h, fun b o h => hb.frozen (p := ⟨b, o, none⟩) h⟩

/-- A block whose first two cells are these. -/
def Pair (w : World) (h : Nat) (c0 c1 : Value) : Prop := h < w.heap.size ∧ w.cell? ⟨h, 0, none⟩ = some c0 ∧ w.cell? ⟨h, 1, none⟩ = some c1
theorem Pair.keeps {w w' : World} {h : Nat} {c0 c1 : Value} (p : Pair w h c0 c1) (hb : Below w.heap.size w w') : Pair w' h c0 c1 :=
  ⟨Nat.lt_of_lt_of_le p.1 hb.size, (hb.cell (p := ⟨h, 0, none⟩) p.1).trans p.2.1, (hb.cell (p := ⟨h, 1, none⟩) p.1).trans p.2.2⟩
theorem pair_new (w : World) (c0 c1 : Value) (e : TypeId) : Pair (w.alloc (.cells #[c0, c1] e)) w.heap.size c0 c1 :=
  ⟨by simp, cell_of_row _ w.heap.size 0 #[c0, c1] e _ (heap_alloc_new w _), cell_of_row _ w.heap.size 1 #[c0, c1] e _ (heap_alloc_new w _)⟩
theorem Pair.alloc {w : World} {h : Nat} {c0 c1 : Value} (p : Pair w h c0 c1) (o : Obj) : Pair (w.alloc o) h c0 c1 := p.keeps ((Below.refl _ _).alloc (Nat.le_refl _) o)
theorem keepP1 {wl w1 w2 : World} {h1 : Nat} {c0 c1 : Value} (p1 : Pair wl h1 c0 c1) (h : Below w1.heap.size w1 w2) (hb : Below wl.heap.size wl w1) :
    Below wl.heap.size wl w2 ∧ w2.cell? ⟨h1, 0, none⟩ = some c0 ∧ w2.cell? ⟨h1, 1, none⟩ = some c1 :=
  have b := bt hb h
  ⟨b, (p1.keeps b).2.1, (p1.keeps b).2.2⟩
theorem keepP1b {wl w2 : World} {h1 : Nat} {c0 c1 : Value} (p1 : Pair wl h1 c0 c1) (b : Below wl.heap.size wl w2) :
    Below wl.heap.size wl w2 ∧ w2.cell? ⟨h1, 0, none⟩ = some c0 ∧ w2.cell? ⟨h1, 1, none⟩ = some c1 :=
  ⟨b, (p1.keeps b).2.1, (p1.keeps b).2.2⟩
theorem keepP2 {wl w1 w2 : World} {h1 h2 : Nat} {c0 c1 d0 d1 : Value} (p1 : Pair wl h1 c0 c1) (p2 : Pair wl h2 d0 d1) (h : Below w1.heap.size w1 w2) (hb : Below wl.heap.size wl w1) :
    Below wl.heap.size wl w2 ∧ w2.cell? ⟨h1, 0, none⟩ = some c0 ∧ w2.cell? ⟨h1, 1, none⟩ = some c1 ∧ w2.cell? ⟨h2, 0, none⟩ = some d0 ∧ w2.cell? ⟨h2, 1, none⟩ = some d1 :=
  have b := bt hb h
  ⟨b, (p1.keeps b).2.1, (p1.keeps b).2.2, (p2.keeps b).2.1, (p2.keeps b).2.2⟩
theorem keepP3 {wl w1 w2 : World} {h1 h2 h3 : Nat} {c0 c1 d0 d1 e0 e1 : Value} (p1 : Pair wl h1 c0 c1) (p2 : Pair wl h2 d0 d1) (p3 : Pair wl h3 e0 e1) (h : Below w1.heap.size w1 w2) (hb : Below wl.heap.size wl w1) :
    Below wl.heap.size wl w2 ∧ w2.cell? ⟨h1, 0, none⟩ = some c0 ∧ w2.cell? ⟨h1, 1, none⟩ = some c1 ∧ w2.cell? ⟨h2, 0, none⟩ = some d0 ∧ w2.cell? ⟨h2, 1, none⟩ = some d1 ∧ w2.cell? ⟨h3, 0, none⟩ = some e0 ∧ w2.cell? ⟨h3, 1, none⟩ = some e1 :=
  have b := bt hb h
  ⟨b, (p1.keeps b).2.1, (p1.keeps b).2.2, (p2.keeps b).2.1, (p2.keeps b).2.2, (p3.keeps b).2.1, (p3.keeps b).2.2⟩
theorem keepP4 {wl w1 w2 : World} {h1 h2 h3 h4 : Nat} {c0 c1 d0 d1 e0 e1 f0 f1 : Value} (p1 : Pair wl h1 c0 c1) (p2 : Pair wl h2 d0 d1) (p3 : Pair wl h3 e0 e1) (p4 : Pair wl h4 f0 f1) (h : Below w1.heap.size w1 w2) (hb : Below wl.heap.size wl w1) :
    Below wl.heap.size wl w2 ∧ w2.cell? ⟨h1, 0, none⟩ = some c0 ∧ w2.cell? ⟨h1, 1, none⟩ = some c1 ∧ w2.cell? ⟨h2, 0, none⟩ = some d0 ∧ w2.cell? ⟨h2, 1, none⟩ = some d1 ∧ w2.cell? ⟨h3, 0, none⟩ = some e0 ∧ w2.cell? ⟨h3, 1, none⟩ = some e1 ∧ w2.cell? ⟨h4, 0, none⟩ = some f0 ∧ w2.cell? ⟨h4, 1, none⟩ = some f1 :=
  have b := bt hb h
  ⟨b, (p1.keeps b).2.1, (p1.keeps b).2.2, (p2.keeps b).2.1, (p2.keeps b).2.2, (p3.keeps b).2.1, (p3.keeps b).2.2, (p4.keeps b).2.1, (p4.keeps b).2.2⟩
theorem drew1 (w : World) : Below w.heap.size w w.drew := (Below.refl _ _).drew

/-- New stamps: zeros. -/
theorem made_ids (n : Nat) : (madeCells #[.int .u32 0, .int .u8 0] (n * 2)).toList = ids (List.replicate n zid) := by
  apply List.ext_getElem?
  intro j
  by_cases hj : j < n * 2
  · have e := ids_get (List.replicate n zid) (j / 2) (by simp; omega)
    have ez : (List.replicate n zid).getD (j / 2) zid = zid := by simp [List.getD, List.getElem?_replicate]; split <;> rfl
    rw [ez] at e
    rcases (by omega : j = j / 2 * 2 ∨ j = j / 2 * 2 + 1) with h | h
    · have e2 : (ids (List.replicate n zid))[j]? = some (.int .u32 0) := by rw [h]; exact e.1
      rw [e2]
      simp [madeCells, hj, show j % 2 = 0 by omega]
    · have e2 : (ids (List.replicate n zid))[j]? = some (.int .u8 0) := by rw [h]; exact e.2
      rw [e2]
      simp [madeCells, hj, show j % 2 = 1 by omega]
  · rw [List.getElem?_eq_none (by simp [madeCells]; omega), List.getElem?_eq_none (by rw [ids_len]; simp; omega)]
theorem id_info : (Try.prog.info? 27).map (fun i => (i.zero, i.size, i.bytes)) = some (some (.agg #[.int .u32 0, .int .u8 0]), 2, 8) := by kernel_rfl
end Go.Proofs.Ytgeeaipdihlmhaa
