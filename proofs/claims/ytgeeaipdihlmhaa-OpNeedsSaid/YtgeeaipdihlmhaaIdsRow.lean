/- A stamp, a slice of stamps that came in: what it holds. Conditions: none. -/
import Derived.Test.YtgeeaipdihlmhaaRow
import Derived.Test.YtgeeaipdihlmhaaIds
import Derived.Lib.SmallJoins
namespace Go.Proofs.Ytgeeaipdihlmhaa
open Go.Joins Go.ChangeShapes Go.WideShapes Go.ChangeAt Go.RowKit Go.Deep

set_option maxRecDepth 100000 in
theorem kit_cellsId : Try.prog.cellsOf 27 = 2 := by kernel_rfl

set_option maxRecDepth 100000 in
theorem wf_u32 {a : Int} (h : (Lit.int .u32 a).wf = true) : ∃ n : Nat, a = (n : Int) ∧ n < 4294967296 := by
  have hb : 0 ≤ a ∧ a ≤ 4294967295 := by simpa [Lit.wf, IntKind.min, IntKind.max, IntKind.signed, IntKind.bits] using h
  exact ⟨a.toNat, by omega, by omega⟩
set_option maxRecDepth 100000 in
theorem wf_u8 {a : Int} (h : (Lit.int .u8 a).wf = true) : ∃ n : Nat, a = (n : Int) ∧ n < 256 := by
  have hb : 0 ≤ a ∧ a ≤ 255 := by simpa [Lit.wf, IntKind.min, IntKind.max, IntKind.signed, IntKind.bits] using h
  exact ⟨a.toNat, by omega, by omega⟩

set_option maxRecDepth 100000 in
theorem id_of {H : Type} {enc : TypeId × Value → H} {W : World} {v : Value} {d : DataW H} {p : List MemPlace} {base : Nat}
    (hv : Value.okWide Try.prog W .any base 27 v) (h : DataW.Trod enc Try.prog W 0 (fun _ => true) true 27 v d p) :
    ∃ a : Id, v = .agg #[.int .u32 (a.t : Int), .int .u8 (a.r : Int)] := by
  obtain ⟨c0, c1, y0, y1, m, rfl, -, -, hy0, hy1⟩ := open_agg2 Try.underlying27 (by kernel_rfl) kit_cellsId hv h
  obtain ⟨a, e0, -, wa⟩ := DataW.trod_int Try.underlying22 hy0
  obtain ⟨b, e1, -, wb⟩ := DataW.trod_int Try.underlying5 hy1
  simp at e0 e1
  subst e0 e1
  obtain ⟨n, rfl, hn⟩ := wf_u32 wa
  obtain ⟨q, rfl, hq⟩ := wf_u8 wb
  exact ⟨⟨n, q, hn, hq⟩, rfl⟩

set_option maxRecDepth 100000 in
theorem ids_of {H : Type} {enc : TypeId × Value → H} {W : World} {v : Value} {d : DataW H} {p : List MemPlace} {base : Nat}
    (hv : Value.okWide Try.prog W .any base 36 v) (h : DataW.Trod enc Try.prog W 0 (fun _ => true) true 36 v d p) :
    ∃ (ao : Option Addr) (cap : Nat) (l : List Id), v = .slice ao l.length cap ∧ Ids W (.slice ao l.length cap) l := by
  obtain ⟨a0, len, cap, rfl⟩ := okWide_slice Try.underlying36 hv
  obtain ⟨fuel, hf⟩ := h
  rcases open_slice Try.underlying36 hf with ⟨hcs, hx⟩ | ⟨a, len', cap', m, n, D, Pl, hcs, _, hl, hm, hmm, hx, hi⟩
  · simp [Value.cells] at hcs
    obtain ⟨rfl, rfl, rfl⟩ := hcs
    exact ⟨none, 0, [], rfl, Ids.nil W⟩
  · simp [Value.cells] at hcs
    obtain ⟨rfl, rfl, rfl⟩ := hcs
    simp only [if_true] at hmm
    subst hmm
    unfold maxLen at hm
    have each : ∀ i, i < m → ∃ x : Id, W.cell? (a.add (i * 2)) = some (.int .u32 (x.t : Int)) ∧ W.cell? ((a.add (i * 2)).add 1) = some (.int .u8 (x.r : Int)) := by
      intro i him
      obtain ⟨cs, hc, ht⟩ := hi i him
      rw [kit_cellsId] at hc
      obtain ⟨_, hcl, hat⟩ := World.cells?_some hc
      obtain ⟨y0, y1, n2, -, hlen, h0, h1⟩ := trod_struct2 Try.underlying27 ht
      match cs, hcl with
      | [c0, c1], _ =>
        have h0' : DataW.trod enc Try.prog W 0 (fun _ => true) true n2 22 [c0] = some y0 := h0
        have h1' : DataW.trod enc Try.prog W 0 (fun _ => true) true n2 5 [c1] = some y1 := h1
        obtain ⟨z, e0, -, wz⟩ := DataW.trod_int Try.underlying22 h0'
        obtain ⟨u, e1, -, wu⟩ := DataW.trod_int Try.underlying5 h1'
        simp at e0 e1
        subst e0 e1
        obtain ⟨tn, rfl, hn⟩ := wf_u32 wz
        obtain ⟨q, rfl, hq⟩ := wf_u8 wu
        have g0 := hat 0 (by omega)
        have g1 := hat 1 (by omega)
        exact ⟨⟨tn, q, hn, hq⟩, by simpa [Addr.add] using g0, by simpa using g1⟩
    have hsel : ∃ f : Nat → Id, ∀ i, i < m → W.cell? (a.add (i * 2)) = some (.int .u32 ((f i).t : Int)) ∧ W.cell? ((a.add (i * 2)).add 1) = some (.int .u8 ((f i).r : Int)) :=
      ⟨fun i => if h : i < m then Classical.choose (each i h) else zid, fun i h => by simp only [h, dif_pos]; exact Classical.choose_spec (each i h)⟩
    obtain ⟨f, hf⟩ := hsel
    have hxl : ((List.range len).map f).length = len := by simp
    refine ⟨some a, m, (List.range len).map f, by rw [hxl], by rw [ids_len], some a, m, rfl, by omega, hm, by simp, ?_⟩
    by_cases hl0 : len = 0
    · left; subst hl0; rfl
    · right
      obtain ⟨b, off, spot⟩ := a
      have hspot : spot = none := by simpa [Addr.add] using World.cell?_spot (hf 0 (by omega)).1
      subst hspot
      refine ⟨b, off, rfl, World.block_lt_of_cell? W ⟨b, off, none⟩ (by simpa [Addr.add] using (hf 0 (by omega)).1), fun j u hj => ?_⟩
      have hjl : j < (ids ((List.range len).map f)).length := (List.getElem?_eq_some_iff.1 hj).1
      rw [ids_len, hxl] at hjl
      obtain ⟨i, hij⟩ : ∃ i, j = i * 2 ∨ j = i * 2 + 1 := ⟨j / 2, by omega⟩
      have e := ids_get ((List.range len).map f) i (by rw [hxl]; omega)
      have ef : ((List.range len).map f).getD i zid = f i := by simp [List.getD, show i < len by omega]
      rw [ef] at e
      have g := hf i (by omega)
      rw [add_plain, add_plain] at g
      rcases hij with rfl | rfl
      · rw [e.1] at hj
        rw [← hj]
        exact g.1
      · rw [e.2] at hj
        rw [← hj]
        exact g.2
end Go.Proofs.Ytgeeaipdihlmhaa
