/- A slice of runs that came in: what it holds. Conditions: none. -/
import Derived.Test.YtgeeaipdihlmhaaRow
import Derived.Test.YtgeeaipdihlmhaaIdsRow
import Derived.Test.YtgeeaipdihlmhaaRuns
import Derived.Lib.SmallJoins
namespace Go.Proofs.Ytgeeaipdihlmhaa
open Go.Joins Go.ChangeShapes Go.WideShapes Go.ChangeAt Go.RowKit Go.Deep

theorem kit_cellsRun : Try.prog.cellsOf 24 = 3 := by kernel_rfl

theorem runs_of {H : Type} {enc : TypeId × Value → H} {W : World} {v : Value} {d : DataW H} {p : List MemPlace} {base : Nat}
    (hv : Value.okWide Try.prog W .any base 25 v) (h : DataW.Trod enc Try.prog W 0 (fun _ => true) true 25 v d p) :
    ∃ (ao : Option Addr) (cap : Nat) (l : List Run), v = .slice ao l.length cap ∧ Runs W (.slice ao l.length cap) l := by
  obtain ⟨a0, len, cap, rfl⟩ := okWide_slice Try.underlying25 hv
  obtain ⟨fuel, hf⟩ := h
  rcases open_slice Try.underlying25 hf with ⟨hcs, hx⟩ | ⟨a, len', cap', m, n, D, Pl, hcs, _, hl, hm, hmm, hx, hi⟩
  · simp [Value.cells] at hcs
    obtain ⟨rfl, rfl, rfl⟩ := hcs
    exact ⟨none, 0, [], rfl, Runs.nil W⟩
  · simp [Value.cells] at hcs
    obtain ⟨rfl, rfl, rfl⟩ := hcs
    simp only [if_true] at hmm
    subst hmm
    unfold maxLen at hm
    have each : ∀ i, i < m → ∃ x : Run, W.cell? (a.add (i * 3)) = some (.int .u32 (x.t : Int)) ∧ W.cell? ((a.add (i * 3)).add 1) = some (.int .u8 (x.r : Int)) ∧ W.cell? ((a.add (i * 3)).add 2) = some (.int .i64 x.m) := by
      intro i him
      obtain ⟨cs, hc, ht⟩ := hi i him
      rw [kit_cellsRun] at hc
      obtain ⟨_, hcl, hat⟩ := World.cells?_some hc
      obtain ⟨y0, y1, y2, n2, -, hlen, h0, h1, h2⟩ := trod_struct3 Try.underlying24 ht
      match cs, hcl with
      | [c0, c1, c2], _ =>
        have h0' : DataW.trod enc Try.prog W 0 (fun _ => true) true n2 22 [c0] = some y0 := h0
        have h1' : DataW.trod enc Try.prog W 0 (fun _ => true) true n2 5 [c1] = some y1 := h1
        have h2' : DataW.trod enc Try.prog W 0 (fun _ => true) true n2 3 [c2] = some y2 := h2
        obtain ⟨z, e0, -, wz⟩ := DataW.trod_int Try.underlying22 h0'
        obtain ⟨u, e1, -, wu⟩ := DataW.trod_int Try.underlying5 h1'
        obtain ⟨mm, e2, -, wm⟩ := DataW.trod_int Try.underlying3 h2'
        simp at e0 e1 e2
        subst e0 e1 e2
        have hmb : -9223372036854775808 ≤ mm ∧ mm ≤ 9223372036854775807 := by simpa [Lit.wf, IntKind.min, IntKind.max, IntKind.signed, IntKind.bits] using wm
        obtain ⟨tn, rfl, hn⟩ := wf_u32 wz
        obtain ⟨q, rfl, hq⟩ := wf_u8 wu
        have g0 := hat 0 (by omega)
        have g1 := hat 1 (by omega)
        have g2 := hat 2 (by omega)
        exact ⟨⟨tn, q, mm, hn, hq, hmb⟩, by simpa [Addr.add] using g0, by simpa using g1, by simpa using g2⟩
    have hsel : ∃ f : Nat → Run, ∀ i, i < m → W.cell? (a.add (i * 3)) = some (.int .u32 ((f i).t : Int)) ∧ W.cell? ((a.add (i * 3)).add 1) = some (.int .u8 ((f i).r : Int)) ∧ W.cell? ((a.add (i * 3)).add 2) = some (.int .i64 (f i).m) :=
      ⟨fun i => if h : i < m then Classical.choose (each i h) else zrun, fun i h => by simp only [h, dif_pos]; exact Classical.choose_spec (each i h)⟩
    obtain ⟨f, hf⟩ := hsel
    have hxl : ((List.range len).map f).length = len := by simp
    refine ⟨some a, m, (List.range len).map f, by rw [hxl], by rw [runs_len], some a, m, rfl, by omega, hm, by simp, ?_⟩
    by_cases hl0 : len = 0
    · left; subst hl0; rfl
    · right
      obtain ⟨b, off, spot⟩ := a
      have hspot : spot = none := by simpa [Addr.add] using World.cell?_spot (hf 0 (by omega)).1
      subst hspot
      refine ⟨b, off, rfl, World.block_lt_of_cell? W ⟨b, off, none⟩ (by simpa [Addr.add] using (hf 0 (by omega)).1), fun j u hj => ?_⟩
      have hjl : j < (runs ((List.range len).map f)).length := (List.getElem?_eq_some_iff.1 hj).1
      rw [runs_len, hxl] at hjl
      obtain ⟨i, hij⟩ : ∃ i, j = i * 3 ∨ j = i * 3 + 1 ∨ j = i * 3 + 2 := ⟨j / 3, by omega⟩
      have e := runs_get ((List.range len).map f) i (by rw [hxl]; omega)
      have ef : ((List.range len).map f).getD i zrun = f i := by simp [List.getD, show i < len by omega]
      rw [ef] at e
      have g := hf i (by omega)
      rw [add_plain, add_plain, add_plain] at g
      rcases hij with rfl | rfl | rfl
      · rw [e.1] at hj
        rw [← hj]
        exact g.1
      · rw [e.2.1] at hj
        rw [← hj]
        exact g.2.1
      · rw [e.2.2] at hj
        rw [← hj]
        exact g.2.2
end Go.Proofs.Ytgeeaipdihlmhaa
