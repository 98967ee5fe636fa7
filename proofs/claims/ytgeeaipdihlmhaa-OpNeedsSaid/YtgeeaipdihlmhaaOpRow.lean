/- An operation that came in: what it holds. Conditions: none. -/
import Derived.Test.YtgeeaipdihlmhaaRunsRow
import Derived.Test.YtgeeaipdihlmhaaOpCheck
namespace Go.Proofs.Ytgeeaipdihlmhaa
open Go.Joins Go.ChangeShapes Go.WideShapes Go.ChangeAt Go.RowKit Go.Deep Go.Proofs.Ytgeeaipdihlmhaa.Ops

set_option maxRecDepth 100000 in
theorem runs_cells {H : Type} {enc : TypeId × Value → H} {W : World} {v : Value} {fuel : Nat} {y : DataW H × List MemPlace}
    (hf : DataW.trod enc Try.prog W 0 (fun _ => true) true fuel 25 [v] = some y) :
    ∃ (ao : Option Addr) (cap : Nat) (l : List Run), v = .slice ao l.length cap ∧ Runs W (.slice ao l.length cap) l := by
  rcases open_slice Try.underlying25 hf with ⟨hcs, hx⟩ | ⟨a, len, cap, m, n, D, Pl, hcs, _, hl, hm, hmm, hx, hi⟩
  · obtain rfl : v = .slice none 0 0 := by simpa using hcs
    exact ⟨none, 0, [], rfl, Runs.nil W⟩
  · obtain rfl : v = .slice (some a) len cap := by simpa using hcs
    simp only [if_true] at hmm
    subst hmm
    unfold maxLen at hm
    have each : ∀ i, i < m → ∃ x : Run, W.cell? (a.add (i * 3)) = some (.int .u32 (x.t : Int)) ∧ W.cell? ((a.add (i * 3)).add 1) = some (.int .u8 (x.r : Int)) ∧ W.cell? ((a.add (i * 3)).add 2) = some (.int .i64 x.m) := by
      intro i him
      obtain ⟨cs, hc, ht⟩ := hi i him
      rw [kit_cellsRun] at hc
      obtain ⟨_, hcl, hat⟩ := World.cells?_some hc
      obtain ⟨y0, y1, y2, n2, -, hlen, h0, h1, h2⟩ := trod_struct3 Try.underlying24 ht
      match cs, hcl with
      | [c0, c1, c2], _ =>
        have h0' : DataW.trod enc Try.prog W 0 (fun _ => true) true n2 22 [c0] = some y0 := h0
        have h1' : DataW.trod enc Try.prog W 0 (fun _ => true) true n2 5 [c1] = some y1 := h1
        have h2' : DataW.trod enc Try.prog W 0 (fun _ => true) true n2 3 [c2] = some y2 := h2
        obtain ⟨z, e0, -, wz⟩ := DataW.trod_int Try.underlying22 h0'
        obtain ⟨u, e1, -, wu⟩ := DataW.trod_int Try.underlying5 h1'
        obtain ⟨mm, e2, -, wm⟩ := DataW.trod_int Try.underlying3 h2'
        simp at e0 e1 e2
        subst e0 e1 e2
        have hmb : -9223372036854775808 ≤ mm ∧ mm ≤ 9223372036854775807 := by simpa [Lit.wf, IntKind.min, IntKind.max, IntKind.signed, IntKind.bits] using wm
        obtain ⟨tn, rfl, hn⟩ := wf_u32 wz
        obtain ⟨q, rfl, hq⟩ := wf_u8 wu
        have g0 := hat 0 (by omega)
        have g1 := hat 1 (by omega)
        have g2 := hat 2 (by omega)
        exact ⟨⟨tn, q, mm, hn, hq, hmb⟩, by simpa [Addr.add] using g0, by simpa using g1, by simpa using g2⟩
    have hsel : ∃ f : Nat → Run, ∀ i, i < m → W.cell? (a.add (i * 3)) = some (.int .u32 ((f i).t : Int)) ∧ W.cell? ((a.add (i * 3)).add 1) = some (.int .u8 ((f i).r : Int)) ∧ W.cell? ((a.add (i * 3)).add 2) = some (.int .i64 (f i).m) :=
      ⟨fun i => if h : i < m then Classical.choose (each i h) else zrun, fun i h => by simp only [h, dif_pos]; exact Classical.choose_spec (each i h)⟩
    obtain ⟨f, hf⟩ := hsel
    have hxl : ((List.range len).map f).length = len := by simp
    refine ⟨some a, m, (List.range len).map f, by rw [hxl], by rw [runs_len], some a, m, rfl, by omega, hm, by simp, ?_⟩
    by_cases hl0 : len = 0
    · left; subst hl0; rfl
    · right
      obtain ⟨b, off, spot⟩ := a
      have hspot : spot = none := by simpa [Addr.add] using World.cell?_spot (hf 0 (by omega)).1
      subst hspot
      refine ⟨b, off, rfl, World.block_lt_of_cell? W ⟨b, off, none⟩ (by simpa [Addr.add] using (hf 0 (by omega)).1), fun j u hj => ?_⟩
      have hjl : j < (runs ((List.range len).map f)).length := (List.getElem?_eq_some_iff.1 hj).1
      rw [runs_len, hxl] at hjl
      obtain ⟨i, hij⟩ : ∃ i, j = i * 3 ∨ j = i * 3 + 1 ∨ j = i * 3 + 2 := ⟨j / 3, by omega⟩
      have e := runs_get ((List.range len).map f) i (by rw [hxl]; omega)
      have ef : ((List.range len).map f).getD i zrun = f i := by simp [List.getD, show i < len by omega]
      rw [ef] at e
      have g := hf i (by omega)
      rw [add_plain, add_plain, add_plain] at g
      rcases hij with rfl | rfl | rfl
      · rw [e.1] at hj
        rw [← hj]
        exact g.1
      · rw [e.2.1] at hj
        rw [← hj]
        exact g.2.1
      · rw [e.2.2] at hj
        rw [← hj]
        exact g.2.2

theorem array5 {α : Type} {cs : Array α} (h : cs.size = 5) : ∃ c0 c1 c2 c3 c4, cs = #[c0, c1, c2, c3, c4] := by
  obtain ⟨l⟩ := cs
  match l, h with
  | [c0, c1, c2, c3, c4], _ => exact ⟨c0, c1, c2, c3, c4, rfl⟩
set_option maxRecDepth 100000 in
theorem kit_cellsOp : Try.prog.cellsOf 30 = 5 := by kernel_rfl

set_option maxRecDepth 100000 in
theorem op_of {H : Type} {enc : TypeId × Value → H} {W : World} {v : Value} {d : DataW H} {p : List MemPlace} {base : Nat}
    (hv : Value.okWide Try.prog W .any base 30 v) (h : DataW.Trod enc Try.prog W 0 (fun _ => true) true 30 v d p) :
    ∃ (o : Opn) (ao : Option Addr) (cap : Nat), v = opv o (.slice ao o.pl.length cap) ∧ Runs W (.slice ao o.pl.length cap) o.pl := by
  obtain ⟨cs, rfl, hsz⟩ := okWide_struct Try.underlying30 hv
  obtain ⟨c0, c1, c2, c3, c4, rfl⟩ := array5 (hsz.trans kit_cellsOp)
  obtain ⟨fuel, hf⟩ := h
  obtain ⟨y0, y1, y2, y3, n, -, -, h0, h1, h2, h3⟩ := trod_struct4 Try.underlying30 hf
  have h0' : DataW.trod enc Try.prog W 0 (fun _ => true) true n 5 [c0] = some y0 := h0
  have h1' : DataW.trod enc Try.prog W 0 (fun _ => true) true n 27 [c1, c2] = some y1 := h1
  have h2' : DataW.trod enc Try.prog W 0 (fun _ => true) true n 25 [c3] = some y2 := h2
  have h3' : DataW.trod enc Try.prog W 0 (fun _ => true) true n 3 [c4] = some y3 := h3
  obtain ⟨z0, z1, n2, -, -, g0, g1⟩ := trod_struct2 Try.underlying27 h1'
  have g0' : DataW.trod enc Try.prog W 0 (fun _ => true) true n2 22 [c1] = some z0 := g0
  have g1' : DataW.trod enc Try.prog W 0 (fun _ => true) true n2 5 [c2] = some z1 := g1
  obtain ⟨k, e0, -, wk⟩ := DataW.trod_int Try.underlying5 h0'
  obtain ⟨t, e1, -, wt⟩ := DataW.trod_int Try.underlying22 g0'
  obtain ⟨r, e2, -, wr⟩ := DataW.trod_int Try.underlying5 g1'
  obtain ⟨q, e4, -, wq⟩ := DataW.trod_int Try.underlying3 h3'
  obtain ⟨ao, cap, l, e3, hl⟩ := runs_cells h2'
  simp at e0 e1 e2 e4
  subst e0 e1 e2 e3 e4
  have hq : -9223372036854775808 ≤ q ∧ q ≤ 9223372036854775807 := by simpa [Lit.wf, IntKind.min, IntKind.max, IntKind.signed, IntKind.bits] using wq
  obtain ⟨k, rfl, hk⟩ := wf_u8 wk
  obtain ⟨t, rfl, ht⟩ := wf_u32 wt
  obtain ⟨r, rfl, hr⟩ := wf_u8 wr
  exact ⟨⟨k, t, r, l, q, hk, ht, hr, hq⟩, ao, cap, rfl, hl⟩
end Go.Proofs.Ytgeeaipdihlmhaa
