/- A slice of a replica's spans that came in: what it holds, the spans in it too. Conditions: none. -/
import Derived.Test.YtinglfhndlklaaaRow
import Derived.Test.YtinglfhndlklaaaTimes
import Derived.Lib.SmallJoins
import Derived.Deep.SlicePairs
namespace Go.Proofs.Ytinglfhndlklaaa
open Go.Joins Go.ChangeShapes Go.WideShapes Go.ChangeAt Go.RowKit Go.Deep Spans Clocks

set_option maxRecDepth 100000 in
theorem kit_cellsSpanT : Try.prog.cellsOf 63 = 2 := by kernel_rfl
set_option maxRecDepth 100000 in
theorem wf_u32t {a : Int} (h : (Lit.int .u32 a).wf = true) : ∃ n : Nat, a = (n : Int) ∧ n < 4294967296 := by
  have hb : 0 ≤ a ∧ a ≤ 4294967295 := by simpa [Lit.wf, IntKind.min, IntKind.max, IntKind.signed, IntKind.bits] using h
  exact ⟨a.toNat, by omega, by omega⟩
set_option maxRecDepth 100000 in
theorem wf_u8t {a : Int} (h : (Lit.int .u8 a).wf = true) : ∃ n : Nat, a = (n : Int) ∧ n < 256 := by
  have hb : 0 ≤ a ∧ a ≤ 255 := by simpa [Lit.wf, IntKind.min, IntKind.max, IntKind.signed, IntKind.bits] using h
  exact ⟨a.toNat, by omega, by omega⟩

set_option maxRecDepth 100000 in
theorem spans_cells {H : Type} {enc : TypeId × Value → H} {W : World} {c1 : Value} {fuel : Nat} {y : DataW H × List MemPlace}
    (hf : DataW.trod enc Try.prog W 0 (fun _ => true) true fuel 26 [c1] = some y) :
    ∃ (ao : Option Addr) (cap : Nat) (l : List Sp), c1 = .slice ao l.length cap ∧ Sps W (.slice ao l.length cap) l ∧ (l = [] ∨ ∃ es sp, y.1 = .slice es sp ∧ es.length = l.length) := by
  rcases open_slice Try.underlying26 hf with ⟨hcs, hx⟩ | ⟨a, len', cap', m, n, D, Pl, hcs, _, hl, hm, hmm, hx, hi⟩
  · obtain rfl : c1 = .slice none 0 0 := by simpa using hcs
    exact ⟨none, 0, [], rfl, Sps.nil W, .inl rfl⟩
  · obtain rfl : c1 = .slice (some a) len' cap' := by simpa using hcs
    simp only [if_true] at hmm
    subst hmm
    unfold maxLen at hm
    have each : ∀ i, i < m → ∃ x : Sp, W.cell? (a.add (i * 2)) = some (.int .u32 (x.f : Int)) ∧ W.cell? ((a.add (i * 2)).add 1) = some (.int .u32 (x.t : Int)) := by
      intro i him
      obtain ⟨cs, hc, ht⟩ := hi i him
      rw [kit_cellsSpanT] at hc
      obtain ⟨_, hcl, hat⟩ := World.cells?_some hc
      obtain ⟨y0, y1, n2, -, hlen, h0, h1⟩ := trod_struct2 Try.underlying63 ht
      match cs, hcl with
      | [c0, c1], _ =>
        have h0' : DataW.trod enc Try.prog W 0 (fun _ => true) true n2 30 [c0] = some y0 := h0
        have h1' : DataW.trod enc Try.prog W 0 (fun _ => true) true n2 30 [c1] = some y1 := h1
        obtain ⟨z, e0, -, wz⟩ := DataW.trod_int Try.underlying30 h0'
        obtain ⟨u, e1, -, wu⟩ := DataW.trod_int Try.underlying30 h1'
        simp at e0 e1
        subst e0 e1
        obtain ⟨tn, rfl, hn⟩ := wf_u32t wz
        obtain ⟨q, rfl, hq⟩ := wf_u32t wu
        have g0 := hat 0 (by omega)
        have g1 := hat 1 (by omega)
        exact ⟨⟨tn, q, hn, hq⟩, by simpa [Addr.add] using g0, by simpa using g1⟩
    have hsel : ∃ f : Nat → Sp, ∀ i, i < m → W.cell? (a.add (i * 2)) = some (.int .u32 ((f i).f : Int)) ∧ W.cell? ((a.add (i * 2)).add 1) = some (.int .u32 ((f i).t : Int)) :=
      ⟨fun i => if h : i < m then Classical.choose (each i h) else zsp, fun i h => by simp only [h, dif_pos]; exact Classical.choose_spec (each i h)⟩
    obtain ⟨f, hf⟩ := hsel
    have hxl : ((List.range len').map f).length = len' := by simp
    refine ⟨some a, m, (List.range len').map f, by rw [hxl], ⟨by rw [sps_len], some a, m, rfl, by omega, hm, by simp, ?_⟩, .inr ⟨_, _, congrArg Prod.fst hx, by simp⟩⟩
    by_cases hl0 : len' = 0
    · left; subst hl0; rfl
    · right
      obtain ⟨b, off, spot⟩ := a
      have hspot : spot = none := by simpa [Addr.add] using World.cell?_spot (hf 0 (by omega)).1
      subst hspot
      refine ⟨b, off, rfl, World.block_lt_of_cell? W ⟨b, off, none⟩ (by simpa [Addr.add] using (hf 0 (by omega)).1), fun j u hj => ?_⟩
      have hjl : j < (sps ((List.range len').map f)).length := (List.getElem?_eq_some_iff.1 hj).1
      rw [sps_len, hxl] at hjl
      obtain ⟨i, hij⟩ : ∃ i, j = i * 2 ∨ j = i * 2 + 1 := ⟨j / 2, by omega⟩
      have e := sps_get ((List.range len').map f) i (by rw [hxl]; omega)
      have ef : ((List.range len').map f).getD i zsp = f i := by simp [List.getD, show i < len' by omega]
      rw [ef] at e
      have g := hf i (by omega)
      rw [add_plain, add_plain] at g
      rcases hij with rfl | rfl
      · rw [e.1] at hj
        rw [← hj]
        exact g.1
      · rw [e.2] at hj
        rw [← hj]
        exact g.2

set_option maxRecDepth 100000 in
theorem hold_of {W : World} : ∀ (cs : List Value) (c : List Tm), cs.length = c.length * 2 → (∀ k, k < c.length → cs[k * 2]? = some (.int .u8 ((c.getD k (0, [])).1 : Int)) ∧ (c.getD k (0, [])).1 < 256 ∧ ∃ u, cs[k * 2 + 1]? = some u ∧ Sps W u (c.getD k (0, [])).2) → Hold W cs c
  | [], [], _, _ => trivial
  | [], _ :: _, h, _ => by simp at h <;> omega
  | [_], [], h, _ => by simp at h
  | [_], _ :: _, h, _ => by simp at h <;> omega
  | _ :: _ :: _, [], h, _ => by simp at h
  | a :: b :: cs, x :: c, h, hk => by
    obtain ⟨h1, h2, u, h3, h4⟩ := hk 0 (by simp)
    simp at h1 h2 h3 h4
    subst h1 h3
    refine ⟨rfl, h2, h4, hold_of cs c (by simp at h; omega) (fun k hkc => ?_)⟩
    obtain ⟨g1, g2, u', g3, g4⟩ := hk (k + 1) (by simpa using hkc)
    rw [show (k + 1) * 2 = k * 2 + 1 + 1 by omega] at g1 g3
    exact ⟨by simpa using g1, by simpa using g2, u', by simpa using g3, by simpa using g4⟩
set_option maxRecDepth 100000 in
theorem kit_bytesSpanT : Try.prog.bytesOf 63 = 8 := by kernel_rfl
theorem weightsAll_memT {H : Type} {P : Program} {e : TypeId} {d : DataW H} : ∀ {l : List (DataW H)}, d ∈ l → ∀ n ∈ DataW.weights P e d, n ∈ DataW.weightsAll P e l
  | x :: l, h, n, hn => by
    simp only [DataW.weightsAll, List.mem_append]
    rcases List.mem_cons.1 h with rfl | h
    · exact .inl hn
    · exact .inr (weightsAll_memT h n hn)
set_option maxRecDepth 100000 in
theorem times_of {H : Type} {enc : TypeId × Value → H} {W : World} {v : Value} {d : DataW H} {p : List MemPlace} {base : Nat}
    (hv : Value.okWide Try.prog W .any base 22 v) (h : DataW.Trod enc Try.prog W 0 (fun _ => true) true 22 v d p) :
    ∃ (ao : Option Addr) (cap : Nat) (c : List Tm), v = .slice ao c.length cap ∧ Tms W (.slice ao c.length cap) c ∧ ((∀ n ∈ DataW.weights Try.prog 22 d, n ≤ reachBytes) → ∀ x ∈ c, x.2.length ≤ 17592186044416) := by
  obtain ⟨a0, len, cap, rfl⟩ := okWide_slice Try.underlying22 hv
  obtain ⟨fuel, hf⟩ := h
  rcases open_slice_pairs Try.underlying22 Try.underlying28 (by kernel_rfl) (by rfl) (by rfl) (by kernel_rfl) (by kernel_rfl) hf with ⟨hcs, hx⟩ | ⟨a, len', cap', m, n, V0, V1, D0, D1, P0, P1, hcs, _, hl, hm, hmm, hx, hi⟩
  · simp [Value.cells] at hcs
    obtain ⟨rfl, rfl, rfl⟩ := hcs
    exact ⟨none, 0, [], rfl, Tms.nil W, fun _ x hx => by simp at hx⟩
  · simp [Value.cells] at hcs
    obtain ⟨rfl, rfl, rfl⟩ := hcs
    simp only [if_true] at hmm
    subst hmm
    unfold maxLen at hm
    have each : ∀ i, i < m → ∃ x : Tm, x.1 < 256 ∧ V0 i = .int .u8 (x.1 : Int) ∧ Sps W (V1 i) x.2 ∧ (x.2 = [] ∨ ∃ es sp, D1 i = .slice es sp ∧ es.length = x.2.length) := by
      intro i him
      obtain ⟨_, _, h0, h1⟩ := hi i him
      obtain ⟨z, e0, -, wz⟩ := DataW.trod_int Try.underlying5 h0
      simp at e0
      obtain ⟨r, rfl, hr⟩ := wf_u8t wz
      obtain ⟨so, sc, l, hV, hS, hD⟩ := spans_cells h1
      exact ⟨(r, l), hr, e0, by rw [hV]; exact hS, hD⟩
    have hsel : ∃ f : Nat → Tm, ∀ i, i < m → (f i).1 < 256 ∧ V0 i = .int .u8 ((f i).1 : Int) ∧ Sps W (V1 i) (f i).2 ∧ ((f i).2 = [] ∨ ∃ es sp, D1 i = .slice es sp ∧ es.length = (f i).2.length) :=
      ⟨fun i => if h : i < m then Classical.choose (each i h) else (0, []), fun i h => by simp only [h, dif_pos]; exact Classical.choose_spec (each i h)⟩
    obtain ⟨f, hf2⟩ := hsel
    have hxl : ((List.range len).map f).length = len := by simp
    have hcl : ((List.range len).flatMap fun i => [V0 i, V1 i]).length = len * 2 := by
      have two : ∀ l : List Nat, (l.flatMap fun i => [V0 i, V1 i]).length = l.length * 2 := by
        intro l
        induction l with
        | nil => rfl
        | cons x l ih => rw [List.flatMap_cons, List.length_append, ih]; simp; omega
      rw [two]; simp
    have hget : ∀ i, i < len → ((List.range len).flatMap fun i => [V0 i, V1 i])[i * 2]? = some (V0 i) ∧ ((List.range len).flatMap fun i => [V0 i, V1 i])[i * 2 + 1]? = some (V1 i) := by
      have go : ∀ (k s : Nat) i, i < k → ((List.range' s k).flatMap fun i => [V0 i, V1 i])[i * 2]? = some (V0 (s + i)) ∧ ((List.range' s k).flatMap fun i => [V0 i, V1 i])[i * 2 + 1]? = some (V1 (s + i)) := by
        intro k
        induction k with
        | zero => intro s i h; omega
        | succ k ih =>
          intro s i h
          rw [List.range'_succ, List.flatMap_cons]
          cases i with
          | zero => simp
          | succ i =>
            have := ih (s + 1) i (by omega)
            rw [show (i + 1) * 2 = i * 2 + 1 + 1 by omega, show s + (i + 1) = s + 1 + i by omega]
            simpa using this
      intro i h
      have := go len 0 i h
      rw [List.range_eq_range']
      simpa using this
    refine ⟨some a, m, (List.range len).map f, by rw [hxl], ⟨(List.range len).flatMap (fun i => [V0 i, V1 i]), ?_, ?_⟩, ?_⟩
    · rw [hxl]
      refine ⟨hcl, some a, m, rfl, by omega, hm, by simp, ?_⟩
      by_cases hl0 : len = 0
      · left; subst hl0; rfl
      · right
        obtain ⟨b, off, spot⟩ := a
        have hspot : spot = none := by simpa [Addr.add] using World.cell?_spot (hi 0 (by omega)).1
        subst hspot
        refine ⟨b, off, rfl, World.block_lt_of_cell? W ⟨b, off, none⟩ (by simpa [Addr.add] using (hi 0 (by omega)).1), fun j u hj => ?_⟩
        have hjl : j < ((List.range len).flatMap fun i => [V0 i, V1 i]).length := (List.getElem?_eq_some_iff.1 hj).1
        rw [hcl] at hjl
        obtain ⟨i, hij⟩ : ∃ i, j = i * 2 ∨ j = i * 2 + 1 := ⟨j / 2, by omega⟩
        have e := hget i (by omega)
        obtain ⟨g0, g1, _, _⟩ := hi i (by omega)
        rw [add_plain] at g0 g1
        rcases hij with rfl | rfl
        · rw [e.1] at hj
          rw [← hj]
          exact g0
        · rw [e.2] at hj
          rw [← hj]
          exact g1
    · refine hold_of _ _ (by rw [hcl, hxl]) (fun k hk => ?_)
      rw [hxl] at hk
      have e := hget k hk
      have ef : ((List.range len).map f).getD k (0, []) = f k := by simp [List.getD, show k < len by omega]
      rw [ef]
      obtain ⟨h1, h2, h3, _⟩ := hf2 k (by omega)
      exact ⟨by rw [e.1, h2], h1, V1 k, e.2, h3⟩
    · intro hw y hy
      obtain ⟨i, hi2, rfl⟩ := List.mem_map.1 hy
      have hil : i < len := List.mem_range.1 hi2
      obtain ⟨_, _, _, h4⟩ := hf2 i (by omega)
      rcases h4 with h4 | ⟨es, sp, h4, h5⟩
      · rw [h4]; simp
      · have hmem : (es.length + sp.length) * Try.prog.bytesOf 63 ∈ DataW.weights Try.prog 22 d := by
          rw [show d = _ from congrArg Prod.fst hx]
          simp only [DataW.weights, Try.underlying22, List.mem_cons, List.mem_append]
          refine .inr (.inl (weightsAll_memT (d := .agg [D0 i, D1 i]) (List.mem_map.2 ⟨i, hi2, rfl⟩) _ ?_))
          simp only [DataW.weights, Try.underlying28]
          rw [h4]
          simp [DataW.weightsEach, DataW.weights, Try.underlying26]
        have h6 := hw _ hmem
        rw [kit_bytesSpanT] at h6
        unfold reachBytes at h6
        rw [← h5]
        omega
end Go.Proofs.Ytinglfhndlklaaa
