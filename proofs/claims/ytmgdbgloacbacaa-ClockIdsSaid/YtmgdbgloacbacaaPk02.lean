/- Slices of spans: what a slice value holds. Conditions: none. -/
import Derived.Lib.SmallJoins
import Derived.Deep.SlicePairs
import Derived.Test.YtmgdbgloacbacaaPk01

namespace Go.Proofs.Ytmgdbgloacbacaa
open Go.RowKit Go.WideShapes Spans

/-- Spans as cells. -/
def sps : List Sp → List Value
  | [] => []
  | a :: l => .int .u32 (a.f : Int) :: .int .u32 (a.t : Int) :: sps l
theorem sps_len : ∀ l : List Sp, (sps l).length = l.length * 2
  | [] => rfl
  | a :: l => by simp [sps, sps_len l]; omega
theorem sps_append : ∀ l m : List Sp, sps (l ++ m) = sps l ++ sps m
  | [], m => rfl
  | a :: l, m => by simp [sps, sps_append l m]
theorem sps_get : ∀ (l : List Sp) (j : Nat), j < l.length → (sps l)[j * 2]? = some (.int .u32 ((l.getD j zsp).f : Int)) ∧ (sps l)[j * 2 + 1]? = some (.int .u32 ((l.getD j zsp).t : Int))
  | [], j, h => by simp at h
  | a :: l, 0, _ => by simp [sps]
  | a :: l, j + 1, h => by
    have := sps_get l j (by simpa using h)
    rw [show (j + 1) * 2 = j * 2 + 1 + 1 by omega]
    simpa [sps] using this
theorem sps_oneCell : ∀ l : List Sp, ∀ u ∈ sps l, u.oneCell' = true
  | [], u, h => by simp [sps] at h
  | a :: l, u, h => by
    simp only [sps, List.mem_cons] at h
    rcases h with rfl | rfl | h
    · rfl
    · rfl
    · exact sps_oneCell l u h
/-- A slice of spans. -/
def Sps (w : World) (v : Value) (l : List Sp) : Prop := Sees w v 2 l.length (sps l)
theorem Sps.keeps {w w' : World} {v : Value} {l : List Sp} (h : Sps w v l) (hb : Below w.heap.size w w') : Sps w' v l := Sees.keeps h hb
theorem Sps.nil (w : World) : Sps w (.slice none 0 0) [] := Sees.nil w 2
theorem Sps.shape {w : World} {v : Value} {l : List Sp} (h : Sps w v l) : ∃ ao cap, v = .slice ao l.length cap := Sees.shape h
theorem Sps.at {w : World} {ao : Option Addr} {m cap : Nat} {l : List Sp} (h : Sps w (.slice ao m cap) l) (k : Nat) (hk : k < l.length) :
    ∃ b off, ao = some ⟨b, off, none⟩ ∧ b < w.heap.size ∧ w.cell? ⟨b, off + k * 2, none⟩ = some (.int .u32 ((l.getD k zsp).f : Int)) ∧ w.cell? ⟨b, off + k * 2 + 1, none⟩ = some (.int .u32 ((l.getD k zsp).t : Int)) := by
  obtain ⟨b, off, h1, h2, h3⟩ := Sees.at h (k * 2) (by rw [sps_len]; omega)
  have e := sps_get l k hk
  exact ⟨b, off, h1, h2, (h3 (k * 2) (by rw [sps_len]; omega)).trans e.1, (h3 (k * 2 + 1) (by rw [sps_len]; omega)).trans e.2⟩
theorem Sps.own {w : World} {base : Nat} {e : TypeId} {v : Value} {n : Nat} {l : List Sp} (h : w.ownsRow base e 2 v n (sps l)) : Sps w v l := by
  have h1 := h.1
  rw [sps_len] at h1
  obtain rfl : l.length = n := by omega
  exact Sees.own h
theorem sps_new (w : World) (l : List Sp) (n : Nat) (hn : n = l.length) (hl : l.length ≤ 1000000) (e : TypeId) (fr : Nat × Nat) : Sps (w.alloc (.cells (sps l).toArray e fr)) (.slice (some ⟨w.heap.size, 0, none⟩) n n) l := by
  subst hn
  exact sees_new w (sps l) 2 l.length (sps_len l) hl _ _

theorem span_info : (Try.prog.info? 53).map (fun i => (i.zero, i.size, i.bytes)) = some (some (.agg #[.int .u32 0, .int .u32 0]), 2, 8) := by kernel_rfl
end Go.Proofs.Ytmgdbgloacbacaa

/- Slices of a replica and its spans: what a slice value holds, a slice of spans in each element. Conditions: none. -/
namespace Go.Proofs.Ytmgdbgloacbacaa
open Go.RowKit Go.WideShapes Spans Clocks

/-- The cells hold the clock: a replica, and what reads as its spans. -/
def Hold (w : World) : List Value → List Tm → Prop
  | [], [] => True
  | a :: b :: cs, x :: c => a = .int .u8 (x.1 : Int) ∧ x.1 < 256 ∧ Sps w b x.2 ∧ Hold w cs c
  | _, _ => False
theorem Hold.len : ∀ {w : World} {cs : List Value} {c : List Tm}, Hold w cs c → cs.length = c.length * 2
  | _, [], [], _ => rfl
  | w, a :: b :: cs, x :: c, h => by have := Hold.len h.2.2.2; simp; omega
theorem Hold.keeps : ∀ {w w' : World} {cs : List Value} {c : List Tm}, Hold w cs c → Below w.heap.size w w' → Hold w' cs c
  | _, _, [], [], _, _ => trivial
  | _, _, _ :: _ :: _, _ :: _, h, hb => ⟨h.1, h.2.1, h.2.2.1.keeps hb, Hold.keeps h.2.2.2 hb⟩
theorem Hold.append : ∀ {w : World} {cs ds : List Value} {c d : List Tm}, Hold w cs c → Hold w ds d → Hold w (cs ++ ds) (c ++ d)
  | _, [], _, [], _, _, h => h
  | _, _ :: _ :: _, _, _ :: _, _, h, h2 => ⟨h.1, h.2.1, h.2.2.1, Hold.append h.2.2.2 h2⟩
theorem Hold.one {w : World} {u : Value} {x : Tm} (hr : x.1 < 256) (hu : Sps w u x.2) : Hold w [.int .u8 (x.1 : Int), u] [x] := ⟨rfl, hr, hu, trivial⟩
theorem Hold.get : ∀ {w : World} {cs : List Value} {c : List Tm} (k : Nat), Hold w cs c → k < c.length →
    cs[k * 2]? = some (.int .u8 ((c.getD k (0, [])).1 : Int)) ∧ (c.getD k (0, [])).1 < 256 ∧ ∃ u, cs[k * 2 + 1]? = some u ∧ Sps w u (c.getD k (0, [])).2
  | _, _, [], _, _, hk => by simp at hk
  | _, [], _ :: _, _, h, _ => by simp [Hold] at h
  | _, [_], _ :: _, _, h, _ => by simp [Hold] at h
  | w, a :: b :: cs, x :: c, 0, h, _ => by
    obtain ⟨rfl, h1, h2, _⟩ := h
    exact ⟨by simp, by simpa using h1, b, by simp, by simpa using h2⟩
  | w, a :: b :: cs, x :: c, k + 1, h, hk => by
    have := Hold.get k h.2.2.2 (by simpa using hk)
    rw [show (k + 1) * 2 = k * 2 + 1 + 1 by omega]
    simpa using this
theorem sps_slice {w : World} {u : Value} {l : List Sp} (h : Sps w u l) : u.oneCell' = true := by
  obtain ⟨ao, cap, rfl⟩ := h.shape
  rfl
theorem Hold.oneCell : ∀ {w : World} {cs : List Value} {c : List Tm}, Hold w cs c → ∀ u ∈ cs, u.oneCell' = true
  | _, [], [], _, u, h => by simp at h
  | w, a :: b :: cs, x :: c, h, u, hu => by
    simp only [List.mem_cons] at hu
    rcases hu with rfl | rfl | hu
    · rw [h.1]; rfl
    · exact sps_slice h.2.2.1
    · exact Hold.oneCell h.2.2.2 u hu

/-- A slice of replicas' spans. -/
def Tms (w : World) (v : Value) (c : List Tm) : Prop := ∃ cs, Sees w v 2 c.length cs ∧ Hold w cs c
theorem Tms.keeps {w w' : World} {v : Value} {c : List Tm} (h : Tms w v c) (hb : Below w.heap.size w w') : Tms w' v c := by
  obtain ⟨cs, h1, h2⟩ := h
  exact ⟨cs, h1.keeps hb, h2.keeps hb⟩
theorem Tms.nil (w : World) : Tms w (.slice none 0 0) [] := ⟨[], Sees.nil w 2, trivial⟩
theorem Tms.shape {w : World} {v : Value} {c : List Tm} (h : Tms w v c) : ∃ ao cap, v = .slice ao c.length cap := by
  obtain ⟨cs, h1, _⟩ := h
  exact Sees.shape h1
theorem Tms.max {w : World} {v : Value} {c : List Tm} (h : Tms w v c) : c.length ≤ 9223372036854775807 := by
  obtain ⟨cs, h1, _⟩ := h
  exact Sees.max h1
theorem Tms.at {w : World} {ao : Option Addr} {m cap : Nat} {c : List Tm} (h : Tms w (.slice ao m cap) c) (k : Nat) (hk : k < c.length) :
    ∃ b off u, ao = some ⟨b, off, none⟩ ∧ b < w.heap.size ∧ w.cell? ⟨b, off + k * 2, none⟩ = some (.int .u8 ((c.getD k (0, [])).1 : Int)) ∧ w.cell? ⟨b, off + k * 2 + 1, none⟩ = some u ∧
      (c.getD k (0, [])).1 < 256 ∧ Sps w u (c.getD k (0, [])).2 := by
  obtain ⟨cs, h1, h2⟩ := h
  have hl := h2.len
  obtain ⟨b, off, e1, e2, e3⟩ := Sees.at h1 (k * 2) (by omega)
  obtain ⟨g1, g2, u, g3, g4⟩ := h2.get k hk
  exact ⟨b, off, u, e1, e2, (e3 (k * 2) (by omega)).trans g1, (e3 (k * 2 + 1) (by omega)).trans g3, g2, g4⟩

/-- The same, and each element's spans are of the call's own. -/
def HoldO (w : World) (base : Nat) : List Value → List Tm → Prop
  | [], [] => True
  | a :: b :: cs, x :: c => a = .int .u8 (x.1 : Int) ∧ x.1 < 256 ∧ w.ownsRow base 53 2 b x.2.length (sps x.2) ∧ HoldO w base cs c
  | _, _ => False
theorem HoldO.hold : ∀ {w : World} {base : Nat} {cs : List Value} {c : List Tm}, HoldO w base cs c → Hold w cs c
  | _, _, [], [], _ => trivial
  | _, _, _ :: _ :: _, _ :: _, h => ⟨h.1, h.2.1, Sps.own h.2.2.1, HoldO.hold h.2.2.2⟩
theorem HoldO.keeps : ∀ {w w' : World} {base : Nat} {cs : List Value} {c : List Tm}, HoldO w base cs c → Below w.heap.size w w' → HoldO w' base cs c
  | _, _, _, [], [], _, _ => trivial
  | _, _, _, _ :: _ :: _, _ :: _, h, hb => ⟨h.1, h.2.1, own_stays h.2.2.1 hb, HoldO.keeps h.2.2.2 hb⟩
theorem HoldO.append : ∀ {w : World} {base : Nat} {cs ds : List Value} {c d : List Tm}, HoldO w base cs c → HoldO w base ds d → HoldO w base (cs ++ ds) (c ++ d)
  | _, _, [], _, [], _, _, h => h
  | _, _, _ :: _ :: _, _, _ :: _, _, h, h2 => ⟨h.1, h.2.1, h.2.2.1, HoldO.append h.2.2.2 h2⟩
/-- A clock of the call's own, its spans too. -/
def OwnC (w : World) (base : Nat) (v : Value) (c : List Tm) : Prop := ∃ cs, w.ownsRow base 50 2 v c.length cs ∧ HoldO w base cs c
theorem OwnC.tms {w : World} {base : Nat} {v : Value} {c : List Tm} (h : OwnC w base v c) : Tms w v c := by
  obtain ⟨cs, h1, h2⟩ := h
  exact ⟨cs, Sees.own h1, h2.hold⟩
theorem OwnC.keeps {w w' : World} {base : Nat} {v : Value} {c : List Tm} (h : OwnC w base v c) (hb : Below w.heap.size w w') : OwnC w' base v c := by
  obtain ⟨cs, h1, h2⟩ := h
  exact ⟨cs, own_stays h1 hb, h2.keeps hb⟩
theorem times_info : (Try.prog.info? 50).map (fun i => (i.zero, i.size, i.bytes)) = some (some (.agg #[.int .u8 0, .slice none 0 0]), 2, 32) := by kernel_rfl
end Go.Proofs.Ytmgdbgloacbacaa

/- A slice of a replica's spans that came in: what it holds, the spans in it too. Conditions: none. -/
namespace Go.Proofs.Ytmgdbgloacbacaa
open Go.Joins Go.ChangeShapes Go.WideShapes Go.ChangeAt Go.RowKit Go.Deep Spans Clocks

set_option maxRecDepth 100000 in
theorem kit_cellsSpanT : Try.prog.cellsOf 53 = 2 := by kernel_rfl
set_option maxRecDepth 100000 in
theorem wf_u32t {a : Int} (h : (Lit.int .u32 a).wf = true) : ∃ n : Nat, a = (n : Int) ∧ n < 4294967296 := by
  have hb : 0 ≤ a ∧ a ≤ 4294967295 := by simpa [Lit.wf, IntKind.min, IntKind.max, IntKind.signed, IntKind.bits] using h
  exact ⟨a.toNat, by omega, by omega⟩
set_option maxRecDepth 100000 in
theorem wf_u8t {a : Int} (h : (Lit.int .u8 a).wf = true) : ∃ n : Nat, a = (n : Int) ∧ n < 256 := by
  have hb : 0 ≤ a ∧ a ≤ 255 := by simpa [Lit.wf, IntKind.min, IntKind.max, IntKind.signed, IntKind.bits] using h
  exact ⟨a.toNat, by omega, by omega⟩

set_option maxRecDepth 100000 in
theorem spans_cells {H : Type} {enc : TypeId × Value → H} {W : World} {c1 : Value} {fuel : Nat} {y : DataW H × List MemPlace}
    (hf : DataW.trod enc Try.prog W 0 (fun _ => true) true fuel 48 [c1] = some y) :
    ∃ (ao : Option Addr) (cap : Nat) (l : List Sp), c1 = .slice ao l.length cap ∧ Sps W (.slice ao l.length cap) l ∧ (l = [] ∨ ∃ es sp, y.1 = .slice es sp ∧ es.length = l.length) := by
  rcases open_slice Try.underlying48 hf with ⟨hcs, hx⟩ | ⟨a, len', cap', m, n, D, Pl, hcs, _, hl, hm, hmm, hx, hi⟩
  · obtain rfl : c1 = .slice none 0 0 := by simpa using hcs
    exact ⟨none, 0, [], rfl, Sps.nil W, .inl rfl⟩
  · obtain rfl : c1 = .slice (some a) len' cap' := by simpa using hcs
    simp only [if_true] at hmm
    subst hmm
    unfold maxLen at hm
    have each : ∀ i, i < m → ∃ x : Sp, W.cell? (a.add (i * 2)) = some (.int .u32 (x.f : Int)) ∧ W.cell? ((a.add (i * 2)).add 1) = some (.int .u32 (x.t : Int)) := by
      intro i him
      obtain ⟨cs, hc, ht⟩ := hi i him
      rw [kit_cellsSpanT] at hc
      obtain ⟨_, hcl, hat⟩ := World.cells?_some hc
      obtain ⟨y0, y1, n2, -, hlen, h0, h1⟩ := trod_struct2 Try.underlying53 ht
      match cs, hcl with
      | [c0, c1], _ =>
        have h0' : DataW.trod enc Try.prog W 0 (fun _ => true) true n2 23 [c0] = some y0 := h0
        have h1' : DataW.trod enc Try.prog W 0 (fun _ => true) true n2 23 [c1] = some y1 := h1
        obtain ⟨z, e0, -, wz⟩ := DataW.trod_int Try.underlying23 h0'
        obtain ⟨u, e1, -, wu⟩ := DataW.trod_int Try.underlying23 h1'
        simp at e0 e1
        subst e0 e1
        obtain ⟨tn, rfl, hn⟩ := wf_u32t wz
        obtain ⟨q, rfl, hq⟩ := wf_u32t wu
        have g0 := hat 0 (by omega)
        have g1 := hat 1 (by omega)
        exact ⟨⟨tn, q, hn, hq⟩, by simpa [Addr.add] using g0, by simpa using g1⟩
    have hsel : ∃ f : Nat → Sp, ∀ i, i < m → W.cell? (a.add (i * 2)) = some (.int .u32 ((f i).f : Int)) ∧ W.cell? ((a.add (i * 2)).add 1) = some (.int .u32 ((f i).t : Int)) :=
      ⟨fun i => if h : i < m then Classical.choose (each i h) else zsp, fun i h => by simp only [h, dif_pos]; exact Classical.choose_spec (each i h)⟩
    obtain ⟨f, hf⟩ := hsel
    have hxl : ((List.range len').map f).length = len' := by simp
    refine ⟨some a, m, (List.range len').map f, by rw [hxl], ⟨by rw [sps_len], some a, m, rfl, by omega, hm, by simp, ?_⟩, .inr ⟨_, _, congrArg Prod.fst hx, by simp⟩⟩
    by_cases hl0 : len' = 0
    · left; subst hl0; rfl
    · right
      obtain ⟨b, off, spot⟩ := a
      have hspot : spot = none := by simpa [Addr.add] using World.cell?_spot (hf 0 (by omega)).1
      subst hspot
      refine ⟨b, off, rfl, World.block_lt_of_cell? W ⟨b, off, none⟩ (by simpa [Addr.add] using (hf 0 (by omega)).1), fun j u hj => ?_⟩
      have hjl : j < (sps ((List.range len').map f)).length := (List.getElem?_eq_some_iff.1 hj).1
      rw [sps_len, hxl] at hjl
      obtain ⟨i, hij⟩ : ∃ i, j = i * 2 ∨ j = i * 2 + 1 := ⟨j / 2, by omega⟩
      have e := sps_get ((List.range len').map f) i (by rw [hxl]; omega)
      have ef : ((List.range len').map f).getD i zsp = f i := by simp [List.getD, show i < len' by omega]
      rw [ef] at e
      have g := hf i (by omega)
      rw [add_plain, add_plain] at g
      rcases hij with rfl | rfl
      · rw [e.1] at hj
        rw [← hj]
        exact g.1
      · rw [e.2] at hj
        rw [← hj]
        exact g.2

set_option maxRecDepth 100000 in
theorem hold_of {W : World} : ∀ (cs : List Value) (c : List Tm), cs.length = c.length * 2 → (∀ k, k < c.length → cs[k * 2]? = some (.int .u8 ((c.getD k (0, [])).1 : Int)) ∧ (c.getD k (0, [])).1 < 256 ∧ ∃ u, cs[k * 2 + 1]? = some u ∧ Sps W u (c.getD k (0, [])).2) → Hold W cs c
  | [], [], _, _ => trivial
  | [], _ :: _, h, _ => by simp at h <;> omega
  | [_], [], h, _ => by simp at h
  | [_], _ :: _, h, _ => by simp at h <;> omega
  | _ :: _ :: _, [], h, _ => by simp at h
  | a :: b :: cs, x :: c, h, hk => by
    obtain ⟨h1, h2, u, h3, h4⟩ := hk 0 (by simp)
    simp at h1 h2 h3 h4
    subst h1 h3
    refine ⟨rfl, h2, h4, hold_of cs c (by simp at h; omega) (fun k hkc => ?_)⟩
    obtain ⟨g1, g2, u', g3, g4⟩ := hk (k + 1) (by simpa using hkc)
    rw [show (k + 1) * 2 = k * 2 + 1 + 1 by omega] at g1 g3
    exact ⟨by simpa using g1, by simpa using g2, u', by simpa using g3, by simpa using g4⟩
set_option maxRecDepth 100000 in
theorem kit_bytesSpanT : Try.prog.bytesOf 53 = 8 := by kernel_rfl
theorem weightsAll_memT {H : Type} {P : Program} {e : TypeId} {d : DataW H} : ∀ {l : List (DataW H)}, d ∈ l → ∀ n ∈ DataW.weights P e d, n ∈ DataW.weightsAll P e l
  | x :: l, h, n, hn => by
    simp only [DataW.weightsAll, List.mem_append]
    rcases List.mem_cons.1 h with rfl | h
    · exact .inl hn
    · exact .inr (weightsAll_memT h n hn)
set_option maxRecDepth 100000 in
theorem times_of {H : Type} {enc : TypeId × Value → H} {W : World} {v : Value} {d : DataW H} {p : List MemPlace} {base : Nat}
    (hv : Value.okWide Try.prog W .any base 22 v) (h : DataW.Trod enc Try.prog W 0 (fun _ => true) true 22 v d p) :
    ∃ (ao : Option Addr) (cap : Nat) (c : List Tm), v = .slice ao c.length cap ∧ Tms W (.slice ao c.length cap) c ∧ ((∀ n ∈ DataW.weights Try.prog 22 d, n ≤ reachBytes) → ∀ x ∈ c, x.2.length ≤ 17592186044416) := by
  obtain ⟨a0, len, cap, rfl⟩ := okWide_slice Try.underlying22 hv
  obtain ⟨fuel, hf⟩ := h
  rcases open_slice_pairs Try.underlying22 Try.underlying50 (by kernel_rfl) (by rfl) (by rfl) (by kernel_rfl) (by kernel_rfl) hf with ⟨hcs, hx⟩ | ⟨a, len', cap', m, n, V0, V1, D0, D1, P0, P1, hcs, _, hl, hm, hmm, hx, hi⟩
  · simp [Value.cells] at hcs
    obtain ⟨rfl, rfl, rfl⟩ := hcs
    exact ⟨none, 0, [], rfl, Tms.nil W, fun _ x hx => by simp at hx⟩
  · simp [Value.cells] at hcs
    obtain ⟨rfl, rfl, rfl⟩ := hcs
    simp only [if_true] at hmm
    subst hmm
    unfold maxLen at hm
    have each : ∀ i, i < m → ∃ x : Tm, x.1 < 256 ∧ V0 i = .int .u8 (x.1 : Int) ∧ Sps W (V1 i) x.2 ∧ (x.2 = [] ∨ ∃ es sp, D1 i = .slice es sp ∧ es.length = x.2.length) := by
      intro i him
      obtain ⟨_, _, h0, h1⟩ := hi i him
      obtain ⟨z, e0, -, wz⟩ := DataW.trod_int Try.underlying5 h0
      simp at e0
      obtain ⟨r, rfl, hr⟩ := wf_u8t wz
      obtain ⟨so, sc, l, hV, hS, hD⟩ := spans_cells h1
      exact ⟨(r, l), hr, e0, by rw [hV]; exact hS, hD⟩
    have hsel : ∃ f : Nat → Tm, ∀ i, i < m → (f i).1 < 256 ∧ V0 i = .int .u8 ((f i).1 : Int) ∧ Sps W (V1 i) (f i).2 ∧ ((f i).2 = [] ∨ ∃ es sp, D1 i = .slice es sp ∧ es.length = (f i).2.length) :=
      ⟨fun i => if h : i < m then Classical.choose (each i h) else (0, []), fun i h => by simp only [h, dif_pos]; exact Classical.choose_spec (each i h)⟩
    obtain ⟨f, hf2⟩ := hsel
    have hxl : ((List.range len).map f).length = len := by simp
    have hcl : ((List.range len).flatMap fun i => [V0 i, V1 i]).length = len * 2 := by
      have two : ∀ l : List Nat, (l.flatMap fun i => [V0 i, V1 i]).length = l.length * 2 := by
        intro l
        induction l with
        | nil => rfl
        | cons x l ih => rw [List.flatMap_cons, List.length_append, ih]; simp; omega
      rw [two]; simp
    have hget : ∀ i, i < len → ((List.range len).flatMap fun i => [V0 i, V1 i])[i * 2]? = some (V0 i) ∧ ((List.range len).flatMap fun i => [V0 i, V1 i])[i * 2 + 1]? = some (V1 i) := by
      have go : ∀ (k s : Nat) i, i < k → ((List.range' s k).flatMap fun i => [V0 i, V1 i])[i * 2]? = some (V0 (s + i)) ∧ ((List.range' s k).flatMap fun i => [V0 i, V1 i])[i * 2 + 1]? = some (V1 (s + i)) := by
        intro k
        induction k with
        | zero => intro s i h; omega
        | succ k ih =>
          intro s i h
          rw [List.range'_succ, List.flatMap_cons]
          cases i with
          | zero => simp
          | succ i =>
            have := ih (s + 1) i (by omega)
            rw [show (i + 1) * 2 = i * 2 + 1 + 1 by omega, show s + (i + 1) = s + 1 + i by omega]
            simpa using this
      intro i h
      have := go len 0 i h
      rw [List.range_eq_range']
      simpa using this
    refine ⟨some a, m, (List.range len).map f, by rw [hxl], ⟨(List.range len).flatMap (fun i => [V0 i, V1 i]), ?_, ?_⟩, ?_⟩
    · rw [hxl]
      refine ⟨hcl, some a, m, rfl, by omega, hm, by simp, ?_⟩
      by_cases hl0 : len = 0
      · left; subst hl0; rfl
      · right
        obtain ⟨b, off, spot⟩ := a
        have hspot : spot = none := by simpa [Addr.add] using World.cell?_spot (hi 0 (by omega)).1
        subst hspot
        refine ⟨b, off, rfl, World.block_lt_of_cell? W ⟨b, off, none⟩ (by simpa [Addr.add] using (hi 0 (by omega)).1), fun j u hj => ?_⟩
        have hjl : j < ((List.range len).flatMap fun i => [V0 i, V1 i]).length := (List.getElem?_eq_some_iff.1 hj).1
        rw [hcl] at hjl
        obtain ⟨i, hij⟩ : ∃ i, j = i * 2 ∨ j = i * 2 + 1 := ⟨j / 2, by omega⟩
        have e := hget i (by omega)
        obtain ⟨g0, g1, _, _⟩ := hi i (by omega)
        rw [add_plain] at g0 g1
        rcases hij with rfl | rfl
        · rw [e.1] at hj
          rw [← hj]
          exact g0
        · rw [e.2] at hj
          rw [← hj]
          exact g1
    · refine hold_of _ _ (by rw [hcl, hxl]) (fun k hk => ?_)
      rw [hxl] at hk
      have e := hget k hk
      have ef : ((List.range len).map f).getD k (0, []) = f k := by simp [List.getD, show k < len by omega]
      rw [ef]
      obtain ⟨h1, h2, h3, _⟩ := hf2 k (by omega)
      exact ⟨by rw [e.1, h2], h1, V1 k, e.2, h3⟩
    · intro hw y hy
      obtain ⟨i, hi2, rfl⟩ := List.mem_map.1 hy
      have hil : i < len := List.mem_range.1 hi2
      obtain ⟨_, _, _, h4⟩ := hf2 i (by omega)
      rcases h4 with h4 | ⟨es, sp, h4, h5⟩
      · rw [h4]; simp
      · have hmem : (es.length + sp.length) * Try.prog.bytesOf 53 ∈ DataW.weights Try.prog 22 d := by
          rw [show d = _ from congrArg Prod.fst hx]
          simp only [DataW.weights, Try.underlying22, List.mem_cons, List.mem_append]
          refine .inr (.inl (weightsAll_memT (d := .agg [D0 i, D1 i]) (List.mem_map.2 ⟨i, hi2, rfl⟩) _ ?_))
          simp only [DataW.weights, Try.underlying50]
          rw [h4]
          simp [DataW.weightsEach, DataW.weights, Try.underlying48]
        have h6 := hw _ hmem
        rw [kit_bytesSpanT] at h6
        unfold reachBytes at h6
        rw [← h5]
        omega
end Go.Proofs.Ytmgdbgloacbacaa

/- Stamps, and slices of them: what a slice value holds. Conditions: none. -/
namespace Go.Proofs.Ytmgdbgloacbacaa
open Go.RowKit Go.WideShapes

/-- A stamp: a time, a replica. -/
structure Id where
  t : Nat
  r : Nat
  ht : t < 4294967296
  hr : r < 256
theorem Id.ext' {a b : Id} (h1 : a.t = b.t) (h2 : a.r = b.r) : a = b := by
  obtain ⟨t, r, _, _⟩ := a; obtain ⟨u, s, _, _⟩ := b
  simp only at h1 h2
  subst h1 h2
  rfl
theorem Id.eq_iff {a b : Id} : a = b ↔ a.t = b.t ∧ a.r = b.r := ⟨fun h => by rw [h]; exact ⟨rfl, rfl⟩, fun h => Id.ext' h.1 h.2⟩
instance : DecidableEq Id := fun a b => if h : a.t = b.t ∧ a.r = b.r then isTrue (Id.eq_iff.2 h) else isFalse (fun e => h (Id.eq_iff.1 e))
/-- The zero stamp. -/
def zid : Id := ⟨0, 0, by decide, by decide⟩
/-- A stamp as a value. -/
def idv (a : Id) : Value := .agg #[.int .u32 (a.t : Int), .int .u8 (a.r : Int)]
/-- Stamps as cells. -/
def ids : List Id → List Value
  | [] => []
  | a :: l => .int .u32 (a.t : Int) :: .int .u8 (a.r : Int) :: ids l
theorem ids_len : ∀ l : List Id, (ids l).length = l.length * 2
  | [] => rfl
  | a :: l => by simp [ids, ids_len l]; omega
theorem ids_append : ∀ l m : List Id, ids (l ++ m) = ids l ++ ids m
  | [], m => rfl
  | a :: l, m => by simp [ids, ids_append l m]
theorem ids_get : ∀ (l : List Id) (j : Nat), j < l.length → (ids l)[j * 2]? = some (.int .u32 ((l.getD j zid).t : Int)) ∧ (ids l)[j * 2 + 1]? = some (.int .u8 ((l.getD j zid).r : Int))
  | [], j, h => by simp at h
  | a :: l, 0, _ => by simp [ids]
  | a :: l, j + 1, h => by
    have := ids_get l j (by simpa using h)
    rw [show (j + 1) * 2 = j * 2 + 1 + 1 by omega]
    simpa [ids] using this
theorem ids_oneCell : ∀ l : List Id, ∀ u ∈ ids l, u.oneCell' = true
  | [], u, h => by simp [ids] at h
  | a :: l, u, h => by
    simp only [ids, List.mem_cons] at h
    rcases h with rfl | rfl | h
    · rfl
    · rfl
    · exact ids_oneCell l u h
/-- A slice of stamps. -/
def Ids (w : World) (v : Value) (l : List Id) : Prop := Sees w v 2 l.length (ids l)
theorem Ids.keeps {w w' : World} {v : Value} {l : List Id} (h : Ids w v l) (hb : Below w.heap.size w w') : Ids w' v l := Sees.keeps h hb
theorem Ids.nil (w : World) : Ids w (.slice none 0 0) [] := Sees.nil w 2
theorem Ids.shape {w : World} {v : Value} {l : List Id} (h : Ids w v l) : ∃ ao cap, v = .slice ao l.length cap := Sees.shape h
theorem Ids.at {w : World} {ao : Option Addr} {m cap : Nat} {l : List Id} (h : Ids w (.slice ao m cap) l) (k : Nat) (hk : k < l.length) :
    ∃ b off, ao = some ⟨b, off, none⟩ ∧ b < w.heap.size ∧ w.cell? ⟨b, off + k * 2, none⟩ = some (.int .u32 ((l.getD k zid).t : Int)) ∧ w.cell? ⟨b, off + k * 2 + 1, none⟩ = some (.int .u8 ((l.getD k zid).r : Int)) := by
  obtain ⟨b, off, h1, h2, h3⟩ := Sees.at h (k * 2) (by rw [ids_len]; omega)
  have e := ids_get l k hk
  exact ⟨b, off, h1, h2, (h3 (k * 2) (by rw [ids_len]; omega)).trans e.1, (h3 (k * 2 + 1) (by rw [ids_len]; omega)).trans e.2⟩
theorem Ids.own {w : World} {base : Nat} {e : TypeId} {v : Value} {n : Nat} {l : List Id} (h : w.ownsRow base e 2 v n (ids l)) : Ids w v l := by
  have h1 := h.1
  rw [ids_len] at h1
  obtain rfl : l.length = n := by omega
  exact Sees.own h
theorem ids_new (w : World) (l : List Id) (n : Nat) (hn : n = l.length) (hl : l.length ≤ 1000000) (e : TypeId) (fr : Nat × Nat) : Ids (w.alloc (.cells (ids l).toArray e fr)) (.slice (some ⟨w.heap.size, 0, none⟩) n n) l := by
  subst hn
  exact sees_new w (ids l) 2 l.length (ids_len l) hl _ _

/-- Old cells and marks behind a call that writes nothing that was there. -/
theorem bcell {B : Nat} {w w1 : World} (hb : Below B w w1) : (∀ b o, b < B → w1.cell? ⟨b, o, none⟩ = w.cell? ⟨b, o, none⟩) ∧ (∀ b o, b < B → w1.frozen? ⟨b, o, none⟩ = w.frozen? ⟨b, o, none⟩) :=
  ⟨fun b o h => hb.cell (p := ⟨b, o, none⟩) h, fun b o h => hb.frozen (p := ⟨b, o, none⟩) h⟩

/-- A block whose first two cells are these. -/
def Pair (w : World) (h : Nat) (c0 c1 : Value) : Prop := h < w.heap.size ∧ w.cell? ⟨h, 0, none⟩ = some c0 ∧ w.cell? ⟨h, 1, none⟩ = some c1
theorem Pair.keeps {w w' : World} {h : Nat} {c0 c1 : Value} (p : Pair w h c0 c1) (hb : Below w.heap.size w w') : Pair w' h c0 c1 :=
  ⟨Nat.lt_of_lt_of_le p.1 hb.size, (hb.cell (p := ⟨h, 0, none⟩) p.1).trans p.2.1, (hb.cell (p := ⟨h, 1, none⟩) p.1).trans p.2.2⟩
theorem pair_new (w : World) (c0 c1 : Value) (e : TypeId) : Pair (w.alloc (.cells #[c0, c1] e)) w.heap.size c0 c1 :=
  ⟨by simp, cell_of_row _ w.heap.size 0 #[c0, c1] e _ (heap_alloc_new w _), cell_of_row _ w.heap.size 1 #[c0, c1] e _ (heap_alloc_new w _)⟩
theorem Pair.alloc {w : World} {h : Nat} {c0 c1 : Value} (p : Pair w h c0 c1) (o : Obj) : Pair (w.alloc o) h c0 c1 := p.keeps ((Below.refl _ _).alloc (Nat.le_refl _) o)
theorem keepP1 {wl w1 w2 : World} {h1 : Nat} {c0 c1 : Value} (p1 : Pair wl h1 c0 c1) (h : Below w1.heap.size w1 w2) (hb : Below wl.heap.size wl w1) :
    Below wl.heap.size wl w2 ∧ w2.cell? ⟨h1, 0, none⟩ = some c0 ∧ w2.cell? ⟨h1, 1, none⟩ = some c1 :=
  have b := bt hb h
  ⟨b, (p1.keeps b).2.1, (p1.keeps b).2.2⟩
theorem keepP1b {wl w2 : World} {h1 : Nat} {c0 c1 : Value} (p1 : Pair wl h1 c0 c1) (b : Below wl.heap.size wl w2) :
    Below wl.heap.size wl w2 ∧ w2.cell? ⟨h1, 0, none⟩ = some c0 ∧ w2.cell? ⟨h1, 1, none⟩ = some c1 :=
  ⟨b, (p1.keeps b).2.1, (p1.keeps b).2.2⟩
theorem keepP2 {wl w1 w2 : World} {h1 h2 : Nat} {c0 c1 d0 d1 : Value} (p1 : Pair wl h1 c0 c1) (p2 : Pair wl h2 d0 d1) (h : Below w1.heap.size w1 w2) (hb : Below wl.heap.size wl w1) :
    Below wl.heap.size wl w2 ∧ w2.cell? ⟨h1, 0, none⟩ = some c0 ∧ w2.cell? ⟨h1, 1, none⟩ = some c1 ∧ w2.cell? ⟨h2, 0, none⟩ = some d0 ∧ w2.cell? ⟨h2, 1, none⟩ = some d1 :=
  have b := bt hb h
  ⟨b, (p1.keeps b).2.1, (p1.keeps b).2.2, (p2.keeps b).2.1, (p2.keeps b).2.2⟩
theorem keepP3 {wl w1 w2 : World} {h1 h2 h3 : Nat} {c0 c1 d0 d1 e0 e1 : Value} (p1 : Pair wl h1 c0 c1) (p2 : Pair wl h2 d0 d1) (p3 : Pair wl h3 e0 e1) (h : Below w1.heap.size w1 w2) (hb : Below wl.heap.size wl w1) :
    Below wl.heap.size wl w2 ∧ w2.cell? ⟨h1, 0, none⟩ = some c0 ∧ w2.cell? ⟨h1, 1, none⟩ = some c1 ∧ w2.cell? ⟨h2, 0, none⟩ = some d0 ∧ w2.cell? ⟨h2, 1, none⟩ = some d1 ∧ w2.cell? ⟨h3, 0, none⟩ = some e0 ∧ w2.cell? ⟨h3, 1, none⟩ = some e1 :=
  have b := bt hb h
  ⟨b, (p1.keeps b).2.1, (p1.keeps b).2.2, (p2.keeps b).2.1, (p2.keeps b).2.2, (p3.keeps b).2.1, (p3.keeps b).2.2⟩
theorem keepP4 {wl w1 w2 : World} {h1 h2 h3 h4 : Nat} {c0 c1 d0 d1 e0 e1 f0 f1 : Value} (p1 : Pair wl h1 c0 c1) (p2 : Pair wl h2 d0 d1) (p3 : Pair wl h3 e0 e1) (p4 : Pair wl h4 f0 f1) (h : Below w1.heap.size w1 w2) (hb : Below wl.heap.size wl w1) :
    Below wl.heap.size wl w2 ∧ w2.cell? ⟨h1, 0, none⟩ = some c0 ∧ w2.cell? ⟨h1, 1, none⟩ = some c1 ∧ w2.cell? ⟨h2, 0, none⟩ = some d0 ∧ w2.cell? ⟨h2, 1, none⟩ = some d1 ∧ w2.cell? ⟨h3, 0, none⟩ = some e0 ∧ w2.cell? ⟨h3, 1, none⟩ = some e1 ∧ w2.cell? ⟨h4, 0, none⟩ = some f0 ∧ w2.cell? ⟨h4, 1, none⟩ = some f1 :=
  have b := bt hb h
  ⟨b, (p1.keeps b).2.1, (p1.keeps b).2.2, (p2.keeps b).2.1, (p2.keeps b).2.2, (p3.keeps b).2.1, (p3.keeps b).2.2, (p4.keeps b).2.1, (p4.keeps b).2.2⟩
theorem drew1 (w : World) : Below w.heap.size w w.drew := (Below.refl _ _).drew

/-- New stamps: zeros. -/
theorem made_ids (n : Nat) : (madeCells #[.int .u32 0, .int .u8 0] (n * 2)).toList = ids (List.replicate n zid) := by
  apply List.ext_getElem?
  intro j
  by_cases hj : j < n * 2
  · have e := ids_get (List.replicate n zid) (j / 2) (by simp; omega)
    have ez : (List.replicate n zid).getD (j / 2) zid = zid := by simp [List.getD, List.getElem?_replicate]; split <;> rfl
    rw [ez] at e
    rcases (by omega : j = j / 2 * 2 ∨ j = j / 2 * 2 + 1) with h | h
    · have e2 : (ids (List.replicate n zid))[j]? = some (.int .u32 0) := by rw [h]; exact e.1
      rw [e2]
      simp [madeCells, hj, show j % 2 = 0 by omega]
    · have e2 : (ids (List.replicate n zid))[j]? = some (.int .u8 0) := by rw [h]; exact e.2
      rw [e2]
      simp [madeCells, hj, show j % 2 = 1 by omega]
  · rw [List.getElem?_eq_none (by simp [madeCells]; omega), List.getElem?_eq_none (by rw [ids_len]; simp; omega)]
theorem id_info : (Try.prog.info? 25).map (fun i => (i.zero, i.size, i.bytes)) = some (some (.agg #[.int .u32 0, .int .u8 0]), 2, 8) := by kernel_rfl
end Go.Proofs.Ytmgdbgloacbacaa

/- A stamp, a slice of stamps that came in: what it holds. Conditions: none. -/
namespace Go.Proofs.Ytmgdbgloacbacaa
open Go.Joins Go.ChangeShapes Go.WideShapes Go.ChangeAt Go.RowKit Go.Deep

set_option maxRecDepth 100000 in
theorem kit_cellsId : Try.prog.cellsOf 25 = 2 := by kernel_rfl

set_option maxRecDepth 100000 in
theorem wf_u32 {a : Int} (h : (Lit.int .u32 a).wf = true) : ∃ n : Nat, a = (n : Int) ∧ n < 4294967296 := by
  have hb : 0 ≤ a ∧ a ≤ 4294967295 := by simpa [Lit.wf, IntKind.min, IntKind.max, IntKind.signed, IntKind.bits] using h
  exact ⟨a.toNat, by omega, by omega⟩
set_option maxRecDepth 100000 in
theorem wf_u8 {a : Int} (h : (Lit.int .u8 a).wf = true) : ∃ n : Nat, a = (n : Int) ∧ n < 256 := by
  have hb : 0 ≤ a ∧ a ≤ 255 := by simpa [Lit.wf, IntKind.min, IntKind.max, IntKind.signed, IntKind.bits] using h
  exact ⟨a.toNat, by omega, by omega⟩

set_option maxRecDepth 100000 in
theorem id_of {H : Type} {enc : TypeId × Value → H} {W : World} {v : Value} {d : DataW H} {p : List MemPlace} {base : Nat}
    (hv : Value.okWide Try.prog W .any base 25 v) (h : DataW.Trod enc Try.prog W 0 (fun _ => true) true 25 v d p) :
    ∃ a : Id, v = .agg #[.int .u32 (a.t : Int), .int .u8 (a.r : Int)] := by
  obtain ⟨c0, c1, y0, y1, m, rfl, -, -, hy0, hy1⟩ := open_agg2 Try.underlying25 (by kernel_rfl) kit_cellsId hv h
  obtain ⟨a, e0, -, wa⟩ := DataW.trod_int Try.underlying23 hy0
  obtain ⟨b, e1, -, wb⟩ := DataW.trod_int Try.underlying5 hy1
  simp at e0 e1
  subst e0 e1
  obtain ⟨n, rfl, hn⟩ := wf_u32 wa
  obtain ⟨q, rfl, hq⟩ := wf_u8 wb
  exact ⟨⟨n, q, hn, hq⟩, rfl⟩

set_option maxRecDepth 100000 in
theorem ids_of {H : Type} {enc : TypeId × Value → H} {W : World} {v : Value} {d : DataW H} {p : List MemPlace} {base : Nat}
    (hv : Value.okWide Try.prog W .any base 26 v) (h : DataW.Trod enc Try.prog W 0 (fun _ => true) true 26 v d p) :
    ∃ (ao : Option Addr) (cap : Nat) (l : List Id), v = .slice ao l.length cap ∧ Ids W (.slice ao l.length cap) l := by
  obtain ⟨a0, len, cap, rfl⟩ := okWide_slice Try.underlying26 hv
  obtain ⟨fuel, hf⟩ := h
  rcases open_slice Try.underlying26 hf with ⟨hcs, hx⟩ | ⟨a, len', cap', m, n, D, Pl, hcs, _, hl, hm, hmm, hx, hi⟩
  · simp [Value.cells] at hcs
    obtain ⟨rfl, rfl, rfl⟩ := hcs
    exact ⟨none, 0, [], rfl, Ids.nil W⟩
  · simp [Value.cells] at hcs
    obtain ⟨rfl, rfl, rfl⟩ := hcs
    simp only [if_true] at hmm
    subst hmm
    unfold maxLen at hm
    have each : ∀ i, i < m → ∃ x : Id, W.cell? (a.add (i * 2)) = some (.int .u32 (x.t : Int)) ∧ W.cell? ((a.add (i * 2)).add 1) = some (.int .u8 (x.r : Int)) := by
      intro i him
      obtain ⟨cs, hc, ht⟩ := hi i him
      rw [kit_cellsId] at hc
      obtain ⟨_, hcl, hat⟩ := World.cells?_some hc
      obtain ⟨y0, y1, n2, -, hlen, h0, h1⟩ := trod_struct2 Try.underlying25 ht
      match cs, hcl with
      | [c0, c1], _ =>
        have h0' : DataW.trod enc Try.prog W 0 (fun _ => true) true n2 23 [c0] = some y0 := h0
        have h1' : DataW.trod enc Try.prog W 0 (fun _ => true) true n2 5 [c1] = some y1 := h1
        obtain ⟨z, e0, -, wz⟩ := DataW.trod_int Try.underlying23 h0'
        obtain ⟨u, e1, -, wu⟩ := DataW.trod_int Try.underlying5 h1'
        simp at e0 e1
        subst e0 e1
        obtain ⟨tn, rfl, hn⟩ := wf_u32 wz
        obtain ⟨q, rfl, hq⟩ := wf_u8 wu
        have g0 := hat 0 (by omega)
        have g1 := hat 1 (by omega)
        exact ⟨⟨tn, q, hn, hq⟩, by simpa [Addr.add] using g0, by simpa using g1⟩
    have hsel : ∃ f : Nat → Id, ∀ i, i < m → W.cell? (a.add (i * 2)) = some (.int .u32 ((f i).t : Int)) ∧ W.cell? ((a.add (i * 2)).add 1) = some (.int .u8 ((f i).r : Int)) :=
      ⟨fun i => if h : i < m then Classical.choose (each i h) else zid, fun i h => by simp only [h, dif_pos]; exact Classical.choose_spec (each i h)⟩
    obtain ⟨f, hf⟩ := hsel
    have hxl : ((List.range len).map f).length = len := by simp
    refine ⟨some a, m, (List.range len).map f, by rw [hxl], by rw [ids_len], some a, m, rfl, by omega, hm, by simp, ?_⟩
    by_cases hl0 : len = 0
    · left; subst hl0; rfl
    · right
      obtain ⟨b, off, spot⟩ := a
      have hspot : spot = none := by simpa [Addr.add] using World.cell?_spot (hf 0 (by omega)).1
      subst hspot
      refine ⟨b, off, rfl, World.block_lt_of_cell? W ⟨b, off, none⟩ (by simpa [Addr.add] using (hf 0 (by omega)).1), fun j u hj => ?_⟩
      have hjl : j < (ids ((List.range len).map f)).length := (List.getElem?_eq_some_iff.1 hj).1
      rw [ids_len, hxl] at hjl
      obtain ⟨i, hij⟩ : ∃ i, j = i * 2 ∨ j = i * 2 + 1 := ⟨j / 2, by omega⟩
      have e := ids_get ((List.range len).map f) i (by rw [hxl]; omega)
      have ef : ((List.range len).map f).getD i zid = f i := by simp [List.getD, show i < len by omega]
      rw [ef] at e
      have g := hf i (by omega)
      rw [add_plain, add_plain] at g
      rcases hij with rfl | rfl
      · rw [e.1] at hj
        rw [← hj]
        exact g.1
      · rw [e.2] at hj
        rw [← hj]
        exact g.2
end Go.Proofs.Ytmgdbgloacbacaa

/- Clocks taken one by one, whether they may be, as a Bool; the clock of stamps, and the stamps of a clock. Conditions: none. -/
namespace Go.Proofs.Ytmgdbgloacbacaa.Clocks
open Go.Proofs.Ytmgdbgloacbacaa.Spans

def ztm : Tm := (0, [])
def upB : Nat → List Tm → Bool
  | _, [] => true
  | lo, x :: c => decide (lo ≤ x.1 ∧ x.1 < 8 ∧ x.2 ≠ []) && (mayB x.2 && upB (x.1 + 1) c)
theorem upB_iff : ∀ (c : List Tm) (lo : Nat), upB lo c = true ↔ Up lo c
  | [], _ => by simp [upB, Up]
  | x :: c, lo => by
    unfold upB Up
    rw [Bool.and_eq_true, Bool.and_eq_true, decide_eq_true_iff, upB_iff c (x.1 + 1)]
    constructor
    · rintro ⟨⟨h1, h2, h3⟩, h4, h5⟩; exact ⟨h1, h2, h3, h4, h5⟩
    · rintro ⟨h1, h2, h3, h4, h5⟩; exact ⟨⟨h1, h2, h3⟩, h4, h5⟩
/-- May the clock be? -/
def mayC (c : List Tm) : Bool := upB 0 c
theorem mayC_iff (c : List Tm) : mayC c = true ↔ Cok c := upB_iff c 0
theorem mayC_no {c : List Tm} (h : ¬ Cok c) : mayC c = false := by
  cases hb : mayC c
  · rfl
  · exact absurd ((mayC_iff c).1 hb) h
theorem up_all : ∀ {c : List Tm} {lo : Nat}, Up lo c → ∀ x ∈ c, lo ≤ x.1 ∧ x.1 < 8 ∧ x.2 ≠ [] ∧ mayB x.2 = true
  | [], _, _, x, hx => by simp at hx
  | y :: c, lo, h, x, hx => by
    rw [List.mem_cons] at hx
    rcases hx with rfl | hx
    · exact ⟨h.1, h.2.1, h.2.2.1, h.2.2.2.1⟩
    · have := up_all h.2.2.2.2 x hx
      have h1 := h.1
      exact ⟨by omega, this.2⟩
theorem up_front : ∀ {c d : List Tm} {lo : Nat}, Up lo (c ++ d) → Up lo c
  | [], _, _, _ => trivial
  | _ :: _, _, _, h => ⟨h.1, h.2.1, h.2.2.1, h.2.2.2.1, up_front h.2.2.2.2⟩
theorem up_take {c : List Tm} {lo : Nat} (h : Up lo c) (k : Nat) : Up lo (c.take k) := by
  have := List.take_append_drop k c
  rw [← this] at h
  exact up_front h
theorem up_snoc : ∀ {c : List Tm} {x : Tm} {lo : Nat}, Up lo c → (∀ y ∈ c, y.1 < x.1) → lo ≤ x.1 → x.1 < 8 → x.2 ≠ [] → mayB x.2 = true → Up lo (c ++ [x])
  | [], x, lo, _, _, h1, h2, h3, h4 => ⟨h1, h2, h3, h4, trivial⟩
  | y :: c, x, lo, h, hl, h1, h2, h3, h4 => by
    have := hl y (by simp)
    exact ⟨h.1, h.2.1, h.2.2.1, h.2.2.2.1, up_snoc h.2.2.2.2 (fun z hz => hl z (by simp [hz])) (by omega) h2 h3 h4⟩
theorem up_next : ∀ {c : List Tm} {lo k : Nat}, Up lo c → k + 1 < c.length → (c.getD k ztm).1 < (c.getD (k + 1) ztm).1
  | [], _, k, _, h => by simp at h
  | [x], _, k, _, h => by simp at h
  | x :: y :: c, _, 0, h, _ => by
    have h1 : x.1 + 1 ≤ y.1 := h.2.2.2.2.1
    show x.1 < y.1
    omega
  | x :: y :: c, _, k + 1, h, hk => by
    have := up_next (c := y :: c) (k := k) h.2.2.2.2 (by simpa using hk)
    simpa using this
theorem up_most : ∀ {c : List Tm} {lo : Nat}, Up lo c → ∀ a ∈ c, a.1 ≤ (c.getD (c.length - 1) ztm).1
  | [], _, _, a, ha => by simp at ha
  | [x], _, _, a, ha => by simp only [List.mem_singleton] at ha; subst ha; simp
  | x :: y :: c, lo, h, a, ha => by
    have ih := up_most h.2.2.2.2
    have e : (x :: y :: c).getD ((x :: y :: c).length - 1) ztm = (y :: c).getD ((y :: c).length - 1) ztm := by simp
    rw [e]
    rw [List.mem_cons] at ha
    rcases ha with rfl | ha
    · have h1 := ih y (by simp)
      have h2 := h.2.2.2.2.1
      omega
    · exact ih a ha
theorem tm_take_snoc (c : List Tm) (k : Nat) (h : k < c.length) : c.take (k + 1) = c.take k ++ [c.getD k ztm] := by
  rw [List.take_succ_eq_append_getElem h]
  simp [List.getD, List.getElem?_eq_getElem h]
theorem tm_mem {c : List Tm} {k : Nat} (h : k < c.length) : c.getD k ztm ∈ c := by
  rw [List.getD, List.getElem?_eq_getElem h]
  exact List.getElem_mem _
theorem up_take_succ {c : List Tm} {k : Nat} (h : k < c.length) (hc : Up 0 (c.take k)) (h1 : (c.getD k ztm).1 < 8) (h2 : (c.getD k ztm).2 ≠ []) (h3 : mayB (c.getD k ztm).2 = true)
    (h4 : k = 0 ∨ (c.getD (k - 1) ztm).1 < (c.getD k ztm).1) : Up 0 (c.take (k + 1)) := by
  rw [tm_take_snoc c k h]
  refine up_snoc hc (fun a ha => ?_) (Nat.zero_le _) h1 h2 h3
  rcases h4 with rfl | h4
  · simp at ha
  · have h5 := up_most hc a ha
    have hk : 0 < k := by
      cases k with
      | zero => simp at ha
      | succ k => omega
    rw [List.length_take, Nat.min_eq_left (by omega)] at h5
    have e : (c.take k).getD (k - 1) ztm = c.getD (k - 1) ztm := by
      simp [List.getD, show k - 1 < k by omega]
    rw [e] at h5
    omega
theorem spn_hit : ∀ {c : List Tm} {k r : Nat}, (∀ j, j < k → (c.getD j ztm).1 ≠ r) → k < c.length → (c.getD k ztm).1 = r → spn c r = (c.getD k ztm).2
  | [], k, _, _, h, _ => by simp at h
  | x :: c, 0, r, _, _, h => by
    unfold spn
    rw [if_pos (by simpa using h)]
    simp
  | x :: c, k + 1, r, hn, hk, h => by
    unfold spn
    have h0 := hn 0 (by omega)
    rw [if_neg (by simpa using h0)]
    have := spn_hit (c := c) (k := k) (r := r) (fun j hj => by have := hn (j + 1) (by omega); simpa using this) (by simpa using hk) (by simpa using h)
    simpa using this
theorem spn_miss : ∀ {c : List Tm} {r : Nat}, (∀ j, j < c.length → (c.getD j ztm).1 ≠ r) → spn c r = []
  | [], _, _ => rfl
  | x :: c, r, h => by
    unfold spn
    have h0 := h 0 (by simp)
    rw [if_neg (by simpa using h0)]
    exact spn_miss fun j hj => by have := h (j + 1) (by simpa using hj); simpa using this
theorem manyC_snoc (c : List Tm) (x : Tm) : manyC (c ++ [x]) = manyC c + many x.2 := by
  induction c with
  | nil => simp [manyC]
  | cons y c ih => simp only [List.cons_append, manyC, ih]; omega
theorem top_snoc (l : List Sp) (x : Sp) : top (l ++ [x]) = max (top l) x.t := by
  induction l with
  | nil => simp [top]
  | cons y l ih => simp only [List.cons_append, top, ih]; omega
theorem topC_snoc (c : List Tm) (x : Tm) : topC (c ++ [x]) = max (topC c) (top x.2) := by
  induction c with
  | nil => simp [topC]
  | cons y c ih => simp only [List.cons_append, topC, ih]; omega
theorem clkFrom_snoc (g : Nat → List Sp) : ∀ (k lo : Nat), clkFrom g lo (k + 1) = clkFrom g lo k ++ (if g (lo + k) = [] then [] else [(lo + k, g (lo + k))])
  | 0, lo => by
    simp only [clkFrom, Nat.add_zero, List.nil_append]
  | k + 1, lo => by
    have ih := clkFrom_snoc g k (lo + 1)
    rw [show lo + (k + 1) = lo + 1 + k by omega]
    show (if g lo = [] then clkFrom g (lo + 1) (k + 1) else (lo, g lo) :: clkFrom g (lo + 1) (k + 1)) = (if g lo = [] then clkFrom g (lo + 1) k else (lo, g lo) :: clkFrom g (lo + 1) k) ++ _
    rw [ih]
    by_cases q : g lo = []
    · rw [if_pos q, if_pos q]
    · rw [if_neg q, if_neg q, List.cons_append]
theorem clkFrom_len (g : Nat → List Sp) : ∀ (k lo : Nat), (clkFrom g lo k).length ≤ k
  | 0, _ => Nat.le_refl _
  | k + 1, lo => by
    have := clkFrom_len g k (lo + 1)
    unfold clkFrom
    split
    · omega
    · simp; omega

/-- The clock of a stamp. -/
def one (a : Id) : List Tm := [(a.r, [mk a.t a.t])]
/-- Two together, one without another one. -/
def bothC (a b : List Tm) : List Tm := clk fun r => both (spn a r) (spn b r)
def leftC (a b : List Tm) : List Tm := clk fun r => left (spn a r) (spn b r)
/-- No replica has too many spans. -/
def Few (a b : List Tm) : Prop := ∀ r, (spn a r).length + (spn b r).length ≤ 1024
theorem few_may {a b : List Tm} (ha : Cok a) (hb : Cok b) (h : Few a b) (r : Nat) : mayB (both (spn a r) (spn b r)) = true := by
  have h1 := (mayB_iff _).1 (spn_may ha r)
  have h2 := (mayB_iff _).1 (spn_may hb r)
  exact (mayB_iff _).2 ⟨(both_ok h1.1 h2.1.all).1, Nat.le_trans (both_len _ _) (h r)⟩
theorem few_may_left {a b : List Tm} (ha : Cok a) (hb : Cok b) (h : Few a b) (r : Nat) : mayB (left (spn a r) (spn b r)) = true := by
  have h1 := (mayB_iff _).1 (spn_may ha r)
  have h2 := (mayB_iff _).1 (spn_may hb r)
  exact (mayB_iff _).2 ⟨(left_ok h1.1 h2.1.all).1, Nat.le_trans (left_len h1.1 h2.1.all) (h r)⟩
theorem bothC_ok {a b : List Tm} (ha : Cok a) (hb : Cok b) (h : Few a b) : Cok (bothC a b) := clk_ok (few_may ha hb h)
theorem leftC_ok {a b : List Tm} (ha : Cok a) (hb : Cok b) (h : Few a b) : Cok (leftC a b) := clk_ok (few_may_left ha hb h)
theorem spn_bothC {a b : List Tm} (ha : Cok a) (hb : Cok b) (r : Nat) : spn (bothC a b) r = both (spn a r) (spn b r) := by
  unfold bothC
  rw [spn_clk]
  split
  · rfl
  · rw [spn_high ha (by omega), spn_high hb (by omega)]; rfl
theorem spn_leftC {a b : List Tm} (ha : Cok a) (hb : Cok b) (r : Nat) : spn (leftC a b) r = left (spn a r) (spn b r) := by
  unfold leftC
  rw [spn_clk]
  split
  · rfl
  · rw [spn_high ha (by omega), spn_high hb (by omega)]; rfl
/-- May a stamp be? -/
def mayI (a : Id) : Prop := 1 ≤ a.t ∧ a.t ≤ 1073741824 ∧ a.r < 8
instance (a : Id) : Decidable (mayI a) := inferInstanceAs (Decidable (_ ∧ _))
theorem one_sp {a : Id} (h : mayI a) : Ok (mk a.t a.t) := by
  have := a.ht
  unfold mayI at h
  unfold Ok
  rw [mk_f this, mk_t this]
  omega
theorem one_ok {a : Id} (h : mayI a) : Cok (one a) :=
  ⟨Nat.zero_le _, h.2.2, by simp, (mayB_iff _).2 ⟨one_sp h, by simp⟩, trivial⟩
theorem spn_one (a : Id) (r : Nat) : spn (one a) r = if a.r = r then [mk a.t a.t] else [] := by
  unfold one spn
  rfl
theorem spn_one_len (a : Id) (r : Nat) : (spn (one a) r).length ≤ 1 := by
  rw [spn_one]; split <;> simp

/-- The clock of some stamps. -/
def among : List Id → List Tm
  | l => l.foldl (fun c a => bothC c (one a)) []
theorem among_snoc (l : List Id) (a : Id) : among (l ++ [a]) = bothC (among l) (one a) := by unfold among; rw [List.foldl_append]; rfl
theorem list_snoc_ind {α : Type} {P : List α → Prop} (h0 : P []) (h1 : ∀ l a, P l → P (l ++ [a])) (l : List α) : P l := by
  have go : ∀ (n : Nat) (l : List α), l.length = n → P l := by
    intro n
    induction n with
    | zero => intro l h; rw [List.length_eq_zero_iff.1 h]; exact h0
    | succ n ih =>
      intro l h
      rcases List.eq_nil_or_concat l with rfl | ⟨m, x, rfl⟩
      · simp at h
      · rw [List.concat_eq_append] at h ⊢
        exact h1 m x (ih m (by simpa using h))
  exact go l.length l rfl
theorem among_ok (l : List Id) : (∀ a ∈ l, mayI a) → l.length ≤ 1024 → Cok (among l) ∧ (∀ r, (spn (among l) r).length ≤ l.length) ∧
    ∀ r n, In (spn (among l) r) n ↔ ∃ a ∈ l, a.r = r ∧ a.t = n := by
  refine list_snoc_ind (P := fun l => (∀ a ∈ l, mayI a) → l.length ≤ 1024 → Cok (among l) ∧ (∀ r, (spn (among l) r).length ≤ l.length) ∧ ∀ r n, In (spn (among l) r) n ↔ ∃ a ∈ l, a.r = r ∧ a.t = n) ?_ ?_ l
  · intro _ _
    refine ⟨trivial, fun r => Nat.zero_le _, fun r n => ?_⟩
    show In [] n ↔ _
    constructor
    · exact fun h => absurd h (in_nil n)
    · rintro ⟨a, ha, _⟩; simp at ha
  · intro l x ih hm hl
    rw [List.length_append, List.length_singleton] at hl
    obtain ⟨i1, i2, i3⟩ := ih (fun a ha => hm a (by simp [ha])) (by omega)
    have hx := hm x (by simp)
    have ho := one_ok hx
    have hfew : Few (among l) (one x) := fun r => by have := i2 r; have := spn_one_len x r; omega
    rw [among_snoc]
    refine ⟨bothC_ok i1 ho hfew, fun r => ?_, fun r n => ?_⟩
    · rw [spn_bothC i1 ho]
      have h1 := both_len (spn (one x) r) (spn (among l) r)
      have h2 := spn_one_len x r
      have h3 := i2 r
      rw [List.length_append, List.length_singleton]
      omega
    · have h1 := (mayB_iff _).1 (spn_may i1 r)
      have h2 := (mayB_iff _).1 (spn_may ho r)
      rw [spn_bothC i1 ho, (both_ok h1.1 h2.1.all).2 n, i3, spn_one]
      have hxt := x.ht
      constructor
      · rintro (⟨a, h3, h4⟩ | h3)
        · exact ⟨a, by simp [h3], h4⟩
        · by_cases q : x.r = r
          · rw [if_pos q, in_cons, mk_f hxt, mk_t hxt] at h3
            rcases h3 with h3 | h3
            · exact ⟨x, by simp, q, by omega⟩
            · exact absurd h3 (in_nil n)
          · rw [if_neg q] at h3; exact absurd h3 (in_nil n)
      · rintro ⟨a, h3, h4, h5⟩
        rw [List.mem_append, List.mem_singleton] at h3
        rcases h3 with h3 | rfl
        · exact .inl ⟨a, h3, h4, h5⟩
        · right
          rw [if_pos h4, in_cons, mk_f hxt, mk_t hxt]
          left; omega

/-! ### No more than both -/
theorem cnt_le {p q r : Nat → Bool} (h : ∀ k, r k = (p k || q k)) : ∀ n, cnt r n ≤ cnt p n + cnt q n
  | 0 => Nat.le_refl _
  | n + 1 => by
    have ih := cnt_le h n
    have e := h n
    unfold cnt
    rw [e]
    cases hp : p n <;> cases hq : q n <;> simp <;> omega
theorem many_both {x y : List Sp} (hx : Fine x) (hy : Fine y) : many (both x y) ≤ many x + many y := by
  have h := both_ok hx hy.all
  rw [many_cnt hx, many_cnt hy, many_cnt h.1]
  refine cnt_le (fun k => ?_) _
  rw [Bool.eq_iff_iff, Bool.or_eq_true, inB_iff, inB_iff, inB_iff]
  exact h.2 k
theorem sumFrom_le {g p q : Nat → List Sp} (h : ∀ r, many (g r) ≤ many (p r) + many (q r)) : ∀ (k lo : Nat), sumFrom g lo k ≤ sumFrom p lo k + sumFrom q lo k
  | 0, _ => Nat.le_refl _
  | k + 1, lo => by
    have h1 := h lo
    have h2 := sumFrom_le h k (lo + 1)
    unfold sumFrom
    omega
theorem manyC_clk {c : List Tm} (h : Cok c) : manyC c = sumFrom (spn c) 0 8 := by
  have h1 := clk_spn h
  unfold clk at h1
  rw [← manyC_clkFrom, h1]
theorem manyC_both {a b : List Tm} (ha : Cok a) (hb : Cok b) : manyC (bothC a b) ≤ manyC a + manyC b := by
  rw [manyC_clk ha, manyC_clk hb]
  unfold bothC clk
  rw [manyC_clkFrom]
  exact sumFrom_le (fun r => many_both ((mayB_iff _).1 (spn_may ha r)).1 ((mayB_iff _).1 (spn_may hb r)).1) 8 0
theorem manyC_one (a : Id) : manyC (one a) = 1 := by
  simp [one, manyC, many, mk_f a.ht, mk_t a.ht]
theorem among_many (l : List Id) : (∀ a ∈ l, mayI a) → l.length ≤ 1024 → manyC (among l) ≤ l.length := by
  refine list_snoc_ind (P := fun l => (∀ a ∈ l, mayI a) → l.length ≤ 1024 → manyC (among l) ≤ l.length) ?_ ?_ l
  · intro _ _; exact Nat.le_refl _
  · intro l x ih hm hl
    rw [List.length_append, List.length_singleton] at hl ⊢
    have i := ih (fun a ha => hm a (by simp [ha])) (by omega)
    have h1 := (among_ok l (fun a ha => hm a (by simp [ha])) (by omega)).1
    have h2 := manyC_both h1 (one_ok (hm x (by simp)))
    rw [manyC_one] at h2
    rw [among_snoc]
    omega

/-! ### The stamps of a clock -/
def idOf (r t : Nat) : Id := ⟨t % 4294967296, r % 256, Nat.mod_lt _ (by decide), Nat.mod_lt _ (by decide)⟩
theorem idOf_t {r t : Nat} (h : t < 4294967296) : (idOf r t).t = t := Nat.mod_eq_of_lt h
theorem idOf_r {r t : Nat} (h : r < 256) : (idOf r t).r = r := Nat.mod_eq_of_lt h
/-- From a time on, so many. -/
def runI (r : Nat) : Nat → Nat → List Id
  | _, 0 => []
  | t, k + 1 => idOf r t :: runI r (t + 1) k
theorem runI_len (r : Nat) : ∀ (k t : Nat), (runI r t k).length = k
  | 0, _ => rfl
  | k + 1, t => by simp [runI, runI_len r k]
theorem runI_snoc (r : Nat) : ∀ (k t : Nat), runI r t (k + 1) = runI r t k ++ [idOf r (t + k)]
  | 0, t => rfl
  | k + 1, t => by
    have ih := runI_snoc r k (t + 1)
    rw [show t + (k + 1) = t + 1 + k by omega]
    show idOf r t :: runI r (t + 1) (k + 1) = idOf r t :: runI r (t + 1) k ++ _
    rw [ih, List.cons_append]
theorem mem_runI (r : Nat) : ∀ (k t : Nat) (a : Id), a ∈ runI r t k ↔ ∃ n, t ≤ n ∧ n < t + k ∧ a = idOf r n
  | 0, t, a => by
    simp only [runI, List.not_mem_nil, false_iff]
    rintro ⟨n, h1, h2, _⟩; omega
  | k + 1, t, a => by
    simp only [runI, List.mem_cons, mem_runI r k (t + 1) a]
    constructor
    · rintro (h | ⟨n, h1, h2, h3⟩)
      · exact ⟨t, Nat.le_refl _, by omega, h⟩
      · exact ⟨n, by omega, by omega, h3⟩
    · rintro ⟨n, h1, h2, h3⟩
      by_cases q : n = t
      · subst q; exact .inl h3
      · exact .inr ⟨n, by omega, by omega, h3⟩
def spI (r : Nat) : List Sp → List Id
  | [] => []
  | x :: l => runI r x.f (x.t + 1 - x.f) ++ spI r l
/-- All of a clock. -/
def allI : List Tm → List Id
  | [] => []
  | x :: c => spI x.1 x.2 ++ allI c
theorem spI_snoc (r : Nat) (l : List Sp) (x : Sp) : spI r (l ++ [x]) = spI r l ++ runI r x.f (x.t + 1 - x.f) := by
  induction l with
  | nil => simp [spI]
  | cons y l ih => simp only [List.cons_append, spI, ih, List.append_assoc]
theorem allI_snoc (c : List Tm) (x : Tm) : allI (c ++ [x]) = allI c ++ spI x.1 x.2 := by
  induction c with
  | nil => simp [allI]
  | cons y c ih => simp only [List.cons_append, allI, ih, List.append_assoc]
theorem spI_len (r : Nat) : ∀ {l : List Sp}, (∀ x ∈ l, Ok x) → (spI r l).length = many l
  | [], _ => rfl
  | x :: l, h => by
    have hx := h x (by simp)
    unfold Ok at hx
    rw [spI, List.length_append, runI_len, spI_len r (fun y hy => h y (by simp [hy])), many]
    omega
theorem allI_len : ∀ {c : List Tm}, (∀ x ∈ c, ∀ y ∈ x.2, Ok y) → (allI c).length = manyC c
  | [], _ => rfl
  | x :: c, h => by rw [allI, List.length_append, spI_len _ (h x (by simp)), allI_len (fun y hy => h y (by simp [hy])), manyC]
theorem cok_all {c : List Tm} {lo : Nat} (h : Up lo c) : ∀ x ∈ c, ∀ y ∈ x.2, Ok y := fun x hx => ((mayB_iff _).1 (up_all h x hx).2.2.2).1.all
theorem mem_spI (r : Nat) (a : Id) : ∀ {l : List Sp}, a ∈ spI r l ↔ ∃ n, In l n ∧ a = idOf r n
  | [] => by
    simp only [spI, List.not_mem_nil, false_iff]
    rintro ⟨n, h, _⟩; exact in_nil n h
  | x :: l => by
    rw [spI, List.mem_append, mem_runI, mem_spI r a (l := l)]
    constructor
    · rintro (⟨n, h1, h2, h3⟩ | ⟨n, h1, h2⟩)
      · exact ⟨n, in_cons.2 (.inl ⟨h1, by omega⟩), h3⟩
      · exact ⟨n, in_cons.2 (.inr h1), h2⟩
    · rintro ⟨n, h1, h2⟩
      rcases in_cons.1 h1 with h1 | h1
      · exact .inl ⟨n, h1.1, by omega, h2⟩
      · exact .inr ⟨n, h1, h2⟩
theorem spn_cons (x : Tm) (c : List Tm) (r : Nat) : spn (x :: c) r = if x.1 = r then x.2 else spn c r := rfl
theorem mem_allI (a : Id) : ∀ {c : List Tm} {lo : Nat}, Up lo c → (a ∈ allI c ↔ In (spn c a.r) a.t)
  | [], _, _ => by
    simp only [allI, List.not_mem_nil, false_iff]
    exact in_nil _
  | x :: c, lo, h => by
    have hf := ((mayB_iff _).1 h.2.2.2.1).1
    rw [allI, List.mem_append, mem_spI, mem_allI a h.2.2.2.2, spn_cons]
    have hx8 := h.2.1
    have key : ∀ n, In x.2 n → a = idOf x.1 n → x.1 = a.r ∧ n = a.t := fun n h1 h2 => by
      have hb := in_bound hf h1
      have e1 := idOf_r (r := x.1) (t := n) (by omega)
      have e2 := idOf_t (r := x.1) (t := n) (by omega)
      rw [h2, e1, e2]
      exact ⟨rfl, rfl⟩
    by_cases q : x.1 = a.r
    · rw [if_pos q, spn_low h.2.2.2.2 (show a.r < x.1 + 1 by omega)]
      constructor
      · rintro (⟨n, h1, h2⟩ | h1)
        · rw [← (key n h1 h2).2]; exact h1
        · exact absurd h1 (in_nil _)
      · intro h1
        refine .inl ⟨a.t, h1, Id.ext' ?_ ?_⟩
        · exact (idOf_t a.ht).symm
        · rw [q]; exact (idOf_r a.hr).symm
    · rw [if_neg q]
      constructor
      · rintro (⟨n, h1, h2⟩ | h1)
        · exact absurd (key n h1 h2).1 q
        · exact h1
      · exact .inr
theorem allI_may {c : List Tm} (h : Cok c) : ∀ a ∈ allI c, mayI a := by
  intro a ha
  have h1 := (mem_allI a h).1 ha
  have h2 := in_bound ((mayB_iff _).1 (spn_may h a.r)).1 h1
  refine ⟨h2.1, h2.2, ?_⟩
  by_cases q : a.r < 8
  · exact q
  · rw [spn_high h (by omega)] at h1; exact absurd h1 (in_nil _)
/-- Two clocks with the same stamps are the same. -/
theorem cok_ext {c d : List Tm} (hc : Cok c) (hd : Cok d) (h : ∀ r n, In (spn c r) n ↔ In (spn d r) n) : c = d :=
  up_ext hc hd fun r => uniq ((mayB_iff _).1 (spn_may hc r)).1 ((mayB_iff _).1 (spn_may hd r)).1 (h r)
/-- The clock of a clock's stamps is that. -/
theorem among_all {c : List Tm} (h : Cok c) (hm : manyC c ≤ 1024) : among (allI c) = c := by
  have hl := allI_len (cok_all h)
  obtain ⟨h1, _, h3⟩ := among_ok (allI c) (allI_may h) (by omega)
  refine cok_ext h1 h fun r n => ?_
  rw [h3]
  constructor
  · rintro ⟨a, ha, rfl, rfl⟩
    exact (mem_allI a h).1 ha
  · intro hn
    have hb := in_bound ((mayB_iff _).1 (spn_may h r)).1 hn
    have hr : r < 8 := by
      by_cases q : r < 8
      · exact q
      · rw [spn_high h (by omega)] at hn; exact absurd hn (in_nil _)
    have e1 := idOf_r (r := r) (t := n) (by omega)
    have e2 := idOf_t (r := r) (t := n) (by omega)
    refine ⟨idOf r n, (mem_allI _ h).2 ?_, e1, e2⟩
    rw [e1, e2]; exact hn
end Go.Proofs.Ytmgdbgloacbacaa.Clocks
