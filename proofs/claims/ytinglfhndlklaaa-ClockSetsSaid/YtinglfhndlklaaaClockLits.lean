/- The calls of layer 8, each with its answer given. Conditions: as each says. -/
import Derived.Test.YtinglfhndlklaaaClockCode4
import Derived.Test.YtinglfhndlklaaaClockTwin
namespace Go.Proofs.Ytinglfhndlklaaa.Clocks
open Go.RowKit Go.Proofs.Ytinglfhndlklaaa.Spans

theorem great_sz {v : Value} {c : List Tm} {w : World} (hv : Tms w v c) (hs : ∀ x ∈ c, x.2.length ≤ 17592186044416) :
    Calls Try.prog 21 #[v] w fun e w' => (∃ g, e = .returned (.bool g) ∧ (g = false → c.length ≤ 300 ∧ tot c ≤ 300)) ∧ w = w' :=
  (great_any hv).mono fun e w' ⟨⟨g, he, hg⟩, hw⟩ => ⟨⟨g, he, fun h => by
    obtain ⟨h1, h2⟩ := hg h
    rcases h2 with h2 | ⟨x, hx, h2⟩
    · exact ⟨h1, h2⟩
    · have := hs x hx; omega⟩, hw⟩
theorem tot_mem : ∀ {c : List Tm} {x : Tm}, x ∈ c → x.2.length ≤ tot c
  | y :: c, x, h => by
    rcases List.mem_cons.1 h with rfl | h
    · unfold tot; omega
    · have := tot_mem h; unfold tot; omega
theorem few_add {c : List Tm} (h : tot c ≤ 300) (a : Id) : Few c (one a) := few_of (by rw [one_tot]; omega)
theorem few_two {c d : List Tm} (h : tot c ≤ 300) (k : tot d ≤ 300) : Few c d := few_of (by omega)
theorem add_lit {c L : List Tm} {x : Int} {a : Id} (hf : Few c (one a)) (h : addsC c a = (L, x)) : ∀ (W : World) (v : Value), Tms W v c → Calls Try.prog 13 #[v, .agg #[.int .u32 (a.t : Int), .int .u8 (a.r : Int)]] W (DoneC L x W) := fun W v hv => by
  have := cAdd_any a hv hf
  rwa [h] at this
theorem join_lit {c d L : List Tm} {x : Int} (hf : Few c d) (h : joinsC c d = (L, x)) : ∀ (W : World) (v u : Value), Tms W v c → Tms W u d → Calls Try.prog 9 #[v, u] W (DoneC L x W) := fun W v u hv hu => by
  have := cJoin_any hv hu hf
  rwa [h] at this
theorem less_lit {c d L : List Tm} {x : Int} (hf : Few c d) (h : leftsC c d = (L, x)) : ∀ (W : World) (v u : Value), Tms W v c → Tms W u d → Calls Try.prog 11 #[v, u] W (DoneC L x W) := fun W v u hv hu => by
  have := cLess_any hv hu hf
  rwa [h] at this
theorem radd_lit {c L : List Tm} {x : Int} {a : Id} (hf : Few c (one a)) (h : addsC c a = (L, x)) : ∀ (W : World) (v : Value), Tms W v c → Calls Try.prog 23 #[v, .agg #[.int .u32 (a.t : Int), .int .u8 (a.r : Int)]] W (DoneC L x W) := fun W v hv => by
  have := refAddC_any a hv hf
  rwa [h] at this
theorem rjoin_lit {c d L : List Tm} {x : Int} (hf : Few c d) (h : joinsC c d = (L, x)) : ∀ (W : World) (v u : Value), Tms W v c → Tms W u d → Calls Try.prog 24 #[v, u] W (DoneC L x W) := fun W v u hv hu => by
  have := refJoinC_any hv hu hf
  rwa [h] at this
theorem rless_lit {c d L : List Tm} {x : Int} (hf : Few c d) (h : leftsC c d = (L, x)) : ∀ (W : World) (v u : Value), Tms W v c → Tms W u d → Calls Try.prog 25 #[v, u] W (DoneC L x W) := fun W v u hv hu => by
  have := refLessC_any hv hu hf
  rwa [h] at this
theorem rsame_lit {c d : List Tm} {b : Bool} (h : decide (c = d) = b) : ∀ (W : World) (v u : Value), Tms W v c → Tms W u d → Calls Try.prog 12 #[v, u] W fun e w' => e = .returned (.bool b) ∧ Below W.heap.size W w' := fun W v u hv hu => by
  have := refSameC_any hv hu
  rwa [h] at this
theorem rtwin_lit {c : List Tm} (h1 : c.length ≤ 300) (h2 : tot c ≤ 300) : ∀ (W : World) (v : Value), Tms W v c → Calls Try.prog 22 #[v] W fun e w' => ∃ v', e = .returned v' ∧ OwnC w' W.heap.size v' c ∧ Below W.heap.size W w' := fun W v hv =>
  refTwinC_any hv (fun x hx => by have := tot_mem hx; omega) (by omega)
theorem twin_lit {c : List Tm} (h1 : c.length ≤ 300) (h2 : tot c ≤ 300) : ∀ (W : World) (v : Value), Tms W v c → Calls Try.prog 27 #[v] W fun e w' => ∃ v', e = .returned v' ∧ OwnC w' W.heap.size v' c ∧ Below W.heap.size W w' := fun W v hv =>
  cTwin_any hv (fun x hx => by have := tot_mem hx; omega) (by omega)
/-- The box of a stamp. -/
theorem box_id (w : World) (a : Id) : ∀ W : World, Below (w.alloc (.cells #[.int .u32 (a.t : Int), .int .u8 (a.r : Int)] 34)).heap.size (w.alloc (.cells #[.int .u32 (a.t : Int), .int .u8 (a.r : Int)] 34)) W →
    W.cell? ⟨w.heap.size, 0, none⟩ = some (.int .u32 (a.t : Int)) ∧ W.cell? ⟨w.heap.size, 1, none⟩ = some (.int .u8 (a.r : Int)) := fun W hW => by
  have h : W.heap[w.heap.size]? = some (.cells #[.int .u32 (a.t : Int), .int .u8 (a.r : Int)] 34) := (hW.block w.heap.size (by simp)).trans (kb_new rfl)
  exact two_blk h
end Go.Proofs.Ytinglfhndlklaaa.Clocks
