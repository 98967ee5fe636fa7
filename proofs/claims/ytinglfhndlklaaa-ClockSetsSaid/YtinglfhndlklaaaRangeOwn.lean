/- A range over a function whose iterator has cells of its own in one block, laid when it is called: the caller's side. Conditions: the loop's body goes on, or returns; it turns neither the loop's two blocks nor the iterator's one. -/
import Derived.RangeFuncBox
import Derived.RangeFuncLeaves
import Derived.Shelf.Abstract
namespace Go.Proofs.Ytinglfhndlklaaa
open Go Go.RowKit Go.Shelf

/-- What is said of a world that stays so where one of three blocks side by side turns, and where new ones come. -/
def Rides (H : Nat) (I : World → Prop) : Prop := ∀ A B r, I A → H ≤ r → r ≤ H + 2 → A.grownBy B (some r) → I B
/-- The three blocks side by side are as they were. -/
def Three (H : Nat) (W W' : World) : Prop := ∀ r, H ≤ r → r ≤ H + 2 → W'.heap[r]? = W.heap[r]?
theorem Rides.put {H : Nat} {I : World → Prop} (h : Rides H I) {W : World} {r : Nat} (o : Obj) (hi : I W) (h1 : H ≤ r) (h2 : r ≤ H + 2) : I (W.putObj r o) := h _ _ r hi h1 h2 (grownBy_putObj' W r o)
theorem Rides.new {H : Nat} {I : World → Prop} (h : Rides H I) {W : World} (o : Obj) (hi : I W) : I (W.alloc o) := h _ _ H hi (Nat.le_refl _) (by omega) (World.grownBy_alloc W o _)

/-- The iterator: it goes from 'start' to 'stop' by 'nx', handing 'enc s' to each round; its own cells lie in block H + 2. -/
def Goes (n : Nat) (P : Program) (gf : Nat) (lb : Array Value) (enc : Nat → Array Value) (dom : Nat → Prop) (nx : Nat → Nat) (start stop n₀ H : Nat) (w : World) : Prop :=
  ∀ (J : Nat → World → Prop) (Jx : World → Prop) (W : World), W.heap.size = H + 2 → Below H w W →
    (∀ s A B, J s A → A.grownBy B (some (H + 2)) → J s B) → (∀ A B, Jx A → A.grownBy B (some (H + 2)) → Jx B) →
    (∀ s W1, J s W1 → dom s → H + 2 < W1.heap.size → YieldAt Fence.wide (n - 1) P (H + 1) (enc s) W1 fun e W' =>
      (e = .returned (.bool true) ∧ J (nx s) W' ∧ Below n₀ W1 W' ∧ W'.heap[H + 2]? = W1.heap[H + 2]?) ∨ (e = .returned (.bool false) ∧ Jx W')) →
    J start W → CallsIn Fence.wide n P gf (#[.func (.yield (H + 1)) #[] #[]] ++ lb) W fun e W' => (∃ v, e = .returned v) ∧ (J stop W' ∨ Jx W')

/-- How a round is left. -/
def Leaves (H n₀ : Nat) (I : World → Prop) (Ix : World → Prop) (W : World) : Exit → Act → World → Prop
  | .normal, _, W' => Three H W W' ∧ Below n₀ W W' ∧ I W'
  | .ret, _, W' => Three H W W' ∧ Ix W'
  | _, _, _ => False

theorem range_own {n : Nat} {P : Program} {g : Operand} {ps : Array Tmp} {assign body : Code} {Q : Exit → Act → World → Prop} {a : Act} {w : World} (h1 : 1 ≤ n)
    {gf : Nat} {lb : Array Value} (hg : a.eval g = .func (.func gf) #[] lb) (eg : ∀ args w, (callFunc gf args).run P w = .ok (.enter gf args) w)
    {enc : Nat → Array Value} {dom : Nat → Prop} {nx : Nat → Nat} {start stop n₀ H : Nat} (hH : w.heap.size = H) (hit : Goes (n - 1) P gf lb enc dom nx start stop n₀ H w)
    (hn : n₀ ≤ H) (hps : ∀ s, (enc s).size = ps.size)
    (I : Nat → World → Prop) (Ix : World → Prop) (hI : ∀ s, Rides H (I s)) (hIx : Rides H Ix) (h0 : I start w)
    (hround : ∀ (s : Nat) (W : World), I s W → H + 2 < W.heap.size → dom s → ∀ K : Act → World → Prop,
      (∀ a₁ W2, Three H W W2 → Below n₀ W W2 → I s W2 → (∀ W3, W2.grownBy W3 (some (H + 1)) → I s W3 → body.wpIn (Fence.wide.inRound (H + 1)) (n - 1 - 1) P (Leaves H n₀ (I (nx s)) Ix W3) a₁ W3) → K a₁ W2) →
      assign.wpIn (Fence.wide.inRound (H + 1)) (n - 1 - 1) P (Exit.then K (fun _ _ _ => False)) { tmps := (ps.zip (enc s)).foldl (fun t (p, v) => t.setIfInBounds p v) a.tmps, defers := [] } W)
    (hdone : ∀ W : World, I stop W → W.heap[H]? = some (.deferred (some [])) → Q .normal { a with defers := { target := .collected H, args := #[] } :: a.defers } W)
    (hstop : ∀ W : World, Ix W → W.heap[H]? = some (.deferred (some [])) → Code.ret.wpIn Fence.wide n P Q { a with defers := { target := .collected H, args := #[] } :: a.defers } W) :
    (Code.rangeFunc g ps assign body).wpIn Fence.wide n P Q a w := by
  refine wpIn_rangeFunc ?_
  intro fn hfn
  obtain ⟨rec, hrec⟩ : ∃ rec : LoopState → Option Code → Loop, rec = fun st pe => { state := st, pending := pe, fn, tmps := a.tmps, params := ps, assign, body, defers := H } := ⟨_, rfl⟩
  obtain ⟨W1, hW1⟩ : ∃ W1, W1 = (w.alloc (.deferred (some []))).alloc (.loop (rec .ready none)) := ⟨_, rfl⟩
  have hsz : W1.heap.size = H + 2 := by rw [hW1, World.size_alloc, World.size_alloc, hH]
  have hL1 : W1.heap[H + 1]? = some (.loop (rec .ready none)) := by
    have h := World.alloc_heap_new (w.alloc (.deferred (some []))) (.loop (rec .ready none))
    rw [World.size_alloc, hH] at h
    rw [hW1]; exact h
  have hK1 : W1.heap[H]? = some (.deferred (some [])) := by
    rw [hW1, Below.heap_alloc _ _ _ (by rw [World.size_alloc]; omega)]
    have h := World.alloc_heap_new w (.deferred (some []))
    rwa [hH] at h
  have hB1 : Below H w W1 := by rw [hW1]; exact ((Below.refl H w).alloc (by omega) _).alloc (by rw [World.size_alloc]; omega) _
  have hJ1 : I start W1 := by rw [hW1]; exact (hI start).new _ ((hI start).new _ h0)
  have hent := run_enterLoop_outer (P := P) (w := w) fn a.tmps ps assign body
  rw [hH] at hent
  refine ⟨H + 1, [{ target := .collected H, args := #[] }], W1, { target := .fn (.func gf) lb, args := #[.func (.yield (H + 1)) #[] #[]] }, W1, gf,
    #[.func (.yield (H + 1)) #[] #[]] ++ lb, W1, ?_, ?_, fun _ _ => trivial, ?_, fun _ => h1, ?_⟩
  · rw [hW1, hrec]; exact hent
  · simp only [resolve, hg]
    simp [go_sem]
  · simp [invoke, go_sem, eg]
  have other : ∀ {A B : World} {r k : Nat} {o : Obj}, A.grownBy B (some r) → k ≠ r → A.heap[k]? = some o → B.heap[k]? = some o := fun hg hne hk =>
    (hg.block _ (Array.getElem?_eq_some_iff.1 hk).1 (fun e => hne (Option.some.inj e))).trans hk
  refine (hit (fun s W => I s W ∧ W.heap[H + 1]? = some (.loop (rec .ready none)) ∧ W.heap[H]? = some (.deferred (some [])))
    (fun W => Ix W ∧ W.heap[H + 1]? = some (.loop (rec .done (some .ret))) ∧ W.heap[H]? = some (.deferred (some [])))
    W1 hsz hB1
    (fun s A B h k => ⟨hI s A B (H + 2) h.1 (by omega) (by omega) k, other k (by omega) h.2.1, other k (by omega) h.2.2⟩)
    (fun A B h k => ⟨hIx A B (H + 2) h.1 (by omega) (by omega) k, other k (by omega) h.2.1, other k (by omega) h.2.2⟩)
    ?_ ⟨hJ1, hL1, hK1⟩).mono ?_
  · rintro s W ⟨hi, hl, hk⟩ hd hw
    have hlt : H + 1 < W.heap.size := (Array.getElem?_eq_some_iff.1 hl).1
    have hy := run_yield (P := P) (args := enc s) hl (by rw [hrec]; exact hps s)
    rw [hrec] at hy
    refine ⟨fn, _, assign, body, hy, roundIn_of_wpIn hfn (wpIn_mono (hround s W hi (by omega) hd (fun a₁ W2 => Three H W W2 ∧ Below n₀ W W2 ∧ I s W2 ∧ ∀ W3, W2.grownBy W3 (some (H + 1)) → I s W3 → body.wpIn (Fence.wide.inRound (H + 1)) (n - 1 - 1) P (Leaves H n₀ (I (nx s)) Ix W3) a₁ W3) (fun _ _ k1 k2 k3 k4 => ⟨k1, k2, k3, k4⟩)) ?_)⟩
    rintro e a1 W2 hp
    cases e with
    | normal =>
      obtain ⟨ht2, hb2, hi2, hbody⟩ := hp
      have hl2 : W2.heap[H + 1]? = some (.loop (rec .ready none)) := (ht2 (H + 1) (by omega) (by omega)).trans hl
      have hk2 : W2.heap[H]? = some (.deferred (some [])) := (ht2 H (by omega) (by omega)).trans hk
      have hlt2 : H + 1 < W2.heap.size := (Array.getElem?_eq_some_iff.1 hl2).1
      refine ⟨W2.putObj (H + 1) (.loop { rec .ready none with state := .busy }), run_beginRound hl2 (by rw [hrec]), ?_⟩
      obtain ⟨W3, hW3⟩ : ∃ W3, W3 = W2.putObj (H + 1) (.loop { rec .ready none with state := .busy }) := ⟨_, rfl⟩
      rw [← hW3]
      have hg3 : W2.grownBy W3 (some (H + 1)) := by rw [hW3]; exact grownBy_putObj' _ _ _
      have hl3 : W3.heap[H + 1]? = some (.loop { rec .ready none with state := .busy }) := by rw [hW3]; exact World.putObj_heap_same hlt2
      have hk3 : W3.heap[H]? = some (.deferred (some [])) := other hg3 (by omega) hk2
      have hi3 : I s W3 := hI s _ _ _ hi2 (by omega) (by omega) hg3
      have ow3 : W3.heap[H + 2]? = W2.heap[H + 2]? := by rw [hW3]; exact World.putObj_heap_other (by omega)
      have hb3 : Below n₀ W2 W3 := (Below.refl n₀ W2).grown hg3 (by omega) (fun k e => by cases e; omega)
      refine wpIn_mono (hbody W3 hg3 hi3) ?_
      rintro e a2 W4 hp
      have fin : Three H W3 W4 → ∀ jump : Option Code, ∃ W5, (Instr.endRound (H + 1) jump).run P W4 = .ok (.bool jump.isNone) W5 ∧ W4.grownBy W5 (some (H + 1)) ∧
          W5.heap[H + 1]? = some (.loop (rec (if jump.isNone then .ready else .done) jump)) ∧ W5.heap[H]? = some (.deferred (some [])) ∧ W5.heap[H + 2]? = W4.heap[H + 2]? := fun ht4 jump => by
        have hl4 := (ht4 (H + 1) (by omega) (by omega)).trans hl3
        have hk4 := (ht4 H (by omega) (by omega)).trans hk3
        have hr := run_endRound (P := P) jump hl4
        refine ⟨_, hr, grownBy_putObj' _ _ _, ?_, (World.putObj_heap_other (by omega)).trans hk4, World.putObj_heap_other (by omega)⟩
        rw [World.putObj_heap_same (Array.getElem?_eq_some_iff.1 hl4).1, hrec]
      cases e with
      | normal =>
        obtain ⟨ht4, hb4, hi4⟩ := hp
        obtain ⟨W5, hr, hg5, hl5, hk5, ho5⟩ := fin ht4 none
        have hb5 : Below n₀ W4 W5 := (Below.refl n₀ W4).grown hg5 (by have := hb4.size; have := hg3.size; omega) (fun k e => by cases e; omega)
        refine ⟨_, W5, hr, .inl ⟨rfl, ⟨hI _ _ _ _ hi4 (by omega) (by omega) hg5, hl5, hk5⟩, ((hb2.trans hb3).trans hb4).trans hb5, ?_⟩⟩
        rw [ho5, ht4 (H + 2) (by omega) (by omega), ow3, ht2 (H + 2) (by omega) (by omega)]
      | ret =>
        obtain ⟨ht4, hi4⟩ := hp
        obtain ⟨W5, hr, hg5, hl5, hk5, _⟩ := fin ht4 (some .ret)
        exact ⟨_, W5, hr, .inr ⟨rfl, hIx _ _ _ hi4 (by omega) (by omega) hg5, hl5, hk5⟩⟩
      | exit id => exact hp.elim
      | goto t => exact hp.elim
      | panic ch => exact hp.elim
      | outgrown => exact hp.elim
    | ret => exact hp.elim
    | exit id => exact hp.elim
    | goto t => exact hp.elim
    | panic ch => exact hp.elim
    | outgrown => exact hp.elim
  · rintro e W2 ⟨⟨v, rfl⟩, (⟨hi, hl, hk⟩ | ⟨hi, hl, hk⟩)⟩
    · have hr := run_endLoop (P := P) hl (by rw [hrec]; simp)
      rw [hrec] at hr
      exact ⟨none, _, hr, hdone _ ((hI stop).put _ hi (by omega) (by omega)) ((World.putObj_heap_other (by omega)).trans hk)⟩
    · have hr := run_endLoop (P := P) hl (by rw [hrec]; simp)
      rw [hrec] at hr
      exact ⟨some .ret, _, hr, hstop _ (hIx.put _ hi (by omega) (by omega)) ((World.putObj_heap_other (by omega)).trans hk)⟩
end Go.Proofs.Ytinglfhndlklaaa
