/- The draws of a run: no step takes any back. Conditions: none. octavo/marks.Live's closure: how two operations are held against each other. Conditions: the places read as such. slices.SortFunc at operations: the library's contract laid at this program. Conditions: as it says. slices.SortFunc over operations by their places: what it leaves. Conditions: a list of the call's own; places that may be, or the beginning. A map from stamps to nothing, as a set of stamps. Conditions: none. octavo/marks.joinedIn, takeOut: what each answers. Conditions: operations that may be, not more than a bag's. -/
import Derived.Calls
import Derived.StepT
import Derived.Below
import Derived.Sort.Grow
import Derived.Deep.Draws
import Derived.Test.YtmiepnnpccpicaaChecked
import Derived.WalkKit
import Derived.WalkSpells
import Derived.WalkLawsBesides
import Derived.Laws.BytesArg
import Derived.Lib.Hide
import Derived.Deep.LoopGhost
import Derived.Laws.AppendOwnNone
import Derived.Laws.OwnMore
import Derived.WideShapes
import Derived.Maps.AppendAt
import Derived.RegionTactic
import Derived.Deep.RegionHeld3
import Derived.Deep.DrawnRows
import Derived.Deep.QuietTactic
import Derived.BigQuiet
import Derived.IntWalk
import Derived.ScopeJumps
import Derived.Deep.DeepCutAuto
import Derived.Test.YtmiepnnpccpicaaProg
import Derived.LoopTactic
import Derived.Laws.EntriesVeiled
import Derived.Shelf.SlLaysF0
import Derived.Shelf.SlSortCmp.InsertionK
import Derived.Shelf.SlSortCmp.NoneTotal
import Derived.Maps.Own
import Derived.Maps.OwnOps
import Derived.Maps.OwnSet
import Derived.Maps.Views
import Derived.DeepKeys4
import Derived.RowKit
import Derived.Test.YtmiepnnpccpicaaPk04
import Derived.Test.YtmiepnnpccpicaaPk03
import Derived.Test.YtmiepnnpccpicaaPk02
import Derived.Test.YtmiepnnpccpicaaPk01
import Derived.Test.YtmiepnnpccpicaaPk05

namespace Go.Proofs.Ytmiepnnpccpicaa.Draws
open Go Go.RowKit Go.Sort
theorem ask_drawn {α : Type} (q : Ask α) : ∀ w : World, w.drawn ≤ (w.ask q).2.drawn := by
  induction q with
  | done a => intro w; exact Nat.le_refl _
  | ask what range k ih =>
    intro w
    rw [World.ask]
    split
    · exact ih _ _
    · exact Nat.le_trans (Nat.le_succ _) (ih _ { w with drawn := w.drawn + 1 })
theorem sys_drawn (w : World) (c : Sys) : w.drawn ≤ (w.sys c).2.drawn := by
  have h := ask_drawn (Kernel.perform c w.os) w
  unfold World.sys
  split
  · exact Nat.le_refl _
  · rename_i r os w' _ heq
    rw [heq] at h
    exact h
def rd {α : Type} : Result α → Nat
  | .ok _ w => w.drawn
  | .halt _ w => w.drawn
theorem setCell_drawn (w : World) (a : Addr) (v : Value) : (w.setCell a v).drawn = w.drawn := rfl
theorem freeze_drawn (w : World) (a : Addr) (n : Nat) : (w.freeze a n).drawn = w.drawn := by
  unfold World.freeze
  split <;> rfl
theorem viewStore_drawn {p : Program} {w : World} {at_ : Addr} {u : TypeId} {k : Addr} {v : Value} {am : Bool} {r : World × List Addr} (h : w.viewStore p at_ u k v am = .ok r) : r.1.drawn = w.drawn := by
  unfold World.viewStore at h
  simp only [bind, Except.bind, pure, Except.pure] at h
  repeat' first
    | (simp only [reduceCtorEq] at h; done)
    | (cases h; rfl)
    | split at h
theorem farStore_drawn {p : Program} {w : World} {a : Addr} {v : Value} {am : Bool} {r : World × List Addr} (h : w.farStore p a v am = .ok r) : r.1.drawn = w.drawn := by
  unfold World.farStore at h
  repeat' first
    | (cases h; done)
    | (rename_i hr; cases h; exact viewStore_drawn hr)
    | split at h
theorem run_drawn {α : Type} (p : Program) (s : Sem α) : ∀ w : World, w.drawn ≤ rd (s.run p w) := by
  induction s with
  | pure a => intro w; exact Nat.le_refl _
  | load m a k ih =>
    intro w
    rw [Sem.run]
    split
    · exact ih _ _
    · split
      · exact ih _ _
      · exact Nat.le_refl _
  | store m a v k ih =>
    intro w
    by_cases hc : (∃ c, v = .agg c) ∨ ∃ c, v = .tuple c
    · rcases hc with ⟨c, rfl⟩ | ⟨c, rfl⟩ <;> (rw [Sem.run]; exact Nat.le_refl _)
    · rw [Sem.run]
      · split
        · split
          · exact Nat.le_refl _
          · have := ih (w.setCell a v); rw [setCell_drawn] at this; exact this
        · split
          · rename_i hf
            have := farStore_drawn hf
            rw [← this]
            exact ih _
          · exact Nat.le_refl _
      · exact fun c h => hc (.inl ⟨c, h⟩)
      · exact fun c h => hc (.inr ⟨c, h⟩)
  | new o k ih => intro w; rw [Sem.run]; exact ih _ { w with heap := w.heap.push o }
  | shape r k ih => intro w; rw [Sem.run]; exact ih _ _
  | freeze a n k ih => intro w; rw [Sem.run]; have := ih (w.freeze a n); rw [freeze_drawn] at this; exact this
  | frozen a k ih => intro w; rw [Sem.run]; exact ih _ _
  | getObj r k ih =>
    intro w
    rw [Sem.run]
    split
    · exact Nat.le_refl _
    · exact ih _ _
    · exact Nat.le_refl _
  | setObj r o k ih =>
    intro w
    rw [Sem.run]
    split
    · exact Nat.le_refl _
    · exact ih { w with heap := w.heap.setIfInBounds r o }
    · exact Nat.le_refl _
  | choose q k ih =>
    intro w
    rw [Sem.run]
    split
    · exact ih _ _
    · exact Nat.le_trans (Nat.le_succ _) (ih _ { w with drawn := w.drawn + 1 })
  | sys c k ih => intro w; rw [Sem.run]; exact Nat.le_trans (sys_drawn w c) (ih _ _)
  | program k ih => intro w; rw [Sem.run]; exact ih _ _
  | mark m k ih => intro w; rw [Sem.run]; exact ih _
  | halt h => intro w; exact Nat.le_refl _
def gd : GStep → Nat
  | .go _ w _ => w.drawn
  | .comm _ _ _ _ w _ => w.drawn
  | .spawn _ _ w _ => w.drawn
  | .count _ w _ => w.drawn
  | .timer _ _ w _ => w.drawn
  | .alone _ _ w _ => w.drawn
  | .newcoro _ _ _ w _ => w.drawn
  | .coroswitch _ _ _ w _ => w.drawn
  | .collect _ w _ => w.drawn
  | .watch _ w _ => w.drawn
  | .ended _ w _ => w.drawn
theorem after_drawn (es : Array Event) (s : GStep) : gd (s.after es) = gd s := by cases s <;> rfl
theorem endWith_drawn (w : World) (fd : Nat) (t : ByteArray) (o : Outcome) : w.drawn ≤ gd (endWith w fd t o) := by
  have h := sys_drawn w (.write fd t)
  unfold endWith
  simp only []
  split
  · rename_i heq; rw [heq] at h
    split <;> exact h
  · rename_i heq; rw [heq] at h; exact h
  · rename_i heq; rw [heq] at h; exact h
theorem endThrow_drawn (fr : Frame) (m : String) (w : World) : gd (endThrow fr m w) = w.drawn := rfl
theorem endPrinting_drawn (p : Program) (fr : Frame) (v : Value) (w : World) : gd (endPrinting p fr v w) = w.drawn := by
  unfold endPrinting
  simp only []
  split <;> rfl
theorem run_ok {α : Type} {p : Program} {s : Sem α} {w w' : World} {a : α} (h : s.run p w = .ok a w') : w.drawn ≤ w'.drawn := by
  have := run_drawn p s w
  rw [h] at this
  exact this
theorem run_halt {α : Type} {p : Program} {s : Sem α} {w w' : World} {x : Halt} (h : s.run p w = .halt x w') : w.drawn ≤ w'.drawn := by
  have := run_drawn p s w
  rw [h] at this
  exact this
theorem endFatal_drawn (p : Program) (fr : Frame) (cs : List Frame) (d : Option Dying) (m : String) (w : World) : w.drawn ≤ gd (endFatal p fr cs d m w) := by
  unfold endFatal
  simp only []
  split
  · rename_i h; exact run_ok h
  · rename_i h; exact run_halt h
  · rename_i h; exact run_halt h
theorem writeOn_drawn (p : Program) (fr : Frame) (d : Dying) (f : Fatal) (w : World) : w.drawn ≤ gd (writeOn p fr d f w) := by
  unfold writeOn
  simp only [Sem.runT_eq]
  split
  · exact Nat.le_refl _
  · split <;> rename_i h <;> simp only [Prod.mk.injEq] at h <;> first | exact run_ok h.1 | exact run_halt h.1
theorem die_drawn (p : Program) (fr : Frame) (d : Dying) (w : World) : w.drawn ≤ gd (die p fr d w) := by
  unfold die
  simp only [Sem.runT_eq]
  repeat' first
    | exact Nat.le_refl _
    | exact writeOn_drawn _ _ _ _ _
    | exact endWith_drawn _ _ _ _
    | (rename_i h; exact run_ok h)
    | (rename_i h; exact run_halt h)
    | (rename_i h; rw [after_drawn, endPrinting_drawn]; exact run_halt h)
    | split
theorem doReturn_drawn (p : Program) (main : Bool) (fr : Frame) (cs : List Frame) (d : Option Dying) (v : Value) (w : World) : gd (doReturn p main fr cs d v w) = w.drawn := by
  unfold doReturn
  simp only []
  repeat' first
    | rfl
    | split
theorem run_le {α : Type} {p : Program} {s : Sem α} {w w' : World} {a : α} {n : Nat} (h : s.run p w = .ok a w') (hn : w'.drawn ≤ n) : w.drawn ≤ n := Nat.le_trans (run_ok h) hn
theorem gd_ite {c : Prop} [Decidable c] {a b : GStep} {n : Nat} (ha : n ≤ gd a) (hb : n ≤ gd b) : n ≤ gd (if c then a else b) := by split <;> assumption
theorem gd_elim {α : Type} {o : Option α} {a : GStep} {f : α → GStep} {n : Nat} (ha : n ≤ gd a) (hf : ∀ x, n ≤ gd (f x)) : n ≤ gd (o.elim a f) := by
  cases o
  · exact ha
  · exact hf _
theorem early_drawn (p : Program) (fr : Frame) (cs : List Frame) (d : Option Dying) (g : Nat) (w : World) : w.drawn ≤ gd (early p fr cs d g w) := by
  unfold early
  simp only []
  repeat' first
    | exact Nat.le_refl _
    | exact run_ok (by assumption)
    | exact run_halt (by assumption)
    | (refine run_le (by assumption) ?_; exact Nat.le_refl _)
    | split
theorem callDeferred_drawn (p : Program) (fr : Frame) (cs : List Frame) (d : Option Dying) (x : Deferred) (w : World) : w.drawn ≤ gd (callDeferred p fr cs d x w) := by
  unfold callDeferred
  simp only [Sem.runT_eq]
  refine gd_ite (Nat.le_refl _) ?_
  · rw [after_drawn]
    repeat' first
      | exact run_ok (by assumption)
      | exact run_halt (by assumption)
      | exact Nat.le_trans (run_halt (by assumption)) (endFatal_drawn _ _ _ _ _ _)
      | split
theorem unwind_drawn (p : Program) (main : Bool) (fr : Frame) (cs : List Frame) (d : Option Dying) (w : World) : w.drawn ≤ gd (unwind p main fr cs d w) := by
  unfold unwind
  simp only [Sem.runT_eq]
  repeat' first
    | exact Nat.le_refl _
    | exact callDeferred_drawn _ _ _ _ _ _
    | (rw [doReturn_drawn]; exact Nat.le_refl _)
    | (rw [endPrinting_drawn]; exact Nat.le_refl _)
    | exact run_ok (by assumption)
    | exact run_halt (by assumption)
    | (rw [doReturn_drawn]; exact run_ok (by assumption))
    | (rw [after_drawn])
    | split
theorem apply_drawn (p : Program) (l : Bool) (fr : Frame) (cs : List Frame) (d : Option Dying) (s : Sem Next) (w : World) : w.drawn ≤ gd (stepG.apply p l fr cs d s w) := by
  unfold stepG.apply
  have e : (if l = true then s.runT p w #[] else (s.run p w, #[])).1 = s.run p w := by
    split
    · rw [Sem.runT_eq]
    · rfl
  revert e
  generalize (if l = true then s.runT p w #[] else (s.run p w, #[])) = re
  intro e
  obtain ⟨r, es⟩ := re
  simp only at e
  subst e
  simp only []
  rw [after_drawn]
  split
  all_goals repeat' first
    | exact run_ok (by assumption)
    | exact run_halt (by assumption)
    | exact Nat.le_trans (run_halt (by assumption)) (endFatal_drawn _ _ _ _ _ _)
    | exact Nat.le_trans (run_halt (by assumption)) (early_drawn _ _ _ _ _ _)
    | split
theorem oper_drawn (p : Program) (l : Bool) (fr : Frame) (cs : List Frame) (d : Option Dying) (w : World) : w.drawn ≤ gd (stepG.oper p l fr cs d w) := by
  unfold stepG.oper
  repeat' first
    | exact Nat.le_refl _
    | exact apply_drawn _ _ _ _ _ _ _
    | split
theorem exec_drawn (p : Program) (main : Bool) (l : Bool) (fr : Frame) (cs : List Frame) (d : Option Dying) (w : World) : w.drawn ≤ gd (stepG.exec p main l fr cs d w) := by
  unfold stepG.exec
  simp only [Sem.runT_eq]
  split
  all_goals repeat' first
    | exact Nat.le_refl _
    | exact apply_drawn _ _ _ _ _ _ _
    | exact oper_drawn _ _ _ _ _ _
    | exact run_ok (by assumption)
    | exact run_halt (by assumption)
    | (rw [doReturn_drawn]; exact run_ok (by assumption))
    | exact Nat.le_trans (run_ok (by assumption)) (apply_drawn _ _ _ _ _ _ _)
    | (rw [after_drawn])
    | (refine gd_elim ?_ (fun _ => ?_))
    | split
theorem stepG_drawn (p : Program) (main : Bool) (g : Goroutine) (w : World) (l : Bool) : w.drawn ≤ gd (stepG p main g w l) := by
  unfold stepG
  simp only []
  split
  · exact die_drawn _ _ _ _
  · exact exec_drawn _ _ _ _ _ _ _
  · exact unwind_drawn _ _ _ _ _ _
theorem waitingAt_drawn {r : Rest} {c : Array CommCase} {w w' : World} (h : waitingAt r c w = some w') : w'.drawn = w.drawn := by
  unfold waitingAt at h
  repeat' first
    | (simp at h; done)
    | (cases h; rfl)
    | split at h
theorem communicate_drawn (p : Program) (rest : Rest) (gs : Array Goroutine) (i : Nat) (g : Goroutine) (cases : Array CommCase) (blocking : Bool)
    (shape : CommShape) (w : World) (m' : Machine) (h : (communicate p rest gs i g cases blocking shape w).1 = .next m') : w.drawn ≤ m'.world.drawn := by
  unfold communicate at h
  simp only [] at h
  repeat' first
    | (simp at h; done)
    | (simp only [Stepped.next.injEq] at h; subst h; exact Nat.le_refl _)
    | (simp only [Stepped.next.injEq] at h; subst h; exact run_ok (by assumption))
    | (simp only [Stepped.next.injEq] at h; subst h; refine run_le (by assumption) ?_; exact Nat.le_refl _)
    | (simp only [Stepped.next.injEq] at h; subst h; refine run_le (by assumption) ?_; refine run_le (by assumption) ?_; exact Nat.le_refl _)
    | (simp only [Stepped.next.injEq] at h; subst h; refine run_le (by assumption) ?_; exact run_halt (by assumption))
    | (simp only [Stepped.next.injEq] at h; subst h; rename_i hw; exact Nat.le_of_eq (waitingAt_drawn hw).symm)
    | split at h
theorem look_drawn (p : Program) (gs : Array Goroutine) (rest : Rest) (w : World) (m' : Machine)
    (h : look p gs rest w = .next m') : w.drawn ≤ m'.world.drawn := by
  unfold look at h
  simp only [] at h
  repeat' first
    | (simp at h; done)
    | (simp only [Stepped.next.injEq] at h; subst h; refine run_le (by assumption) ?_; exact Nat.le_refl _)
    | split at h
theorem retime_drawn (m : Machine) (k : Nat) (t : Timer) (a b : Nat) : (retime m k t a b).2.world.drawn = m.world.drawn := by
  unfold retime
  simp only []
  split
  · unfold drain; split <;> rfl
  · rfl
theorem opened_drawn {m m' : Machine} {var : Addr} (h : timerOp.opened m var = some m') : m'.world.drawn = m.world.drawn := by
  unfold timerOp.opened at h
  repeat' first
    | (simp at h; done)
    | (cases h; rfl)
    | split at h
theorem named_drawn {m m' : Machine} {var : Addr} {f : Nat → Timer → Value × Machine} {v : Value} {n : Nat} (hf : ∀ k t, (f k t).2.world.drawn = n) (h : timerOp.named m var f = .ok (v, m')) : m'.world.drawn = n := by
  unfold timerOp.named at h
  split at h
  · simp only [Except.ok.injEq] at h
    rename_i c _
    have := hf c (m.rest.timers.getD c default)
    rw [h] at this
    exact this
  · cases h
theorem timerOp_drawn {m m' : Machine} {op : TimerOp} {v : Value} (h : timerOp m op = .ok (v, m')) : m'.world.drawn = m.world.drawn := by
  unfold timerOp at h
  repeat' first
    | (simp at h; done)
    | (cases h; rfl)
    | exact named_drawn (fun k t => retime_drawn _ _ _ _ _) h
    | (rename_i ho; exact named_drawn (fun k t => (retime_drawn _ _ _ _ _).trans (opened_drawn ho)) h)
    | split at h
theorem runT_drawn (p : Program) (m m' : Machine) (i : Nat) (b : Bool) (h : (runT p m i b).1 = .next m') : m.world.drawn ≤ m'.world.drawn := by
  simp only [runT] at h
  revert h
  generalize m.gs.swapAt! _ _ = gg
  have hs := stepG_drawn p (i == 0) gg.1 m.world b
  revert hs
  generalize stepG p _ gg.1 m.world b = s
  intro hs h
  cases s <;> simp only [] at h <;> simp only [gd] at hs
  all_goals first
    | (simp at h; done)
    | (exact Nat.le_trans hs (communicate_drawn _ _ _ _ _ _ _ _ _ _ h))
    | (exact Nat.le_trans hs (look_drawn _ _ _ _ _ h))
    | (simp only [Stepped.next.injEq] at h; subst h; exact hs)
    | (repeat' first
        | (simp at h; done)
        | (simp only [Stepped.next.injEq] at h; subst h; exact hs)
        | (simp only [Stepped.next.injEq] at h; subst h; rename_i hq; have := timerOp_drawn hq; simp only at this; exact Nat.le_trans hs (Nat.le_of_eq this.symm))
        | (simp only [Stepped.next.injEq] at h; subst h; rename_i hq; have := congrArg gd hq; rw [endThrow_drawn] at this; exact Nat.le_trans hs (Nat.le_of_eq this))
        | split at h)
theorem serve_drawn (p : Program) (m m' : Machine) (k : Nat) (h : serve p m k = .next m') : m.world.drawn ≤ m'.world.drawn := by
  unfold serve at h
  simp only [] at h
  repeat' first
    | (simp at h; done)
    | (simp only [Stepped.next.injEq] at h; subst h; exact Nat.le_refl _)
    | split at h
def moved : Move → Nat → Prop
  | .goroutine m _, n => n ≤ m.world.drawn
  | .machine (.next m) _, n => n ≤ m.world.drawn
  | .machine (.ended _ _) _, _ => True
theorem moved_machine {s : Stepped} {ops : Array MemOp} {n : Nat} (h : ∀ m', s = .next m' → n ≤ m'.world.drawn) : moved (.machine s ops) n := by
  cases s
  · exact h _ rfl
  · exact trivial
theorem run_moved {α : Type} {p : Program} {s : Sem α} {w w' : World} {a : α} {x : Move} (h : s.run p w = .ok a w') (hn : moved x w'.drawn) : moved x w.drawn := by
  have := run_ok h
  cases x with
  | goroutine m i => exact Nat.le_trans this hn
  | machine s ops =>
    cases s
    · exact Nat.le_trans this hn
    · exact trivial
theorem askOn_drawn (p : Program) (m : Machine) : moved (askOn p m) m.world.drawn := by
  unfold askOn
  simp only []
  repeat' first
    | exact trivial
    | (refine run_moved (by assumption) ?_; exact moved_machine (fun m' h => serve_drawn _ _ _ _ h))
    | (refine run_moved (by assumption) ?_; exact Nat.le_refl _)
    | (refine run_moved (by assumption) ?_; refine run_moved (by assumption) ?_; exact Nat.le_refl _)
    | (refine run_moved (by assumption) ?_; refine run_moved (by assumption) ?_; refine run_moved (by assumption) ?_; exact Nat.le_refl _)
    | (refine run_moved (by assumption) ?_; refine run_moved (by assumption) ?_; refine run_moved (by assumption) ?_; refine run_moved (by assumption) ?_; exact Nat.le_refl _)
    | (rename_i hs _ _ _ _ _ _ _ _ _ hc _ _ _ hq _; have h1 := Nat.le_trans (run_ok hs) (run_ok hc); have h2 := run_ok hq; exact Nat.le_trans h1 h2)
    | (rename_i hs _ _ _ _ _ _ _ _ _ hc _ _ _ hq _ _ _ _ hz _; have h1 := Nat.le_trans (run_ok hs) (run_ok hc); have h2 := Nat.le_trans (run_ok hq) (run_ok hz); exact Nat.le_trans h1 h2)
    | split
theorem moved_le {x : Move} {n k : Nat} (h : moved x k) (hn : n ≤ k) : moved x n := by
  cases x with
  | goroutine m i => exact Nat.le_trans hn h
  | machine s ops =>
    cases s
    · exact Nat.le_trans hn h
    · exact trivial
theorem ask_drawn' (p : Program) (m : Machine) : moved (ask p m) m.world.drawn := by
  unfold ask
  split
  · split
    · exact trivial
    · split
      · rename_i hr _ _ hl
        exact moved_le (askOn_drawn _ _) (Nat.le_trans (run_ok hr) (look_drawn _ _ _ _ _ hl))
      · rename_i hr _ hl
        exact moved_machine (fun m' h => (hl m' h).elim)
    · rename_i hr
      exact moved_le (askOn_drawn _ _) (run_ok hr)
  · exact askOn_drawn _ _
theorem move_drawn (p : Program) (m : Machine) : moved (move p m) m.world.drawn := by
  unfold move
  repeat' first
    | exact trivial
    | exact Nat.le_refl _
    | exact ask_drawn' _ _
    | split
theorem stepT_drawn (p : Program) (m m' : Machine) (b : Bool) (h : (stepT p m b).1 = .next m') : m.world.drawn ≤ m'.world.drawn := by
  have hm := move_drawn p m
  unfold stepT at h
  split at h
  · rename_i m1 i he
    rw [he] at hm
    exact Nat.le_trans hm (runT_drawn _ _ _ _ _ h)
  · rename_i s ops he
    rw [he] at hm
    simp only at h
    subst h
    exact hm
theorem runN_drawn (p : Program) : ∀ (n : Nat) (m m' : Machine), runN p n m = .next m' → m.world.drawn ≤ m'.world.drawn
  | 0, m, m', h => by
    rw [runN] at h
    cases h
    exact Nat.le_refl _
  | n + 1, m, m', h => by
    rw [runN] at h
    split at h
    · rename_i m1 h1
      exact Nat.le_trans (stepT_drawn p m m1 true h1) (runN_drawn p n m1 m' h)
    · rename_i hl; exact (hl m' h).elim
theorem steps_drawn {p : Program} {m m' : Machine} (h : Steps p m m') : m.world.drawn ≤ m'.world.drawn := by
  obtain ⟨n, hn⟩ := h
  exact runN_drawn p n m m' hn
/-- Of what a call answers: its draws are no fewer than those ahead of it. -/
theorem calls_drawn {P : Program} {f : FuncId} {args : Array Value} {w : World} {R : Ending → World → Prop} (h : Calls P f args w fun e w' => (∃ v, e = .returned v) ∧ R e w') :
    Calls P f args w fun e w' => R e w' ∧ w.drawn ≤ w'.drawn := by
  intro cs
  obtain ⟨e, w', fr, ⟨⟨v, rfl⟩, hr⟩, hc, hf, hl⟩ := h cs
  exact ⟨_, w', fr, ⟨hr, steps_drawn hc⟩, hc, hf, hl⟩
theorem below_grow {w w' : World} (h : Below w.heap.size w w') (hd : w.drawn ≤ w'.drawn) : ∃ q os, w' = grow (w.drewN q) os := by
  refine ⟨w'.drawn - w.drawn, w'.heap.extract w.heap.size w'.heap.size, ?_⟩
  have e1 : w'.heap = w.heap ++ w'.heap.extract w.heap.size w'.heap.size := by
    apply Array.ext_getElem?
    intro i
    by_cases hi : i < w.heap.size
    · rw [Array.getElem?_append_left hi]; exact h.block i hi
    · rw [Array.getElem?_append_right (by omega), Array.getElem?_extract]
      by_cases h2 : i < w'.heap.size
      · rw [if_pos (by omega)]; congr 1; omega
      · rw [if_neg (by omega)]; exact Array.getElem?_eq_none (by omega)
  have e2 : w'.drawn = w.drawn + (w'.drawn - w.drawn) := by omega
  obtain ⟨h1, h2, h3, h4, h5⟩ := h
  obtain ⟨heap, tape, drawn, os, output⟩ := w
  obtain ⟨heap', tape', drawn', os', output'⟩ := w'
  simp only at h1 h2 h3 e1 e2
  subst h1 h2 h3
  unfold grow World.drewN
  simp only [World.mk.injEq]
  exact ⟨e1, trivial, e2, trivial, trivial⟩
/-- A call that leaves all that was there: behind it the world has grown, and has drawn, and nothing else. -/
theorem calls_grow {P : Program} {f : FuncId} {args : Array Value} {w : World} {v : Value} (h : Calls P f args w fun e w' => e = .returned v ∧ Below w.heap.size w w') :
    Calls P f args w fun e w' => e = .returned v ∧ ∃ q os, w' = grow (w.drewN q) os :=
  (calls_drawn (R := fun e w' => e = .returned v ∧ Below w.heap.size w w') (h.mono fun _ _ k => ⟨⟨v, k.1⟩, k⟩)).mono fun _ _ k => ⟨k.1.1, below_grow k.1.2 k.2⟩
end Go.Proofs.Ytmiepnnpccpicaa.Draws

namespace Go.Proofs.Ytmiepnnpccpicaa.Marks
open Go.RowKit Go.WideShapes Stamp Go.Proofs.Ytmiepnnpccpicaa.Place Ops Codes
attribute [local go_sem ↓] Go.wp_at_zero Go.wp_at_succ
set_option maxRecDepth 100000 in
set_option maxHeartbeats 4000000 in
theorem cls_any {u v : Value} {x y : Opn} {w : World} (hu : Runs w u x.pl) (hv : Runs w v y.pl) :
    Calls Try.prog 37 #[opv x u, opv y v] w fun e w' => e = .returned (.int .i64 (cmp x.pl y.pl)) ∧ Below w.heap.size w w' := by
  have PC : Hid (∀ W : World, Below w.heap.size w W → Calls Try.prog 21 #[u, v] W fun e w' => e = .returned (.int .i64 (cmp x.pl y.pl)) ∧ Below W.heap.size W w') := fun W h => pCompare_any (hu.keeps h) (hv.keeps h)
  have B0 : Hid (Below w.heap.size w ((w.alloc (.cells #[.int .u8 (x.k : Int), .int .u32 (x.t : Int), .int .u8 (x.r : Int), u, .int .i64 x.p] 36)).alloc (.cells #[.int .u8 (y.k : Int), .int .u32 (y.t : Int), .int .u8 (y.r : Int), v, .int .i64 y.p] 36))) := ((Below.refl _ _).alloc (Nat.le_refl _) _).alloc (by simp) _
  obtain ⟨q, hq⟩ : ∃ q, cmp x.pl y.pl = q := ⟨_, rfl⟩
  rw [hq] at PC ⊢
  obtain ⟨uo, uc, rfl⟩ := hu.shape
  obtain ⟨vo, vc, rfl⟩ := hv.shape
  obtain ⟨nu, hnu⟩ : ∃ n, x.pl.length = n := ⟨_, rfl⟩
  obtain ⟨nv, hnv⟩ : ∃ n, y.pl.length = n := ⟨_, rfl⟩
  rw [hnu] at PC B0 ⊢
  rw [hnv] at PC B0 ⊢
  clear hq hu hv hnu hnv
  obtain ⟨k1, t1, r1, l1, p1, hk1, ht1, hr1, hp1⟩ := x
  obtain ⟨k2, t2, r2, l2, p2, hk2, ht2, hr2, hp2⟩ := y
  unfold opv
  simp only at B0 ⊢
  clear hk1 ht1 hr1 hp1 hk2 ht2 hr2 hp2
  go_enter Try.func37, Try.ntmps37
  go_wp2_with fail
  refine (PC.out _ B0.out).mono ?_
  rintro e w1 ⟨rfl, b1⟩
  have B1 := Lib.hid (bt B0.out b1)
  clear b1 PC B0
  go_wp2
  go_ret
  exact ⟨rfl, B1.out⟩
end Go.Proofs.Ytmiepnnpccpicaa.Marks

namespace Go.Proofs.Ytmiepnnpccpicaa.Marks
open Go.Shelf Go.Proofs
def sortOp_ren : Go.Shelf.Ren := ⟨fun | 6 => 36 | 15 => 49 | 14 => 52 | 28 => 69 | 29 => 70 | 20 => 76 | 21 => 77 | 22 => 78 | 23 => 79 | 24 => 80 | 25 => 81 | 26 => 82 | 27 => 83 | 46 => 92 | 47 => 88 | 48 => 89 | 49 => 93 | 50 => 94 | 57 => 96 | n => n, fun | 22 => 26 | 24 => 36 | 25 => 74 | 3 => 3 | 39 => 75 | 0 => 0 | 53 => 28 | 55 => 113 | 4 => 4 | 46 => 106 | 45 => 105 | 50 => 54 | 5 => 5 | 9 => 9 | 66 => 123 | 70 => 127 | 76 => 131 | 77 => 132 | n => n, fun | n => n⟩
theorem sortOp : Go.Proofs.SlLaysF0.n6 Try.prog sortOp_ren where
  mixed := by kernel_rfl
  f6 := ⟨ "slices.SortFunc[[]octavo/api.Op,octavo/api.Op]", by decide, Try.func36.trans (congrArg some (by kernel_rfl))⟩
  f14 := ⟨ "slices.pdqsortCmpFunc[octavo/api.Op]", by decide, Try.func52.trans (congrArg some (by kernel_rfl))⟩
  f15 := Try.func49.trans (congrArg some (by kernel_rfl))
  f20 := ⟨ "slices.insertionSortCmpFunc[octavo/api.Op]", by decide, Try.func76.trans (congrArg some (by kernel_rfl))⟩
  f21 := ⟨ "slices.heapSortCmpFunc[octavo/api.Op]", by decide, Try.func77.trans (congrArg some (by kernel_rfl))⟩
  f22 := ⟨ "slices.breakPatternsCmpFunc[octavo/api.Op]", by decide, Try.func78.trans (congrArg some (by kernel_rfl))⟩
  f23 := ⟨ "slices.choosePivotCmpFunc[octavo/api.Op]", by decide, Try.func79.trans (congrArg some (by kernel_rfl))⟩
  f24 := ⟨ "slices.reverseRangeCmpFunc[octavo/api.Op]", by decide, Try.func80.trans (congrArg some (by kernel_rfl))⟩
  f25 := ⟨ "slices.partialInsertionSortCmpFunc[octavo/api.Op]", by decide, Try.func81.trans (congrArg some (by kernel_rfl))⟩
  f26 := ⟨ "slices.partitionEqualCmpFunc[octavo/api.Op]", by decide, Try.func82.trans (congrArg some (by kernel_rfl))⟩
  f27 := ⟨ "slices.partitionCmpFunc[octavo/api.Op]", by decide, Try.func83.trans (congrArg some (by kernel_rfl))⟩
  f28 := Try.func69.trans (congrArg some (by kernel_rfl))
  f29 := Try.func70.trans (congrArg some (by kernel_rfl))
  f46 := ⟨ "slices.siftDownCmpFunc[octavo/api.Op]", by decide, Try.func92.trans (congrArg some (by kernel_rfl))⟩
  f47 := Try.func88.trans (congrArg some (by kernel_rfl))
  f48 := Try.func89.trans (congrArg some (by kernel_rfl))
  f49 := ⟨ "slices.medianAdjacentCmpFunc[octavo/api.Op]", by decide, Try.func93.trans (congrArg some (by kernel_rfl))⟩
  f50 := ⟨ "slices.medianCmpFunc[octavo/api.Op]", by decide, Try.func94.trans (congrArg some (by kernel_rfl))⟩
  f57 := ⟨ "slices.order2CmpFunc[octavo/api.Op]", by decide, Try.func96.trans (congrArg some (by kernel_rfl))⟩
  t0 := Try.underlying0
  a0 := Try.isAgg0
  z0 := Try.sizeOf0
  v0 := Try.zeroValue0
  t3 := Try.underlying3
  a3 := Try.isAgg3
  z3 := Try.sizeOf3
  v3 := Try.zeroValue3
  t4 := Try.underlying4
  a4 := Try.isAgg4
  z4 := Try.sizeOf4
  v4 := Try.zeroValue4
  t5 := Try.underlying5
  a5 := Try.isAgg5
  z5 := Try.sizeOf5
  v5 := Try.zeroValue5
  t9 := Try.underlying9
  a9 := Try.isAgg9
  z9 := Try.sizeOf9
  v9 := Try.zeroValue9
  t22 := Try.underlying26
  a22 := Try.isAgg26
  z22 := Try.sizeOf26
  v22 := Try.zeroValue26
  t25 := Try.underlying74
  a25 := Try.isAgg74
  z25 := Try.sizeOf74
  v25 := Try.zeroValue74
  t39 := Try.underlying75
  a39 := Try.isAgg75
  z39 := Try.sizeOf75
  v39 := Try.zeroValue75
  t45 := Try.underlying105
  a45 := Try.isAgg105
  z45 := Try.sizeOf105
  v45 := Try.zeroValue105
  t46 := Try.underlying106
  a46 := Try.isAgg106
  z46 := Try.sizeOf106
  v46 := Try.zeroValue106
  t50 := Try.underlying54
  a50 := Try.isAgg54
  z50 := Try.sizeOf54
  v50 := Try.zeroValue54
  t53 := Try.underlying28
  a53 := Try.isAgg28
  z53 := Try.sizeOf28
  v53 := Try.zeroValue28
  t55 := Try.underlying113
  a55 := Try.isAgg113
  z55 := Try.sizeOf113
  v55 := Try.zeroValue113
  t66 := Try.underlying123
  a66 := Try.isAgg123
  z66 := Try.sizeOf123
  v66 := Try.zeroValue123
  t70 := Try.underlying127
  a70 := Try.isAgg127
  z70 := Try.sizeOf127
  v70 := Try.zeroValue127
  t76 := Try.underlying131
  a76 := Try.isAgg131
  z76 := Try.sizeOf131
  v76 := Try.zeroValue131
  t77 := Try.underlying132
  a77 := Try.isAgg132
  z77 := Try.sizeOf132
  v77 := Try.zeroValue132
end Go.Proofs.Ytmiepnnpccpicaa.Marks

namespace Go.Proofs.Ytmiepnnpccpicaa.Marks
open Go.RowKit Go.WideShapes Go.Sort Stamp Go.Proofs.Ytmiepnnpccpicaa.Place Ops Codes
theorem sortL_any {v : Value} {l : List Opn} {base : Nat} {w : World} (hv : OwnL w base v l) (hm : ∀ o ∈ l, anyB o.pl = true) (hl : l.length < 4611686018427387904) :
    Calls Try.prog 36 #[v, .func (.func 37) #[] #[]] w fun e w' => e = .returned (.tuple #[]) ∧ ∃ l', l'.Perm l ∧ l'.Pairwise (fun a b => ¬ cmp b.pl a.pl < 0) ∧ OwnL w' base v l' ∧ Below base w w' := by
  obtain ⟨cs, h1, h2⟩ := hv
  by_cases hz : l = []
  · subst hz
    obtain ⟨ao, cap, rfl⟩ : ∃ ao cap, v = .slice ao 0 cap := Sees.shape (Sees.own h1)
    refine (AnyF.slices_SortFunc_none sortOp ao cap (.func (.func 37) #[] #[]) w).mono ?_
    rintro e w' ⟨rfl, rfl⟩
    exact ⟨rfl, [], .refl _, .nil, ⟨cs, h1, h2⟩, Below.refl _ _⟩
  rcases h1.2 with ⟨rfl, h⟩ | ⟨g, cap, cur, rfl, hbg, hg, hlc, hcm, hcs, hct⟩
  · exact absurd (List.length_eq_zero_iff.1 h) hz
  obtain ⟨ds, e1, e2⟩ := elts_of h2 hm
  have hn : l.length = ds.length := by rw [e2, List.length_map]
  have hgs := (Array.getElem?_eq_some_iff.1 hg).1
  have eg : ∀ args w, (callFunc 37 args).run Try.prog w = .ok (.enter 37 args) w := enters_of Try.func37 (by kernel_rfl) rfl
  have hcmp : CmpLays Try.prog 37 #[] (encE (w := w) (base := base)) 5 cfE g 0 ds.toArray.size w := fun m os dk _ x y =>
    Draws.calls_grow (cls_any (Runs.own (elt_stays hg m dk os x)) (Runs.own (elt_stays hg m dk os y)))
  have hH : HoldsK encE 5 w g 0 ds.toArray := elt_holds ⟨cur, hg, hcs, by rw [hct, e1]⟩ hn hlc
  have hcon := AnyQ.slices_SortFunc sortOp 5 Try.isAgg36 Try.sizeOf36 encE encE_len (fun x => by
      obtain ⟨ao, c, h⟩ := Sees.shape (Sees.own x.2.2)
      exact five_one x.1.1 x.1.2 ⟨ao, _, c, h⟩) cfE (swoE w base) 37 #[] g 0 cap ds.toArray w eg hcmp hH hgs (by simpa [← hn] using hl)
  change Calls Try.prog 36 _ _ _ at hcon
  rw [show ds.toArray.size = l.length by rw [hn]; simp] at hcon
  refine hcon.mono ?_
  rintro e w' ⟨rfl, d', n, os, hp, hs, rfl⟩
  obtain ⟨hp1, _, hp3⟩ := hp
  have hdn : d'.size = l.length := by rw [hp1, hn]; simp
  refine ⟨rfl, d'.toList.map opE', ?_, ?_, ⟨d'.toList.flatMap encE, ⟨?_, .inr ⟨g, cap, putCells id 0 (flatK encE 5 d') cur, ?_, hbg, srt_row encE 5 n d' os hg, ?_, hcm, ?_, ?_⟩⟩, holdP_of (elt_stays hg n d' os) _⟩, srt_below encE 5 w g 0 n base d' os hbg hgs⟩
  · rw [e2]
    refine List.Perm.map _ ?_
    have : (d'.extract 0 l.length).toList.Perm (ds.toArray.extract 0 l.length).toList := hp3
    rw [Array.extract_eq_self_of_le (by omega), Array.extract_eq_self_of_le (by simp [hn])] at this
    simpa using this
  · rw [List.pairwise_map, List.pairwise_iff_getElem]
    intro i j hi hj hij
    have := hs i j (Nat.zero_le _) hij (by rw [← hdn]; simpa using hj)
    rw [getElem!_pos d' j (by simpa using hj), getElem!_pos d' i (by simpa using hi)] at this
    unfold ltOf cfE at this
    have h := of_decide_eq_false this
    simpa [opE'] using h
  · rw [← flatK_list encE 5 (by decide) encE_len]
    simp
  · simp [hdn]
  · simpa [hdn] using hlc
  · rw [putCells_size]; exact hcs
  · have h3 : (flatK encE 5 d').size = l.length * 5 := by rw [size_flatK, hdn]
    rw [List.length_map, Array.length_toList, hdn, ← h3, putCells_take _ _ (by rw [h3, hcs]; exact Nat.mul_le_mul_right 5 hlc), flatK_list encE 5 (by decide) encE_len]
end Go.Proofs.Ytmiepnnpccpicaa.Marks

namespace Go.Proofs.Ytmiepnnpccpicaa
open Go.RowKit Go.WideShapes
open Go.Maps (Keyed IsMap)
theorem laidOut : laidOutB Try.prog = true := by kernel_rfl
theorem idRow : (30 : TypeId) < Try.prog.types.size := of_decide_eq_true (by kernel_rfl)
theorem idWide : (match Try.prog.underlying 30 with | some (.array _ _) | some (.struct _) => true | _ => false) = true := by rw [Try.underlying30]
set_option maxRecDepth 100000 in
theorem idLaw : Keyed Try.prog 30 := Keyed.of_law (deep_law_laid laidOut (m := 2) (by omega) idRow (by kernel_rfl) idWide)
theorem idType : Try.prog.keyType 30 = true := by kernel_rfl
theorem idCells : Try.prog.cellsOf 30 = 2 := by kernel_rfl
theorem idCell0 : Try.prog.cellsOf 28 = 1 := by kernel_rfl
theorem idCell1 : Try.prog.cellsOf 5 = 1 := by kernel_rfl
theorem idKey_some (a : Id) : ∃ l, keyOf Try.prog 30 (idv a) = some l := by
  obtain ⟨n, hn⟩ : ∃ n, Try.prog.types.size = n + 1 := by
    have h := idRow
    generalize Try.prog.types.size = s at h ⊢
    cases s with
    | zero => exact absurd h (Nat.not_lt_zero _)
    | succ n => exact ⟨n, rfl⟩
  have w0 : (Lit.int .u32 (a.t : Int)).wf = true := by
    have h1 : IntKind.u32.min = 0 := by decide
    have h2 : IntKind.u32.max = 4294967295 := by decide
    have := a.ht
    simp [Lit.wf, h1, h2]
    omega
  have w1 : (Lit.int .u8 (a.r : Int)).wf = true := by
    have h1 : IntKind.u8.min = 0 := by decide
    have h2 : IntKind.u8.max = 255 := by decide
    have := a.hr
    simp [Lit.wf, h1, h2]
    omega
  unfold keyOf idv
  rw [Try.underlying30, idType, hn]
  simp [Value.formed, Program.keyLits, Try.underlying30, Try.underlying28, Try.underlying5, idCells, idCell0, idCell1, w0, w1, Value.cells]
/-- A stamp as a key. -/
noncomputable def key (a : Id) : Lit := (keyOf Try.prog 30 (idv a)).getD (.bool true)
theorem key_of (a : Id) : keyOf Try.prog 30 (idv a) = some (key a) := by
  obtain ⟨l, hl⟩ := idKey_some a
  unfold key
  rw [hl]
  rfl
theorem key_inj {a b : Id} (h : key a = key b) : a = b := by
  have h1 := key_of a
  rw [h] at h1
  have := idLaw.inj h1 (key_of b)
  unfold idv at this
  simp at this
  exact Id.ext' (by omega) (by omega)
/-- Block b is a map with just these stamps. -/
def SetI (w : World) (b n : Nat) (S : Id → Bool) : Prop := ∃ D : DataW Value, w.ownsMap Try.prog 30 unitElem b n D ∧ ∀ a : Id, Maps.has D (key a) = S a
theorem SetI.made (w : World) : SetI (w.alloc (.map #[] 0)) w.heap.size 0 (fun _ => false) := ⟨_, World.ownsMap_made w _ _ _, fun _ => rfl⟩
theorem SetI.keeps {w w' : World} {b n : Nat} {S : Id → Bool} (h : SetI w b n S) (hb : Below w.heap.size w w') : SetI w' b n S := by
  obtain ⟨D, ⟨es, clock, h1, h2, h3, h4⟩, h5⟩ := h
  exact ⟨D, ⟨es, clock, (hb.block b (Array.getElem?_eq_some_iff.1 h1).1).trans h1, h2, h3, h4⟩, h5⟩
theorem SetI.lt {w : World} {b n : Nat} {S : Id → Bool} (h : SetI w b n S) : b < w.heap.size := by
  obtain ⟨D, h1, _⟩ := h
  exact h1.lt
theorem SetI.ext {w : World} {b n : Nat} {S T : Id → Bool} (h : SetI w b n S) (e : ∀ a, S a = T a) : SetI w b n T := by
  obtain ⟨D, h1, h2⟩ := h
  exact ⟨D, h1, fun a => (h2 a).trans (e a)⟩
set_option maxRecDepth 100000 in
/-- A store of one more, at the operation. -/
theorem wpList_put_set (w : World) {ops : Array Oper} {rest : List Oper} {o : Oper} {a : Act} {Q : Exit → Act → World → Prop}
    (hg : o.guard = none) (m x v : Operand) (t e : TypeId) (hop : o.op = Op.mapUpdate t m x v) (ht : Try.prog.underlying t = some (.map 30 e))
    (b n : Nat) (i : Id) (S : Id → Bool) (hM : SetI w b n S) (hn : n < 9223372036854775807) (hm : a.eval m = .map (some b)) (hx : a.eval x = .agg #[.int .u32 (i.t : Int), .int .u8 (i.r : Int)]) (hv : a.eval v = .agg #[])
    (hK : ∀ w', SetI w' b (n + 1) (fun k => decide (k = i) || S k) → w.grownBy w' (some b) → wpList Try.prog ops Q rest (a.put o.dst undef) w') : wpList Try.prog ops Q (o :: rest) a w := by
  obtain ⟨D, h1, h2⟩ := hM
  refine wpList_mapUpdate_own w hg m x v t hop 30 e idLaw ht unitElem b n D hm h1 (by unfold maxLen; omega) (idv i) (.agg #[]) (key i) hx hv (key_of i) (.agg []) [] unitElem_mk (fun w' h g => hK w' ⟨_, h, fun k => ?_⟩ g)
  by_cases hk : k = i
  · subst hk
    rw [Maps.has_put_same h1.isMap (idLaw.key (key_of k))]
    simp
  · rw [Maps.has_put_other (fun e => hk (key_inj e)), h2 k]
    simp [hk]
theorem del_size {w : World} {b n : Nat} {D : DataW Value} (h : w.ownsMap Try.prog 30 unitElem b n D) (i : Id) : decide (Maps.size (D.del (key i)) < Maps.size D) = Maps.has D (key i) := by
  have e := Maps.size_del (h.tidy idLaw) (k := key i)
  cases hh : Maps.has D (key i) <;> rw [hh] at e <;> simp at e
  · exact decide_eq_false (by omega)
  · exact decide_eq_true (by omega)
theorem del_has {D : DataW Value} {S : Id → Bool} (h : ∀ a : Id, Maps.has D (key a) = S a) (i : Id) : ∀ a : Id, Maps.has (D.del (key i)) (key a) = (S a && !decide (a = i)) := fun a => by
  by_cases e : a = i
  · subst e
    rw [Maps.has_del_same]
    simp
  · rw [Maps.has_del_other (fun k => e (key_inj k)), h a]
    simp [e]
end Go.Proofs.Ytmiepnnpccpicaa

namespace Go.Proofs.Ytmiepnnpccpicaa.Marks
open Go.RowKit Go.WideShapes Stamp Go.Proofs.Ytmiepnnpccpicaa.Place Ops Codes Bags
attribute [local go_sem ↓] Go.wp_at_zero Go.wp_at_succ
theorem ended_snoc (l : List Opn) (x : Opn) (a : Id) : ended (l ++ [x]) a = (ended l a || (decide (x.k = 4) && decide (tgt x = a))) := by
  unfold ended
  rw [List.any_append]
  simp
set_option maxRecDepth 100000 in
set_option maxHeartbeats 4000000 in
theorem joinedIn_any {v : Value} {l : List Opn} {w : World} (hv : OpL w v l) (hm : ∀ o ∈ l, mayO o = true) (hl : l.length ≤ 1024) :
    Calls Try.prog 33 #[v] w fun e w' => e = .returned (.map (some w.heap.size)) ∧ SetI w' w.heap.size l.length (ended l) ∧ Below w.heap.size w w' := by
  obtain ⟨ao, cap, rfl⟩ := hv.shape
  obtain ⟨n, hn⟩ : ∃ n, n = l.length := ⟨_, rfl⟩
  have HV : Hid (∀ W : World, Below w.heap.size w W → OpL W (.slice ao l.length cap) l) := fun W h => hv.keeps h
  have HN := Lib.hid hn
  have HMY := Lib.hid hm
  rw [← hn] at hl ⊢
  have hmm := @run_makeMap Try.prog
  have S0 : Hid (SetI (w.alloc (.map #[] 0)) w.heap.size 0 (ended (l.take 0))) := (SetI.made w).ext (fun a => by rw [List.take_zero]; rfl)
  have B0 := Lib.hid ((Below.refl w.heap.size w).alloc (Nat.le_refl _) (.map #[] 0))
  clear hv hn hm
  go_enter Try.func33, Try.ntmps33
  go_wp2
  go_loopw [9] (fun i wr => ∃ j : Nat, j ≤ n ∧ i = .int .i64 (j : Int) ∧ Hid (SetI wr w.heap.size j (ended (l.take j))) ∧ Hid (Below w.heap.size w wr)) (fun i _ => n - (intOf i).toNat)
  case atStart => exact ⟨0, by omega, rfl, S0, B0⟩
  case round =>
    clear S0 B0
    obtain ⟨j, hj, rfl, hset, hbel⟩ := hrel
    by_cases hjn : j < n
    rotate_left
    · have q3 : decide (j < n) = false := by simpa using hjn
      have hkk : l.take j = l := List.take_of_length_le (by have := HN.out; omega)
      rw [hkk] at hset
      obtain rfl : j = n := by omega
      clear hkk
      go_wp2
      go_ret
      exact ⟨rfl, hset.out, hbel.out⟩
    have q3 : decide (j < n) = true := by simpa using hjn
    have q4 : (0 : Int) ≤ (j : Int) := by omega
    have q5 : (j : Int) < (n : Int) := by omega
    have hjl : j < l.length := by rw [← HN.out]; exact hjn
    obtain ⟨bb, oo, u, e, hbb, hru, h0, h1, h2, h3, h4⟩ := opl_at (HV.out wr hbel.out) j hjl
    subst e
    obtain ⟨x, hx⟩ : ∃ x, x = l[j]'hjl := ⟨_, rfl⟩
    rw [← hx] at hru h0 h1 h2 h4
    have hxm : x ∈ l := by rw [hx]; exact List.getElem_mem _
    have MX := HMY.out x hxm
    have hsn : ∀ a, ended (l.take (j + 1)) a = (ended (l.take j) a || (decide (x.k = 4) && decide (tgt x = a))) := fun a => by rw [List.take_succ_eq_append_getElem hjl, ended_snoc, hx]
    have HSN := Lib.hid hsn
    have hc := tgt_cells MX
    have LS : Hid (∀ W : World, Below wr.heap.size wr W → Calls Try.prog 47 #[u] W fun e w' => e = .returned (.agg #[.int .u32 ((tgt x).t : Int), .int .u8 ((tgt x).r : Int)]) ∧ Below W.heap.size W w') := fun W h => by
      rw [hc.1, hc.2]
      exact pLast_any (hru.keeps h)
    obtain ⟨g, hg⟩ : ∃ g, tgt x = g := ⟨_, rfl⟩
    rw [hg] at LS HSN
    obtain ⟨T, R, hT, hR⟩ := g
    simp only at LS
    obtain ⟨uo, uc, rfl⟩ := hru.shape
    obtain ⟨nu, hnu⟩ : ∃ n, n = x.pl.length := ⟨_, rfl⟩
    rw [← hnu] at h3 LS
    obtain ⟨k, hk⟩ : ∃ z, x.k = z := ⟨_, rfl⟩
    obtain ⟨t, ht⟩ : ∃ z, x.t = z := ⟨_, rfl⟩
    obtain ⟨r, hr⟩ : ∃ z, x.r = z := ⟨_, rfl⟩
    obtain ⟨p, hp⟩ : ∃ z, x.p = z := ⟨_, rfl⟩
    rw [hk] at h0 HSN
    rw [ht] at h1
    rw [hr] at h2
    rw [hp] at h4
    have BL : Hid (Below wr.heap.size wr (wr.alloc (.cells #[.int .u8 (k : Int), .int .u32 (t : Int), .int .u8 (r : Int), .slice uo nu uc, .int .i64 p] 36))) := (Below.refl _ _).alloc (Nat.le_refl _) _
    have SL := Lib.hid (hset.out.keeps BL.out)
    have BW := Lib.hid (bt hbel.out BL.out)
    clear hru hx hxm MX hc hg hnu hk ht hr hp hsn hset
    by_cases hk4 : k = 4
    rotate_left
    · have qk : ((k : Int) == 4) = false := by simp; omega
      have qk2 : decide ((k : Int) = 4) = false := decide_eq_false (by omega)
      have S6 : Hid (SetI (wr.alloc (.cells #[.int .u8 (k : Int), .int .u32 (t : Int), .int .u8 (r : Int), .slice uo nu uc, .int .i64 p] 36)) w.heap.size (j + 1) (ended (l.take (j + 1)))) := by
        obtain ⟨D, d1, d2⟩ := SL.out
        exact ⟨D, d1.mono (Nat.le_succ _), fun a => by rw [d2 a, HSN.out a, decide_eq_false hk4]; simp⟩
      clear SL LS hk4 HSN
      go_wp2
      go_roundw
      case rel => exact ⟨j + 1, by omega, by go_num, S6, BW⟩
      case measure => simp [intOf]; omega
    · subst hk4
      have qk : ((((4 : Nat) : Int)) == 4) = true := by rfl
      go_wp2_with fail
      refine (LS.out _ BL.out).mono ?_
      rintro e w2 ⟨rfl, b2⟩
      have S2 := Lib.hid (SL.out.keeps b2)
      have B2 := Lib.hid (bt BW.out b2)
      clear b2 SL BW
      go_wp2_with (at_mapUpdate; refine wpList_put_set _ rfl _ _ _ 64 66 rfl Try.underlying64 w.heap.size j ⟨T, R, hT, hR⟩ (ended (l.take j)) S2.out (by omega) rfl rfl rfl ?_)
      intro w3 s3 g3
      have S3 : Hid (SetI w3 w.heap.size (j + 1) (ended (l.take (j + 1)))) := s3.ext (fun a => by
        rw [HSN.out a, Bool.or_comm]
        simp [eq_comm])
      have B3 : Hid (Below w.heap.size w w3) := B2.out.grown g3 B2.out.size (fun i e => by cases e; exact Nat.le_refl _)
      clear s3 g3 S2 B2 LS BL
      go_wp2
      go_roundw
      case rel => exact ⟨j + 1, by omega, by go_num, S3, B3⟩
      case measure => simp [intOf]; omega
set_option maxRecDepth 100000 in
set_option maxHeartbeats 4000000 in
theorem takeOut_any {b n : Nat} {S : Id → Bool} (i : Id) {w : World} (hs : SetI w b n S) :
    Calls Try.prog 34 #[.map (some b), .agg #[.int .u32 (i.t : Int), .int .u8 (i.r : Int)]] w fun e w' => e = .returned (.bool (S i)) ∧ SetI w' b n (fun a => S a && !decide (a = i)) ∧ w.grownBy w' (some b) := by
  obtain ⟨D, d1, d2⟩ := hs
  have D1 : Hid ((w.alloc (.cells #[.int .u32 (i.t : Int), .int .u8 (i.r : Int)] 30)).ownsMap Try.prog 30 unitElem b n D) := d1.alloc _
  have G1 : Hid (w.grownBy (w.alloc (.cells #[.int .u32 (i.t : Int), .int .u8 (i.r : Int)] 30)) none) := World.grownBy_alloc _ _ _
  have h := del_size d1 i
  rw [d2 i] at h
  obtain ⟨m1, hm1⟩ : ∃ z, Maps.size D = z := ⟨_, rfl⟩
  obtain ⟨m2, hm2⟩ : ∃ z, Maps.size (D.del (key i)) = z := ⟨_, rfl⟩
  rw [hm1, hm2] at h
  have HM1 := Lib.hid hm1
  have HM2 := Lib.hid hm2
  obtain ⟨q, hq⟩ : ∃ q, S i = q := ⟨_, rfl⟩
  rw [hq] at h ⊢
  have h' : decide ((m2 : Int) < (m1 : Int)) = q := by rw [← h]; exact decide_eq_decide.2 (by omega)
  have HD : Hid (∀ a : Id, Maps.has (D.del (key i)) (key a) = (S a && !decide (a = i))) := del_has d2 i
  clear d1 d2 hm1 hm2 hq
  obtain ⟨w3, hrun, d3, t3⟩ := D1.out.drop idLaw Try.underlying64 (key_of i) 0
  unfold idv at hrun
  have D3 := Lib.hid d3
  have G3 := Lib.hid t3.grown
  clear d3 t3
  have hl1 := D1.out.len Try.underlying64 3
  rw [HM1.out] at hl1
  have hl3 := D3.out.len Try.underlying64 3
  rw [HM2.out] at hl3
  go_enter Try.func34, Try.ntmps34
  go_wp2
  go_ret
  exact ⟨rfl, ⟨_, D3.out, HD.out⟩, ⟨G3.out.os.trans G1.out.os, G3.out.tape.trans G1.out.tape, G3.out.output.trans G1.out.output, Nat.le_trans G1.out.size G3.out.size, fun k hk hne => (G3.out.block k (Nat.lt_of_lt_of_le hk G1.out.size) hne).trans (G1.out.block k hk (by simp))⟩⟩
end Go.Proofs.Ytmiepnnpccpicaa.Marks
