/- Places: runs that are cut, one way of writing, a stamp behind, rising. Conditions: none. -/
import Derived.Maps.AppendAt
import Derived.WalkKit
import Derived.WalkSpells
import Derived.WalkLawsBesides
import Derived.RegionTactic
import Derived.Deep.RegionHeld3
import Derived.Deep.DrawnRows
import Derived.Deep.QuietTactic
import Derived.BigQuiet
import Derived.Test.YtelilmhnfmojkaaPk01

namespace Go.Proofs.Ytelilmhnfmojkaa.Place
open Stamp

theorem One.nat {x : Run} (h : One x) : ∃ n : Nat, x.m = (n : Int) ∧ 1 ≤ n ∧ n ≤ 4096 ∧ x.m.toNat = n ∧ x.t + n ≤ 1073741825 := by
  obtain ⟨h1, h2, h3, h4, h5, h6⟩ := h
  exact ⟨x.m.toNat, by omega, by omega, by omega, rfl, by omega⟩
/-- A run made of numbers, whatever they are. -/
def mkRun (t r : Nat) (m : Int) : Run := ⟨t % 4294967296, r % 256, if -9223372036854775808 ≤ m ∧ m ≤ 9223372036854775807 then m else 0, Nat.mod_lt _ (by decide), Nat.mod_lt _ (by decide), by split <;> omega⟩
theorem mkRun_t {t r : Nat} {m : Int} (h : t < 4294967296) : (mkRun t r m).t = t := Nat.mod_eq_of_lt h
theorem mkRun_r {t r : Nat} {m : Int} (h : r < 256) : (mkRun t r m).r = r := Nat.mod_eq_of_lt h
theorem mkRun_m {t r : Nat} {m : Int} (h : -9223372036854775808 ≤ m ∧ m ≤ 9223372036854775807) : (mkRun t r m).m = m := if_pos h
/-- Runs without their first n stamps, of which the first run has so many, and more, or just as many. -/
def cut (x : Run) (p : List Run) (n : Nat) : List Run := if x.m = (n : Int) then p else mkRun (x.t + n) x.r (x.m - n) :: p
theorem all_cut {x : Run} {p : List Run} {n : Nat} (h : One x) (hn : (n : Int) ≤ x.m) : all (x :: p) = up x.t x.r n ++ all (cut x p n) := by
  obtain ⟨k, hk, h1, h2, h3, h4⟩ := h.nat
  have hxt := x.hr
  unfold cut
  by_cases he : x.m = (n : Int)
  · rw [if_pos he, all, h3, show k = n by omega]
  · rw [if_neg he, all, all, mkRun_t (by omega), mkRun_r hxt, mkRun_m (by omega), h3, ← List.append_assoc, show (x.m - (n : Int)).toNat = k - n by omega, ← up_add, show n + (k - n) = k by omega]
theorem One.cut {x : Run} {n : Nat} (h : One x) (hn : (n : Int) < x.m) : One (mkRun (x.t + n) x.r (x.m - n)) ∧ fin (mkRun (x.t + n) x.r (x.m - n)) = fin x := by
  obtain ⟨h1, h2, h3, h4, h5, h6⟩ := h
  have hxt := x.hr
  unfold One fin
  rw [mkRun_t (by omega), mkRun_r hxt, mkRun_m (by omega)]
  omega
theorem Chain.cut {x : Run} {p : List Run} {n : Nat} (h : Chain (x :: p)) (hn : (n : Int) ≤ x.m) : Chain (cut x p n) := by
  unfold Place.cut
  by_cases he : x.m = (n : Int)
  · rw [if_pos he]; exact h.tail
  · rw [if_neg he]
    have hc := h.head.cut (n := n) (by omega)
    cases p with
    | nil => exact hc.1
    | cons y p =>
      refine ⟨hc.1, ?_, h.2.2⟩
      have h2 := h.2.1
      unfold Next at h2 ⊢
      rw [hc.2, mkRun_r x.hr]
      exact h2
theorem all_cons {x : Run} {p : List Run} (h : One x) : ∃ l, all (x :: p) = ⟨x.t, x.r, x.ht, x.hr⟩ :: l := by
  obtain ⟨k, hk, h1, h2, h3, h4⟩ := h.nat
  obtain ⟨j, rfl⟩ : ∃ j, k = j + 1 := ⟨k - 1, by omega⟩
  refine ⟨up (x.t + 1) x.r j ++ all p, ?_⟩
  rw [all, h3, up]
  have : mk x.t x.r = ⟨x.t, x.r, x.ht, x.hr⟩ := Id.ext' (mk_t x.ht) (mk_r x.hr)
  rw [this]; rfl
theorem all_nil {p : List Run} (h : Chain p) : all p = [] ↔ p = [] := by
  cases p with
  | nil => simp [all]
  | cons x p =>
    obtain ⟨l, hl⟩ := all_cons (p := p) h.head
    simp [hl]
theorem hold_cut {x y : Run} {p q : List Run} (h1 : One x) (h2 : One y) (ht : x.t = y.t) (hr : x.r = y.r) {n : Nat} (hn : (n : Int) ≤ x.m) (hn2 : (n : Int) ≤ y.m) :
    hold (all (x :: p)) (all (y :: q)) = hold (all (cut x p n)) (all (cut y q n)) := by
  rw [all_cut h1 hn, all_cut h2 hn2, ht, hr, hold_app]
theorem first_cut {x y : Run} {p q : List Run} (h1 : One x) (h2 : One y) (ht : x.t = y.t) (hr : x.r = y.r) {n : Nat} (hn : (n : Int) ≤ x.m) (hn2 : (n : Int) ≤ y.m) :
    first (all (x :: p)) (all (y :: q)) = first (all (cut x p n)) (all (cut y q n)) := by
  rw [all_cut h1 hn, all_cut h2 hn2, ht, hr, first_app]
theorem hold_part {x y : Run} {p q : List Run} (h1 : One x) (h2 : One y) (h : ¬ (x.t = y.t ∧ x.r = y.r)) : hold (all (x :: p)) (all (y :: q)) = if less y.t y.r x.t x.r = true then -1 else 1 := by
  obtain ⟨l, hl⟩ := all_cons (p := p) h1
  obtain ⟨m, hm⟩ := all_cons (p := q) h2
  rw [hl, hm, hold, if_neg (by rw [Id.eq_iff]; exact h)]
theorem first_part {x y : Run} {p q : List Run} (h1 : One x) (h2 : One y) (h : ¬ (x.t = y.t ∧ x.r = y.r)) : first (all (x :: p)) (all (y :: q)) = false := by
  obtain ⟨l, hl⟩ := all_cons (p := p) h1
  obtain ⟨m, hm⟩ := all_cons (p := q) h2
  rw [hl, hm, first, decide_eq_false (by rw [Id.eq_iff]; exact h), Bool.false_and]
theorem hold_right {x : Run} {p : List Run} (h : One x) : hold (all (x :: p)) [] = 1 := by
  obtain ⟨l, hl⟩ := all_cons (p := p) h
  rw [hl]; rfl
theorem hold_left {x : Run} {p : List Run} (h : One x) : hold [] (all (x :: p)) = -1 := by
  obtain ⟨l, hl⟩ := all_cons (p := p) h
  rw [hl]; rfl
theorem first_right {x : Run} {p : List Run} (h : One x) : first (all (x :: p)) [] = false := by
  obtain ⟨l, hl⟩ := all_cons (p := p) h
  rw [hl]; rfl

/-- How many stamps, as a number. -/
theorem long_len : ∀ {p : List Run}, Chain p → ((all p).length : Int) = long p
  | [], _ => rfl
  | x :: p, h => by
    obtain ⟨k, hk, h1, h2, h3, h4⟩ := h.head.nat
    have := long_len h.tail
    rw [all, List.length_append, up_len, h3, long]
    omega

/-- Places are written in one way alone. -/
theorem all_inj : ∀ {p q : List Run}, Chain p → Chain q → all p = all q → p = q
  | [], q, _, h2, h => ((all_nil h2).1 h.symm).symm
  | x :: p, [], h1, _, h => (all_nil h1).1 h
  | x :: p, y :: q, h1, h2, h => by
    obtain ⟨l, hl⟩ := all_cons (p := p) h1.head
    obtain ⟨m, hm⟩ := all_cons (p := q) h2.head
    have hxy : x.t = y.t ∧ x.r = y.r := by
      rw [hl, hm] at h
      exact Id.eq_iff.1 (List.cons.inj h).1
    obtain ⟨j, hj, j1, j2, j3, j4⟩ := h1.head.nat
    obtain ⟨k, hk, k1, k2, k3, k4⟩ := h2.head.nat
    -- a run that is longer than the other one would go on where the other place must leave
    have key : ∀ {x y : Run} {p q : List Run}, Chain (x :: p) → Chain (y :: q) → all (x :: p) = all (y :: q) → x.t = y.t → x.r = y.r → ¬ x.m < y.m := by
      intro x y p q h1 h2 h ht hr hlt
      obtain ⟨j, hj, j1, j2, j3, j4⟩ := h1.head.nat
      rw [all_cut h1.head (n := j) (by omega), all_cut h2.head (n := j) (by omega), ht, hr] at h
      have h := List.append_cancel_left h
      unfold cut at h
      rw [if_pos hj, if_neg (by omega)] at h
      have hc := h2.head.cut (n := j) (by omega)
      obtain ⟨m, hm⟩ := all_cons (p := q) hc.1
      cases p with
      | nil => rw [hm] at h; simp [all] at h
      | cons z p =>
        obtain ⟨l, hl⟩ := all_cons (p := p) h1.tail.head
        rw [hl, hm] at h
        have hz := Id.eq_iff.1 (List.cons.inj h).1
        simp only at hz
        rw [mkRun_t (by have := h2.head.nat; omega), mkRun_r y.hr] at hz
        have hn := h1.2.1
        unfold Next fin at hn
        have := hn.2 (by omega)
        omega
    have hm : x.m = y.m := by
      have a := key h1 h2 h hxy.1 hxy.2
      have b := key h2 h1 h.symm hxy.1.symm hxy.2.symm
      omega
    have e : x = y := Run.ext' hxy.1 hxy.2 hm
    subst e
    rw [all, all] at h
    rw [all_inj h1.tail h2.tail (List.append_cancel_left h)]
theorem hold_same {p q : List Run} (h1 : Chain p) (h2 : Chain q) : hold (all p) (all q) = 0 ↔ p = q := by
  rw [hold_eq]
  exact ⟨all_inj h1 h2, fun h => by rw [h]⟩

/-- The last run, the last stamp. -/
def last (p : List Run) : Run := p.getLastD zrun
theorem last_cons (x : Run) (p : List Run) : last (x :: p) = if p = [] then x else last p := by
  cases p with
  | nil => rfl
  | cons y p => simp [last]
def lastT (p : List Run) : Int := fin (last p)
/-- Times rise: each is at most the last one; the stamps of a place are below what is behind. -/
theorem chain_le : ∀ {p : List Run}, Chain p → ∀ x ∈ p, fin x ≤ lastT p
  | [], _, x, hx => by simp at hx
  | [y], _, x, hx => by simp only [List.mem_singleton] at hx; subst hx; exact Int.le_refl _
  | y :: z :: p, h, x, hx => by
    have e : lastT (y :: z :: p) = lastT (z :: p) := by simp [lastT, last]
    rw [e]
    have ih := chain_le h.2.2
    rw [List.mem_cons] at hx
    rcases hx with rfl | hx
    · have h1 := ih z (by simp)
      have h2 := h.2.1.1
      have h3 := h.2.2.head
      unfold One at h3
      unfold fin at h1 h2 ⊢
      omega
    · exact ih x hx
theorem chain_append : ∀ {p q : List Run}, Chain p → Chain q → (∀ x y, p.getLast? = some x → q.head? = some y → Next x y) → Chain (p ++ q)
  | [], q, _, h, _ => h
  | [x], [], h, _, _ => h
  | [x], y :: q, h1, h2, h => ⟨h1, h x y rfl rfl, h2⟩
  | x :: y :: p, q, h1, h2, h => ⟨h1.1, h1.2.1, chain_append h1.2.2 h2 (fun a b ha hb => h a b (by simpa using ha) hb)⟩
end Go.Proofs.Ytelilmhnfmojkaa.Place

/- Blocks known whole, in whatever world behind: for regions that draw their order and make memory. Conditions: none. -/
namespace Go.Proofs.Ytelilmhnfmojkaa
open Go.RowKit Go.WideShapes

theorem hold {α β : Prop} (f : α → β) (h : α) : β := f h
theorem blk_drew {X : World} {g : Nat} {o : Obj} (h : X.heap[g]? = some o) : X.drew.heap[g]? = some o := h
theorem blk_old {X : World} {g : Nat} {o o' : Obj} (h : X.heap[g]? = some o) : (X.alloc o').heap[g]? = some o := by
  have hlt : g < X.heap.size := (Array.getElem?_eq_some_iff.1 h).1
  exact (((Below.refl X.heap.size X).alloc (Nat.le_refl _) o').block g hlt).trans h
theorem blk_new {X : World} {g : Nat} {o : Obj} (h : X.heap.size = g) : (X.alloc o).heap[g]? = some o := by
  subst h; exact heap_alloc_new X o
theorem blk_grown {X W : World} {row : Option Nat} {g : Nat} {o : Obj} (hg : X.grownBy W row) (hne : row ≠ some g) (h : X.heap[g]? = some o) : W.heap[g]? = some o :=
  (hg.block g (Array.getElem?_eq_some_iff.1 h).1 (fun e => hne e.symm)).trans h
theorem blk_below {X W : World} {g : Nat} {o : Obj} (hb : Below X.heap.size X W) (h : X.heap[g]? = some o) : W.heap[g]? = some o :=
  (hb.block g (Array.getElem?_eq_some_iff.1 h).1).trans h
/-- What a row of the call's own may lie in behind an append: not where another block was. -/
theorem row_ne {X : World} {v v' : Value} {g : Nat} {o : Obj} (l : v'.ownBlock = v.ownBlock ∨ v'.ownBlock = some X.heap.size) (hne : v.ownBlock ≠ some g) (h : X.heap[g]? = some o) : v'.ownBlock ≠ some g := by
  have hlt : g < X.heap.size := (Array.getElem?_eq_some_iff.1 h).1
  rcases l with l | l
  · rw [l]; exact hne
  · rw [l]; intro e; cases e; omega
theorem row_ne_new {X : World} {base : Nat} {e : TypeId} {v : Value} {sz n g : Nat} {cs : List Value} (h : X.ownsRow base e sz v n cs) (hg : X.heap.size ≤ g) : v.ownBlock ≠ some g := fun he => by
  have := (h.lt g he).2
  omega
theorem own_blk {X : World} {base g sz : Nat} {e : TypeId} (hb : base ≤ g) (h : X.heap[g]? = some (.cells #[] e)) : X.ownsRow base e sz (.slice (some ⟨g, 0, none⟩) 0 0) 0 [] :=
  ⟨by simp, .inr ⟨g, 0, #[], rfl, hb, h, by simp, by simp, by simp, by simp⟩⟩
theorem sees_blk {X : World} {g : Nat} {a : Id} {e : TypeId} (h : X.heap[g]? = some (.cells #[.int .u32 (a.t : Int), .int .u8 (a.r : Int)] e)) : Sees X (.slice (some ⟨g, 0, none⟩) 1 1) 2 1 (ids [a]) := by
  refine ⟨rfl, _, _, rfl, Nat.le_refl _, by decide, by simp, .inr ⟨g, 0, rfl, (Array.getElem?_eq_some_iff.1 h).1, fun j u hj => ?_⟩⟩
  rw [cell_of_row X g (0 + j) _ e _ h, Nat.zero_add]
  simpa [ids] using hj
theorem cells_blk {X : World} {g : Nat} {c0 c1 : Value} {e : TypeId} (h : X.heap[g]? = some (.cells #[c0, c1] e)) :
    X.cell? ⟨g, 0, none⟩ = some c0 ∧ X.cell? ⟨g, 1, none⟩ = some c1 ∧ X.frozen? ⟨g, 0, none⟩ = false ∧ X.frozen? ⟨g, 1, none⟩ = false :=
  ⟨cell_of_row _ g 0 #[c0, c1] e _ h, cell_of_row _ g 1 #[c0, c1] e _ h, by simp [World.frozen?, h], by simp [World.frozen?, h]⟩
theorem pair_blk {X : World} {g : Nat} {c0 c1 : Value} {e : TypeId} (h : X.heap[g]? = some (.cells #[c0, c1] e)) : Pair X g c0 c1 :=
  ⟨(Array.getElem?_eq_some_iff.1 h).1, (cells_blk h).1, (cells_blk h).2.1⟩
theorem set_blk {X : World} {g : Nat} {c0 c1 d0 d1 : Value} {e : TypeId} (h : X.heap[g]? = some (.cells #[c0, c1] e)) : ((X.setCell ⟨g, 0, none⟩ d0).setCell ⟨g, 1, none⟩ d1).heap[g]? = some (.cells #[d0, d1] e) := by
  have h0 := heap_setCell_same X g 0 _ _ d0 h
  have h1 := heap_setCell_same _ g 1 _ _ d1 h0
  exact h1
theorem set_below {B g : Nat} {W X : World} {d0 d1 : Value} (hg : B ≤ g) (h : Below B W X) : Below B W ((X.setCell ⟨g, 0, none⟩ d0).setCell ⟨g, 1, none⟩ d1) :=
  (h.setCell (p := ⟨g, 0, none⟩) hg _).setCell (p := ⟨g, 1, none⟩) hg _

theorem below_next {B : Nat} {W X Y : World} (h : Below B W X) (hs : B ≤ X.heap.size) (b : Below X.heap.size X Y) : Below B W Y := h.trans (b.mono hs)

/-- A slot that an operation left unset decides no guard. -/
theorem yielded_undef : Go.yielded.match_1 (fun _ => Option Bool) (some undef) (fun b => some b) (fun _ => none) = none := rfl

/-- Append at a step of a region that draws: and where the new row lies. -/
theorem step_append_at {w : World} {ops : Array Oper} {o : Oper} {a : Act} {K : Act → World → Prop} {Q : Exit → Act → World → Prop} {E : Prop} (hgd : o.guard = none) (s x : Operand) (t e : TypeId)
    (ho : o.op = .call { callee := .builtin .append, args := #[s, x], argTypes := #[t, t] }) (ht : Try.prog.underlying t = some (.slice e))
    {z : Value} {sz bytes : Nat} (hi : (Try.prog.info? e).map (fun i => (i.zero, i.size, i.bytes)) = some (some z, sz, bytes)) (hzs : z.cells.size = sz) (hsz : 0 < sz)
    (base : Nat) (v : Value) (n : Nat) (L : List Value) (hs : a.eval s = v) (hown : w.ownsRow base e sz v n L)
    (u : Value) (m : Nat) (xs : List Value) (hx : a.eval x = u) (hr : Sees w u sz m xs) (h1 : ∀ u ∈ xs, u.oneCell' = true) (h47 : (n + m) * bytes ≤ 140737488355328) (h63 : n + m ≤ 140737488355328) (hbase : base ≤ w.heap.size)
    (h : ∀ v' w', w'.ownsRow base e sz v' (n + m) (L ++ xs) → w.grownBy w' v.ownBlock → Below base w w' → (v'.ownBlock = v.ownBlock ∨ v'.ownBlock = some w.heap.size) → K (a.put o.dst v') w') :
    if Region.wanted o (yielded ops a.tmps) = true then Oper.wp Try.prog o a w K Q else E := by
  have hw : Region.wanted o (yielded ops a.tmps) = true := by simp [Region.wanted, hgd]
  rw [if_pos hw]
  obtain ⟨i0, hi, hz0, hz1, hz2⟩ := info_parts hi
  obtain ⟨ao, cap, rfl⟩ := hr.shape
  cases ao with
  | none =>
    obtain ⟨_, h2, _, h3⟩ := hr.cap
    have hc0 := h3 rfl
    subst hc0
    obtain rfl : m = 0 := by omega
    obtain rfl : xs = [] := List.length_eq_zero_iff.1 (by rw [hr.len]; omega)
    have hrun := run_append_owned_none (P := Try.prog) (w := w) base t o.type e i0 sz ht hi v n L hown
    unfold Oper.wp
    simp only [execOp, ho, resolve, invoke, builtin, Sem.run_bind, Sem.run_pure, Result.andThen_ok, List.map_toArray, List.map_cons, List.map_nil, hs, hx, hrun]
    refine h v w ?_ (World.grownBy.refl w _) (Below.refl _ _) (.inl rfl)
    rw [List.append_nil]; exact hown
  | some a2 =>
    obtain ⟨v', w', hrun, h2, h3, _, h5⟩ := run_append_own_at (P := Try.prog) w base t o.type e i0 z sz bytes ht hi hz0 hz1 hz2 hzs hsz v n L hown a2 m cap xs hr.len hr.cells h1 (by unfold maxLen; omega) h47 hbase
    unfold Oper.wp
    simp only [execOp, ho, resolve, invoke, builtin, Sem.run_bind, Sem.run_pure, Result.andThen_ok, List.map_toArray, List.map_cons, List.map_nil, hs, hx, hrun]
    exact h v' w' h2 h3 ((Below.refl _ _).grown h3 hbase (fun j hj => (hown.lt j hj).1)) h5
end Go.Proofs.Ytelilmhnfmojkaa

/- octavoref06: Twin, Same, SameIds, end, one, Long: what each answers. Conditions: the slices' cells are runs (stamps). -/
namespace Go.Proofs.Ytelilmhnfmojkaa.Place
open Go.RowKit Stamp
attribute [local go_sem ↓] Go.wp_at_zero Go.wp_at_succ

theorem twin_any {v : Value} {l : List Run} {w : World} (hv : Runs w v l) (hl : l.length ≤ 8796093022208) :
    Calls Try.prog 30 #[v] w fun e w' => ∃ v', e = .returned v' ∧ w'.ownsRow w.heap.size 71 3 v' l.length (runs l) ∧ Below w.heap.size w w' := by
  obtain ⟨ao, cap, rfl⟩ := hv.shape
  have HV : Hid (Sees w (.slice ao l.length cap) 3 l.length (runs l)) := hv
  have O0 : Hid (w.ownsRow w.heap.size 71 3 (.slice none 0 0) 0 []) := World.ownsRow_nil _ _ _ _
  clear hv
  go_enter Try.func30, Try.ntmps30
  go_wp2_with (at_builtin; refine wpList_append_sees rfl (.tmp 4) (.tmp 5) 33 71 rfl Try.underlying33 run_info rfl (by decide) w.heap.size _ 0 [] rfl O0.out _ l.length _ rfl HV.out (runs_oneCell l) ?k1 ?k2 ?k3 ?_)
  case k1 => omega
  case k2 => omega
  case k3 => simp
  rintro v1 w1 o1 g1 b1
  have HO : Hid (w1.ownsRow w.heap.size 71 3 v1 l.length (runs l)) := o1
  have HB := Lib.hid b1
  clear o1 g1 b1
  go_wp2
  go_ret
  exact ⟨_, rfl, HO.out, HB.out⟩

theorem runs_ne : ∀ {a b : List Run}, a.length = b.length → a ≠ b → ∃ k, k < a.length ∧ a.getD k zrun ≠ b.getD k zrun
  | [], [], _, h => absurd rfl h
  | x :: a, y :: b, hl, h => by
    by_cases hxy : x = y
    · subst hxy
      obtain ⟨k, h1, h2⟩ := runs_ne (a := a) (b := b) (by simpa using hl) (fun e => h (by rw [e]))
      exact ⟨k + 1, by simpa using h1, by simpa using h2⟩
    · exact ⟨0, by simp, by simpa using hxy⟩
  | [], _ :: _, hl, _ => by simp at hl
  | _ :: _, [], hl, _ => by simp at hl

set_option maxHeartbeats 1000000 in
theorem same_yes {a b : Value} {l : List Run} {w : World} (ha : Runs w a l) (hb : Runs w b l) :
    Calls Try.prog 37 #[a, b] w fun e w' => e = .returned (.bool true) ∧ Below w.heap.size w w' := by
  obtain ⟨ao, ca, rfl⟩ := ha.shape
  obtain ⟨bo, cb, rfl⟩ := hb.shape
  obtain ⟨n, hn⟩ : ∃ n, n = l.length := ⟨_, rfl⟩
  have hm : n ≤ 9223372036854775807 := by rw [hn]; exact Sees.max ha
  have HA := Lib.hid ha
  have HB := Lib.hid hb
  have HN := Lib.hid hn
  rw [← hn]
  clear ha hb hn
  have t1 : ((n : Int) != (n : Int)) = false := by simp
  go_enter Try.func37, Try.ntmps37
  go_wp2
  go_loopw [5] (fun i wr => ∃ k : Nat, k ≤ n ∧ i = .int .i64 (k : Int) ∧ ∃ q, wr = w.drewN q) (fun i _ => n - (intOf i).toNat)
  case atStart => exact ⟨0, by omega, rfl, 0, rfl⟩
  case round =>
    obtain ⟨k, hk, rfl, q, rfl⟩ := hrel
    by_cases hkn : k < n
    · have q1 : decide (k < n) = true := by simpa using hkn
      obtain ⟨b1, o1, rfl, hb1, ha0, ha1, ha2⟩ := HA.out.at k (by rw [← HN.out]; exact hkn)
      obtain ⟨b2, o2, rfl, hb2, hb0, hb1', hb2'⟩ := HB.out.at k (by rw [← HN.out]; exact hkn)
      obtain ⟨x, hx⟩ : ∃ x, x = l.getD k zrun := ⟨_, rfl⟩
      rw [← hx] at ha0 ha1 ha2 hb0 hb1' hb2'
      obtain ⟨xt, xr, xm, _, _, _⟩ := x
      simp only at ha0 ha1 ha2 hb0 hb1' hb2'
      have q2 : (0 : Int) ≤ (k : Int) := by omega
      have q3 : (k : Int) < (n : Int) := by omega
      clear hx
      go_wp2
      go_quiet (fail)
      go_wp2
      go_roundw
      case rel => exact ⟨k + 1, by omega, by go_num, _, rfl⟩
      case measure => simp [intOf]; omega
    · have q1 : decide (k < n) = false := by simpa using hkn
      go_wp2
      go_ret
      exact ⟨rfl, below_draw (Below.refl _ _) _⟩

set_option maxHeartbeats 1000000 in
theorem same_no {a b : Value} {l m : List Run} {w : World} (ha : Runs w a l) (hb : Runs w b m) (hlm : l ≠ m) :
    Calls Try.prog 37 #[a, b] w fun e w' => e = .returned (.bool false) ∧ Below w.heap.size w w' := by
  obtain ⟨ao, ca, rfl⟩ := ha.shape
  obtain ⟨bo, cb, rfl⟩ := hb.shape
  obtain ⟨n, hn⟩ : ∃ n, n = l.length := ⟨_, rfl⟩
  obtain ⟨n2, hn2⟩ : ∃ n, n = m.length := ⟨_, rfl⟩
  have hm : n ≤ 9223372036854775807 := by rw [hn]; exact Sees.max ha
  have HA := Lib.hid ha
  have HB := Lib.hid hb
  have HN := Lib.hid hn
  have HN2 := Lib.hid hn2
  have HL := Lib.hid hlm
  rw [← hn, ← hn2]
  clear ha hb hn hn2 hlm
  by_cases hlen : n = n2
  · subst hlen
    have t1 : ((n : Int) != (n : Int)) = false := by simp
    go_enter Try.func37, Try.ntmps37
    go_wp2
    go_loopw [5] (fun i wr => ∃ k : Nat, k ≤ n ∧ i = .int .i64 (k : Int) ∧ Hid (∀ j, j < k → l.getD j zrun = m.getD j zrun) ∧ ∃ q, wr = w.drewN q) (fun i _ => n - (intOf i).toNat)
    case atStart => exact ⟨0, by omega, rfl, Lib.hid (by omega), 0, rfl⟩
    case round =>
      obtain ⟨k, hk, rfl, hal, q, rfl⟩ := hrel
      by_cases hkn : k < n
      · have q1 : decide (k < n) = true := by simpa using hkn
        obtain ⟨b1, o1, rfl, hb1, ha0, ha1, ha2⟩ := HA.out.at k (by rw [← HN.out]; exact hkn)
        obtain ⟨b2, o2, rfl, hb2, hb0, hb1', hb2'⟩ := HB.out.at k (by rw [← HN2.out]; exact hkn)
        obtain ⟨x, hx⟩ : ∃ x, x = l.getD k zrun := ⟨_, rfl⟩
        obtain ⟨y, hy⟩ : ∃ y, y = m.getD k zrun := ⟨_, rfl⟩
        rw [← hx] at ha0 ha1 ha2
        rw [← hy] at hb0 hb1' hb2'
        have q2 : (0 : Int) ≤ (k : Int) := by omega
        have q3 : (k : Int) < (n : Int) := by omega
        by_cases hxy : x = y
        · have HX := Lib.hid (show l.getD k zrun = m.getD k zrun by rw [← hx, ← hy, hxy])
          subst hxy
          obtain ⟨xt, xr, xm, _, _, _⟩ := x
          simp only at ha0 ha1 ha2 hb0 hb1' hb2'
          clear hx hy
          go_wp2
          go_quiet (fail)
          go_wp2
          go_roundw
          case rel =>
            refine ⟨k + 1, by omega, by go_num, Lib.hid (fun j hj => ?_), _, rfl⟩
            by_cases e : j = k
            · rw [e]; exact HX.out
            · exact hal.out j (by omega)
          case measure => simp [intOf]; omega
        · have hparts : ¬ x.t = y.t ∨ (x.t = y.t ∧ ¬ x.r = y.r) ∨ (x.t = y.t ∧ x.r = y.r ∧ ¬ x.m = y.m) := by
            by_cases h1 : x.t = y.t
            · by_cases h2 : x.r = y.r
              · exact .inr (.inr ⟨h1, h2, fun h3 => hxy (Run.ext' h1 h2 h3)⟩)
              · exact .inr (.inl ⟨h1, h2⟩)
            · exact .inl h1
          obtain ⟨xt, xr, xm, _, _, _⟩ := x
          obtain ⟨yt, yr, ym, _, _, _⟩ := y
          simp only at ha0 ha1 ha2 hb0 hb1' hb2' hparts
          clear hx hy hxy
          rcases hparts with h1 | ⟨rfl, h2⟩ | ⟨rfl, rfl, h3⟩
          · go_wp2
            go_quiet (fail)
            go_wp2
            go_ret
            exact ⟨rfl, below_draw (below_draw (Below.refl _ _) _) _⟩
          · have h4 : ((xr : Int) == (yr : Int)) = false := by simp; omega
            have h5 : decide (xr = yr) = false := decide_eq_false h2
            go_wp2
            go_quiet (fail)
            go_wp2
            go_ret
            exact ⟨rfl, below_draw (below_draw (Below.refl _ _) _) _⟩
          · go_wp2
            go_quiet (fail)
            go_wp2
            go_ret
            exact ⟨rfl, below_draw (below_draw (Below.refl _ _) _) _⟩
      · exfalso
        obtain ⟨j, h1, h2⟩ := runs_ne (by rw [← HN.out, ← HN2.out]) HL.out
        exact h2 (hal.out j (by have := HN.out; omega))
  · have t1 : ((n : Int) != (n2 : Int)) = true := by simp; omega
    have t2 : ¬ n = n2 := hlen
    go_enter Try.func37, Try.ntmps37
    go_wp2
    go_ret
    exact ⟨rfl, Below.refl _ _⟩
end Go.Proofs.Ytelilmhnfmojkaa.Place

/- octavoref06: end, one, Long, Final: what each answers. Conditions: the slices' cells are runs; Long: the sums fit. -/
namespace Go.Proofs.Ytelilmhnfmojkaa.Place
open Go.RowKit Stamp
attribute [local go_sem ↓] Go.wp_at_zero Go.wp_at_succ

theorem end_any (t r : Nat) (m : Int) (ht : t < 4294967296) (hm : 1 ≤ m ∧ m ≤ 4096) (w : World) :
    Calls Try.prog 66 #[.agg #[.int .u32 (t : Int), .int .u8 (r : Int), .int .i64 m]] w fun e w' => e = .returned (.int .i64 ((t : Int) + m - 1)) ∧ Below w.heap.size w w' := by
  obtain ⟨h1, h2⟩ := hm
  go_enter Try.func66, Try.ntmps66
  go_wp2
  go_ret
  exact ⟨rfl, (Below.refl _ _).alloc (Nat.le_refl _) _⟩

/-- May a run be, by itself, as a Bool. -/
def oneB (t r : Nat) (m : Int) : Bool := decide (1 ≤ t ∧ t ≤ 1073741824 ∧ r < 8 ∧ 1 ≤ m ∧ m ≤ 4096 ∧ (t : Int) + m - 1 ≤ 1073741824)
theorem oneB_iff (x : Run) : oneB x.t x.r x.m = true ↔ One x := by unfold oneB One; rw [decide_eq_true_iff]

set_option maxHeartbeats 1000000 in
theorem one_any (t r : Nat) (m : Int) (ht : t < 4294967296) (w : World) :
    Calls Try.prog 65 #[.agg #[.int .u32 (t : Int), .int .u8 (r : Int), .int .i64 m]] w fun e w' => e = .returned (.bool (oneB t r m)) ∧ Below w.heap.size w w' := by
  have q : (decide (1 ≤ (t : Int)) = false ∧ t = 0 ∧ oneB t r m = false) ∨ (decide (1 ≤ (t : Int)) = true ∧ 1 ≤ t ∧ decide ((t : Int) ≤ 1073741824) = false ∧ oneB t r m = false) ∨
      (decide (1 ≤ (t : Int)) = true ∧ 1 ≤ t ∧ decide ((t : Int) ≤ 1073741824) = true ∧ decide ((r : Int) < 8) = false ∧ oneB t r m = false) ∨
      (decide (1 ≤ (t : Int)) = true ∧ 1 ≤ t ∧ decide ((t : Int) ≤ 1073741824) = true ∧ decide ((r : Int) < 8) = true ∧ decide (1 ≤ m) = false ∧ oneB t r m = false) ∨
      (decide (1 ≤ (t : Int)) = true ∧ 1 ≤ t ∧ decide ((t : Int) ≤ 1073741824) = true ∧ decide ((r : Int) < 8) = true ∧ decide (1 ≤ m) = true ∧ decide (m ≤ 4096) = false ∧ oneB t r m = false) ∨
      (decide (1 ≤ (t : Int)) = true ∧ 1 ≤ t ∧ decide ((t : Int) ≤ 1073741824) = true ∧ decide ((r : Int) < 8) = true ∧ decide (1 ≤ m) = true ∧ decide (m ≤ 4096) = true ∧ (1 ≤ m ∧ m ≤ 4096) ∧ oneB t r m = decide ((t : Int) + m - 1 ≤ 1073741824)) := by
    unfold oneB
    by_cases h1 : 1 ≤ t
    · by_cases h2 : t ≤ 1073741824
      · by_cases h3 : r < 8
        · by_cases h4 : 1 ≤ m
          · by_cases h5 : m ≤ 4096
            · refine .inr (.inr (.inr (.inr (.inr ⟨decide_eq_true (by omega), h1, decide_eq_true (by omega), decide_eq_true (by omega), decide_eq_true h4, decide_eq_true h5, ⟨h4, h5⟩, ?_⟩))))
              rw [decide_eq_decide]; omega
            · exact .inr (.inr (.inr (.inr (.inl ⟨decide_eq_true (by omega), h1, decide_eq_true (by omega), decide_eq_true (by omega), decide_eq_true h4, decide_eq_false h5, decide_eq_false (by omega)⟩))))
          · exact .inr (.inr (.inr (.inl ⟨decide_eq_true (by omega), h1, decide_eq_true (by omega), decide_eq_true (by omega), decide_eq_false h4, decide_eq_false (by omega)⟩)))
        · exact .inr (.inr (.inl ⟨decide_eq_true (by omega), h1, decide_eq_true (by omega), decide_eq_false (by omega), decide_eq_false (by omega)⟩))
      · exact .inr (.inl ⟨decide_eq_true (by omega), h1, decide_eq_false (by omega), decide_eq_false (by omega)⟩)
    · exact .inl ⟨decide_eq_false (by omega), by omega, decide_eq_false (by omega)⟩
  rcases q with ⟨q1, g, h⟩ | ⟨q1, g, q2, h⟩ | ⟨q1, g, q2, q3, h⟩ | ⟨q1, g, q2, q3, q4, h⟩ | ⟨q1, g, q2, q3, q4, q5, h⟩ | ⟨q1, g, q2, q3, q4, q5, q6, h⟩
  case inr.inr.inr.inr.inr =>
    have E := Lib.hid (end_any t r m ht q6)
    have P0 := Lib.hid (Tri.keeps (tri_new w (.int .u32 (t : Int)) (.int .u8 (r : Int)) (.int .i64 m) 71) (Below.refl _ _))
    obtain ⟨z, hz⟩ : ∃ z, z = (t : Int) + m - 1 := ⟨_, rfl⟩
    rw [← hz] at E h
    rw [h]
    clear h hz q6
    cases hq : decide (z ≤ 1073741824)
    all_goals
      go_enter Try.func65, Try.ntmps65
      go_wp2_with fail
      refine (E.out _).mono ?_
      rintro e w1 ⟨rfl, b1⟩
      have hb : Below w.heap.size w w1 := ((Below.refl _ _).alloc (Nat.le_refl _) _).trans (b1.mono (by simp))
      clear b1
      go_wp2
      go_ret
      exact ⟨rfl, hb⟩
  all_goals
    rw [h]
    clear h
    go_enter Try.func65, Try.ntmps65
    go_wp2
    go_ret
    exact ⟨rfl, (Below.refl _ _).alloc (Nat.le_refl _) _⟩

theorem long_take (l : List Run) (k : Nat) (h : k < l.length) : long (l.take (k + 1)) = long (l.take k) + (l.getD k zrun).m := by
  have : ∀ (p q : List Run), long (p ++ q) = long p + long q := by
    intro p q
    induction p with
    | nil => simp [long]
    | cons x p ih => simp [long, ih]; omega
  rw [List.take_succ_eq_append_getElem h, this]
  simp [long, List.getD, List.getElem?_eq_getElem h]
/-- Runs each of which may be by itself. -/
def Ones (l : List Run) : Prop := ∀ k, k < l.length → 1 ≤ (l.getD k zrun).m ∧ (l.getD k zrun).m ≤ 4097

set_option maxHeartbeats 1000000 in
theorem long_any {v : Value} {l : List Run} {w : World} (hv : Runs w v l) (hl : l.length ≤ 1000) (h1 : Ones l) :
    Calls Try.prog 67 #[v] w fun e w' => e = .returned (.int .i64 (long l)) ∧ w = w' := by
  obtain ⟨ao, cap, rfl⟩ := hv.shape
  obtain ⟨n, hn⟩ : ∃ n, n = l.length := ⟨_, rfl⟩
  have HV := Lib.hid hv
  have HN := Lib.hid hn
  have HO := Lib.hid h1
  rw [← hn] at hl ⊢
  clear hv hn h1
  go_enter Try.func67, Try.ntmps67
  go_wp2
  go_loop [3, 4] (fun s i => ∃ (k : Nat) (z : Int), k ≤ n ∧ i = .int .i64 (k : Int) ∧ s = .int .i64 z ∧ 0 ≤ z ∧ z ≤ 4097 * (k : Int) ∧ Hid (z = long (l.take k))) (fun _ i => n - (intOf i).toNat)
  case atStart => exact ⟨0, 0, by omega, rfl, rfl, by omega, by omega, Lib.hid rfl⟩
  case round =>
    obtain ⟨k, z, hk, rfl, rfl, z0, z1, hz⟩ := hrel
    by_cases hkn : k < n
    · have q1 : decide (k < n) = true := by simpa using hkn
      obtain ⟨b, off, rfl, hb, hx0, hx1, hx2⟩ := HV.out.at k (by rw [← HN.out]; exact hkn)
      have ho := HO.out k (by rw [← HN.out]; exact hkn)
      have ht := long_take l k (by rw [← HN.out]; exact hkn)
      obtain ⟨m, hm⟩ : ∃ m, m = (l.getD k zrun).m := ⟨_, rfl⟩
      rw [← hm] at hx2 ho ht
      rw [← hz.out] at ht
      have HT := Lib.hid ht
      obtain ⟨o1, o2⟩ := ho
      have q2 : (0 : Int) ≤ (k : Int) := by omega
      have q3 : (k : Int) < (n : Int) := by omega
      have q4 : 0 ≤ z + m := by omega
      have q5 : z + m ≤ 5000000 := by omega
      clear hm ht hx0 hx1
      go_wp2
      go_round
      case rel => exact ⟨k + 1, z + m, by omega, by go_num, rfl, by omega, by omega, Lib.hid HT.out.symm⟩
      case measure => simp [intOf]; omega
    · have q1 : decide (k < n) = false := by simpa using hkn
      have hkk : l.take k = l := List.take_of_length_le (by have := HN.out; omega)
      have hz2 := hz.out
      rw [hkk] at hz2
      have HZ := Lib.hid hz2
      clear hkk hz2
      go_wp2
      go_ret
      exact ⟨by have := HZ.out; subst this; rfl, rfl⟩
end Go.Proofs.Ytelilmhnfmojkaa.Place

/- Whole numbers below 2^53 as 64-bit floats: sum, product and the way back are exact. Conditions: each number that comes up is below 2^53. -/
namespace Go.Proofs.Ytelilmhnfmojkaa.Flo
open Ieee

/-- The bits of a whole number. -/
def fl (m : Nat) : Nat := double.nearest false m 0

theorem log2_shift (k s : Nat) (hk : k ≠ 0) : (k * 2 ^ s).log2 = k.log2 + s := by
  have hp : 0 < 2 ^ s := Nat.two_pow_pos s
  have hne : k * 2 ^ s ≠ 0 := Nat.mul_ne_zero hk (by omega)
  rw [Nat.log2_eq_iff hne]
  have h1 := Nat.log2_self_le hk
  have h2 := @Nat.lt_log2_self k
  constructor
  · rw [Nat.pow_add]; exact Nat.mul_le_mul_right _ h1
  · rw [show k.log2 + s + 1 = (k.log2 + 1) + s by omega, Nat.pow_add]
    exact (Nat.mul_lt_mul_right hp).2 h2

theorem cut_whole (way : Toward) (k d : Nat) : way.cut false (k * 2 ^ d) d = k := by
  have key : ∀ g : Nat, 0 < g → k * 2 ^ d = k * g → way.cut false (k * 2 ^ d) d = k → way.cut false (k * 2 ^ d) d = k := fun _ _ _ h => h
  clear key
  by_cases hk : k = 0
  · subst hk
    cases way <;> simp [Toward.cut, Nat.shiftLeft_eq]
  · have hl := log2_shift k d hk
    have hm : min d ((k * 2 ^ d).log2 + 2) = d := by omega
    have hp : 0 < 2 ^ d := Nat.two_pow_pos d
    unfold Toward.cut
    rw [hm]
    simp only [Nat.shiftLeft_eq, Nat.one_mul, Nat.mul_div_cancel _ hp, Nat.mul_mod_left]
    cases way <;> simp

theorem least : double.leastPlace = -1074 := by decide
theorem binade_eq : double.binade = 2 ^ 52 := rfl
theorem infRung_eq : double.infRung = 2047 * 2 ^ 52 := by decide
theorem sign_eq : double.signWeight = 2 ^ 63 := rfl

/-- The rung of a whole number. -/
theorem nearest_eq (k s : Nat) (hk : k ≠ 0) (hb : k < 2 ^ 53) : double.nearest false (k * 2 ^ s) (-(s : Int)) = (k.log2 + 1022) * 2 ^ 52 + k * 2 ^ (52 - k.log2) := by
  have hp : 0 < 2 ^ s := Nat.two_pow_pos s
  have hne : k * 2 ^ s ≠ 0 := Nat.mul_ne_zero hk (by omega)
  have hL : k.log2 < 53 := (Nat.log2_lt hk).2 hb
  have hlast : max (-(s : Int) + ((k.log2 + s : Nat) : Int) - (52 : Nat)) (-1074) = (k.log2 : Int) - 52 := by omega
  have hkept : Toward.even.cut false ((k * 2 ^ s) <<< (-(s : Int) - ((k.log2 : Int) - 52)).toNat) (((k.log2 : Int) - 52) - -(s : Int)).toNat = k * 2 ^ (52 - k.log2) := by
    by_cases hs : s ≤ 52 - k.log2
    · rw [show (-(s : Int) - ((k.log2 : Int) - 52)).toNat = 52 - k.log2 - s by omega, show (((k.log2 : Int) - 52) - -(s : Int)).toNat = 0 by omega]
      have e : (k * 2 ^ s) <<< (52 - k.log2 - s) = k * 2 ^ (52 - k.log2) * 2 ^ 0 := by
        rw [Nat.shiftLeft_eq, Nat.mul_assoc, ← Nat.pow_add, show s + (52 - k.log2 - s) = 52 - k.log2 by omega]; simp
      rw [e]
      exact cut_whole .even _ 0
    · rw [show (-(s : Int) - ((k.log2 : Int) - 52)).toNat = 0 by omega, show (((k.log2 : Int) - 52) - -(s : Int)).toNat = s - (52 - k.log2) by omega]
      have e : (k * 2 ^ s) <<< 0 = k * 2 ^ (52 - k.log2) * 2 ^ (s - (52 - k.log2)) := by
        rw [Nat.shiftLeft_zero, Nat.mul_assoc k (2 ^ (52 - k.log2)), ← Nat.pow_add, show 52 - k.log2 + (s - (52 - k.log2)) = s by omega]
      rw [e]
      exact cut_whole .even _ _
  unfold Format.nearest
  rw [if_neg hne, log2_shift k s hk]
  simp only [least, show double.fractionBits = 52 from rfl]
  rw [hlast, hkept]
  have h2 : k * 2 ^ (52 - k.log2) < 2 ^ 53 := by
    have h := @Nat.lt_log2_self k
    have : k * 2 ^ (52 - k.log2) < 2 ^ (k.log2 + 1) * 2 ^ (52 - k.log2) := (Nat.mul_lt_mul_right (Nat.two_pow_pos _)).2 h
    rw [← Nat.pow_add, show k.log2 + 1 + (52 - k.log2) = 53 by omega] at this
    exact this
  generalize k * 2 ^ (52 - k.log2) = t at *
  generalize k.log2 = L at *
  rw [binade_eq, infRung_eq, show ((L : Int) - 52 - -1074).toNat = L + 1022 by omega]
  unfold Format.word
  rw [if_neg (by simp)]
  rw [Nat.min_eq_left]
  omega

theorem nearest_fl (k s : Nat) (hb : k < 2 ^ 53) : double.nearest false (k * 2 ^ s) (-(s : Int)) = fl k := by
  by_cases hk : k = 0
  · subst hk
    simp [fl, Format.nearest]
  · have h0 := nearest_eq k 0 hk hb
    simp at h0
    rw [nearest_eq k s hk hb, fl, h0]

theorem fl_0 : fl 0 = 0 := by decide

theorem read_rung (f : Format) (x : Nat) (h1 : f.binade ≤ x) (h2 : x < f.infRung) (h3 : x < f.signWeight) :
    f.read x = .number false (f.binade + x % f.binade) (f.leastPlace + ((x / f.binade - 1 : Nat) : Int)) := by
  unfold Format.read
  simp only [Nat.div_eq_of_lt h3, Nat.mod_eq_of_lt h3]
  rw [if_neg (Nat.not_lt.2 h1), if_pos h2]
  rfl

set_option exponentiation.threshold 2000 in
theorem read_fl (k : Nat) (hb : k < 2 ^ 53) : ∃ s : Nat, double.read (fl k) = .number false (k * 2 ^ s) (-(s : Int)) := by
  by_cases hk : k = 0
  · subst hk
    exact ⟨1074, by rw [fl_0, Nat.zero_mul]; decide⟩
  · have hL : k.log2 < 53 := (Nat.log2_lt hk).2 hb
    refine ⟨52 - k.log2, ?_⟩
    have h0 := nearest_eq k 0 hk hb
    simp at h0
    have hlo : 2 ^ 52 ≤ k * 2 ^ (52 - k.log2) := by
      have h := Nat.log2_self_le hk
      have : 2 ^ k.log2 * 2 ^ (52 - k.log2) ≤ k * 2 ^ (52 - k.log2) := Nat.mul_le_mul_right _ h
      rw [← Nat.pow_add, show k.log2 + (52 - k.log2) = 52 by omega] at this
      exact this
    have hhi : k * 2 ^ (52 - k.log2) < 2 ^ 53 := by
      have h := @Nat.lt_log2_self k
      have : k * 2 ^ (52 - k.log2) < 2 ^ (k.log2 + 1) * 2 ^ (52 - k.log2) := (Nat.mul_lt_mul_right (Nat.two_pow_pos _)).2 h
      rw [← Nat.pow_add, show k.log2 + 1 + (52 - k.log2) = 53 by omega] at this
      exact this
    rw [fl, h0]
    generalize k * 2 ^ (52 - k.log2) = t at *
    generalize k.log2 = L at *
    have b1 := binade_eq
    have b2 := infRung_eq
    have b3 := sign_eq
    rw [read_rung double _ (by omega) (by omega) (by omega), least, b1]
    have e3 : ((L + 1022) * 2 ^ 52 + t) % 2 ^ 52 = t - 2 ^ 52 := by omega
    have e4 : ((L + 1022) * 2 ^ 52 + t) / 2 ^ 52 = L + 1023 := by omega
    rw [e3, e4]
    have e5 : 2 ^ 52 + (t - 2 ^ 52) = t := by omega
    have e6 : (-1074 : Int) + ((L + 1023 - 1 : Nat) : Int) = -((52 - L : Nat) : Int) := by omega
    rw [e5, e6]

theorem mul_fl (a b : Nat) (ha : a < 2 ^ 53) (hb : b < 2 ^ 53) (hab : a * b < 2 ^ 53) : floatBits .mul .f64 (fl a) (fl b) = some (fl (a * b)) := by
  obtain ⟨s, hs⟩ := read_fl a ha
  obtain ⟨t, ht⟩ := read_fl b hb
  show (double.mul (fl a) (fl b)) = _
  unfold Format.mul
  rw [hs, ht]
  simp only [Datum.product, Option.map_some, Format.write, Bool.xor_self, Option.some.injEq]
  have e : a * 2 ^ s * (b * 2 ^ t) = a * b * 2 ^ (s + t) := by
    rw [Nat.pow_add]; simp only [Nat.mul_left_comm, Nat.mul_assoc]
  rw [e, show (-(s : Int) + -(t : Int)) = -((s + t : Nat) : Int) by omega]
  exact nearest_fl _ _ hab

theorem sum_num (m n : Nat) (i j : Int) : Datum.sum (.number false m i) (.number false n j) = some (.number false (m <<< (i - min i j).toNat + n <<< (j - min i j).toNat) (min i j)) := by
  show some (Datum.number (if ((m <<< (i - min i j).toNat : Nat) : Int) + ((n <<< (j - min i j).toNat : Nat) : Int) = 0 then false && false else decide (((m <<< (i - min i j).toNat : Nat) : Int) + ((n <<< (j - min i j).toNat : Nat) : Int) < 0))
    (((m <<< (i - min i j).toNat : Nat) : Int) + ((n <<< (j - min i j).toNat : Nat) : Int)).natAbs (min i j)) = _
  generalize m <<< (i - min i j).toNat = x
  generalize n <<< (j - min i j).toNat = y
  have h1 : decide ((x : Int) + (y : Int) < 0) = false := by simp; omega
  have h2 : ((x : Int) + (y : Int)).natAbs = x + y := by omega
  rw [h1, h2]
  simp

theorem up_eq (a s t : Nat) (h : s ≤ t) : (a * 2 ^ s) <<< (t - s) = a * 2 ^ t := by
  rw [Nat.shiftLeft_eq, Nat.mul_assoc, ← Nat.pow_add, show s + (t - s) = t by omega]

theorem add_fl (a b : Nat) (ha : a < 2 ^ 53) (hb : b < 2 ^ 53) (hab : a + b < 2 ^ 53) : floatBits .add .f64 (fl a) (fl b) = some (fl (a + b)) := by
  obtain ⟨s, hs⟩ := read_fl a ha
  obtain ⟨t, ht⟩ := read_fl b hb
  show (double.add (fl a) (fl b)) = _
  unfold Format.add
  rw [hs, ht]
  rw [sum_num]
  have e1 : (-(s : Int) - min (-(s : Int)) (-(t : Int))).toNat = max s t - s := by omega
  have e2 : (-(t : Int) - min (-(s : Int)) (-(t : Int))).toNat = max s t - t := by omega
  rw [e1, e2, up_eq a s _ (by omega), up_eq b t _ (by omega), ← Nat.add_mul, show min (-(s : Int)) (-(t : Int)) = -((max s t : Nat) : Int) by omega]
  simp only [Option.map_some, Format.write, Option.some.injEq]
  exact nearest_fl _ _ hab

theorem toInt_fl (a : Nat) (ha : a < 2 ^ 53) : (FloatKind.f64.decode (fl a)).toInt .zero = some (a : Int) := by
  obtain ⟨s, hs⟩ := read_fl a ha
  show (double.read (fl a)).toInt .zero = _
  rw [hs]
  simp only [Datum.toInt, Datum.integral]
  rw [show (-(s : Int)).toNat = 0 by omega, show (- -(s : Int)).toNat = s by omega, Nat.shiftLeft_zero, cut_whole]
  simp [signed]

theorem intVal_fl (a : Nat) (ha : a < 2 ^ 53) : floatToIntVal .f64 (fl a) .i64 = some (a : Int) := by
  unfold floatToIntVal
  rw [toInt_fl a ha]
  have h1 : IntKind.i64.min = -9223372036854775808 := rfl
  have h2 : IntKind.i64.max = 9223372036854775807 := rfl
  have h3 : (2 : Nat) ^ 53 = 9007199254740992 := rfl
  simp only [h1, h2]
  rw [if_pos (by omega)]

theorem ofInt_fl (a : Nat) : floatOfInt .f64 (a : Int) = fl a := by
  show double.nearest (decide ((a : Int) < 0)) (a : Int).natAbs 0 = _
  rw [show decide ((a : Int) < 0) = false by simp, Int.natAbs_natCast]
  rfl

theorem fl_1 : fl 1 = 4607182418800017408 := by decide
theorem fl_128 : fl 128 = 4638707616191610880 := by decide
end Go.Proofs.Ytelilmhnfmojkaa.Flo

/- Whole numbers below 2^53 as 64-bit floats: how two stand to each other, and the way back to other kinds. Conditions: each number is below 2^53. -/
namespace Go.Proofs.Ytelilmhnfmojkaa.Flo
open Ieee

theorem order_fl (a b : Nat) (ha : a < 2 ^ 53) (hb : b < 2 ^ 53) : FloatKind.f64.format.order (fl a) (fl b) = some (compare a b) := by
  obtain ⟨s, hs⟩ := read_fl a ha
  obtain ⟨t, ht⟩ := read_fl b hb
  show (double.read (fl a)).order (double.read (fl b)) = _
  rw [hs, ht]
  show some (compare (((a * 2 ^ s) <<< (-(s : Int) - min (-(s : Int)) (-(t : Int))).toNat : Nat) : Int) (((b * 2 ^ t) <<< (-(t : Int) - min (-(s : Int)) (-(t : Int))).toNat : Nat) : Int)) = _
  have e1 : (-(s : Int) - min (-(s : Int)) (-(t : Int))).toNat = max s t - s := by omega
  have e2 : (-(t : Int) - min (-(s : Int)) (-(t : Int))).toNat = max s t - t := by omega
  rw [e1, e2, up_eq a s _ (by omega), up_eq b t _ (by omega)]
  have hp : 0 < 2 ^ max s t := Nat.two_pow_pos _
  generalize 2 ^ max s t = g at hp
  congr 1
  have h1 : compare a b = compareOfLessAndEq a b := rfl
  have h2 : compare ((a * g : Nat) : Int) ((b * g : Nat) : Int) = compareOfLessAndEq ((a * g : Nat) : Int) ((b * g : Nat) : Int) := rfl
  rw [h1, h2]
  unfold compareOfLessAndEq
  by_cases hlt : a < b
  · have h : a * g < b * g := (Nat.mul_lt_mul_right hp).2 hlt
    rw [if_pos hlt, if_pos (by omega)]
  · have h : ¬ (a * g < b * g) := fun h => hlt ((Nat.mul_lt_mul_right hp).1 h)
    rw [if_neg hlt, if_neg (by omega)]
    by_cases he : a = b
    · subst he; rw [if_pos rfl, if_pos rfl]
    · have h : ¬ (a * g = b * g) := fun h => he (Nat.eq_of_mul_eq_mul_right hp h)
      rw [if_neg he, if_neg (by omega)]

theorem eq_fl (a b : Nat) (ha : a < 2 ^ 53) (hb : b < 2 ^ 53) : (FloatKind.f64.format.order (fl a) (fl b) == some .eq) = decide (a = b) := by
  rw [order_fl a b ha hb]
  have h1 : compare a b = compareOfLessAndEq a b := rfl
  rw [h1]
  unfold compareOfLessAndEq
  by_cases hlt : a < b
  · rw [if_pos hlt, decide_eq_false (by omega)]; rfl
  · rw [if_neg hlt]
    by_cases he : a = b
    · rw [if_pos he, decide_eq_true he]; rfl
    · rw [if_neg he, decide_eq_false he]; rfl
theorem lt_fl (a b : Nat) (ha : a < 2 ^ 53) (hb : b < 2 ^ 53) : (FloatKind.f64.format.order (fl a) (fl b) == some .lt) = decide (a < b) := by
  rw [order_fl a b ha hb]
  have h1 : compare a b = compareOfLessAndEq a b := rfl
  rw [h1]
  unfold compareOfLessAndEq
  by_cases hlt : a < b
  · rw [if_pos hlt, decide_eq_true hlt]; rfl
  · rw [if_neg hlt, decide_eq_false hlt]
    by_cases he : a = b
    · rw [if_pos he]; rfl
    · rw [if_neg he]; rfl
theorem gt_fl (a b : Nat) (ha : a < 2 ^ 53) (hb : b < 2 ^ 53) : (FloatKind.f64.format.order (fl a) (fl b) == some .gt) = decide (b < a) := by
  rw [order_fl a b ha hb]
  have h1 : compare a b = compareOfLessAndEq a b := rfl
  rw [h1]
  unfold compareOfLessAndEq
  by_cases hlt : a < b
  · rw [if_pos hlt, decide_eq_false (by omega)]; rfl
  · rw [if_neg hlt]
    by_cases he : a = b
    · rw [if_pos he, decide_eq_false (by omega)]; rfl
    · rw [if_neg he, decide_eq_true (by omega)]; rfl

theorem intVal_u32 (a : Nat) (ha : a < 4294967296) : floatToIntVal .f64 (fl a) .u32 = some (a : Int) := by
  unfold floatToIntVal
  rw [toInt_fl a (by omega)]
  have h1 : IntKind.u32.min = 0 := rfl
  have h2 : IntKind.u32.max = 4294967295 := rfl
  simp only [h1, h2]
  rw [if_pos (by omega)]
theorem intVal_u8 (a : Nat) (ha : a < 256) : floatToIntVal .f64 (fl a) .u8 = some (a : Int) := by
  unfold floatToIntVal
  rw [toInt_fl a (by omega)]
  have h1 : IntKind.u8.min = 0 := rfl
  have h2 : IntKind.u8.max = 255 := rfl
  simp only [h1, h2]
  rw [if_pos (by omega)]
theorem fl_30 : fl 1073741824 = 4742290407621132288 := by decide
end Go.Proofs.Ytelilmhnfmojkaa.Flo

/- octavo/stamp: underWay, above, told, Check, Less: what each answers. Conditions: the numbers fit their kinds. -/
namespace Go.Proofs.Ytelilmhnfmojkaa.Stamp
open Go.RowKit Flo

theorem ret_tuple {a b : Value} (h : a = b) : Ending.returned a = .returned b := by rw [h]

theorem check_any (t r : Nat) (w : World) :
    Calls Try.prog 54 #[.agg #[.int .u32 (t : Int), .int .u8 (r : Int)]] w fun e w' => e = .returned (.int .i64 (chk t r)) ∧ Below w.heap.size w w' := by
  have q : (decide ((t : Int) < 1) = true ∧ chk t r = 8) ∨ (decide ((t : Int) < 1) = false ∧ decide ((1073741824 : Int) < (t : Int)) = true ∧ chk t r = 8) ∨
      (decide ((t : Int) < 1) = false ∧ decide ((1073741824 : Int) < (t : Int)) = false ∧ decide ((8 : Int) ≤ (r : Int)) = true ∧ chk t r = 8) ∨
      (decide ((t : Int) < 1) = false ∧ decide ((1073741824 : Int) < (t : Int)) = false ∧ decide ((8 : Int) ≤ (r : Int)) = false ∧ chk t r = 0) := by
    unfold chk
    by_cases h1 : t < 1
    · exact .inl ⟨decide_eq_true (by omega), if_neg (by rw [may_iff]; omega)⟩
    · by_cases h2 : 1073741824 < t
      · exact .inr (.inl ⟨decide_eq_false (by omega), decide_eq_true (by omega), if_neg (by rw [may_iff]; omega)⟩)
      · by_cases h3 : 8 ≤ r
        · exact .inr (.inr (.inl ⟨decide_eq_false (by omega), decide_eq_false (by omega), decide_eq_true (by omega), if_neg (by rw [may_iff]; omega)⟩))
        · exact .inr (.inr (.inr ⟨decide_eq_false (by omega), decide_eq_false (by omega), decide_eq_false (by omega), if_pos (by rw [may_iff]; omega)⟩))
  rcases q with ⟨q1, h⟩ | ⟨q1, q2, h⟩ | ⟨q1, q2, q3, h⟩ | ⟨q1, q2, q3, h⟩
  all_goals
    rw [h]
    clear h
    go_enter Try.func54, Try.ntmps54
    go_wp2
    go_ret
    exact ⟨rfl, (Below.refl _ _).alloc (Nat.le_refl _) _⟩

theorem check_yes (t r : Nat) (h : may t r = true) (w : World) : Calls Try.prog 54 #[.agg #[.int .u32 (t : Int), .int .u8 (r : Int)]] w fun e w' => e = .returned (.int .i64 0) ∧ Below w.heap.size w w' := by
  have := check_any t r w
  rwa [chk, if_pos h] at this
theorem check_no (t r : Nat) (h : may t r = false) (w : World) : Calls Try.prog 54 #[.agg #[.int .u32 (t : Int), .int .u8 (r : Int)]] w fun e w' => e = .returned (.int .i64 8) ∧ Below w.heap.size w w' := by
  have := check_any t r w
  rwa [chk, if_neg (by rw [h]; simp)] at this

theorem keepS {H : Nat} {w w1 w2 : World} {c0 c1 c2 c3 : Value} (h : Below w1.heap.size w1 w2) (hb : Below H w w1) (hs : H + 2 ≤ w1.heap.size) (h0 : w1.cell? ⟨H, 0, none⟩ = some c0) (h1 : w1.cell? ⟨H, 1, none⟩ = some c1)
    (h2 : w1.cell? ⟨H + 1, 0, none⟩ = some c2) (h3 : w1.cell? ⟨H + 1, 1, none⟩ = some c3) :
    Below H w w2 ∧ H + 2 ≤ w2.heap.size ∧ w2.cell? ⟨H, 0, none⟩ = some c0 ∧ w2.cell? ⟨H, 1, none⟩ = some c1 ∧ w2.cell? ⟨H + 1, 0, none⟩ = some c2 ∧ w2.cell? ⟨H + 1, 1, none⟩ = some c3 :=
  ⟨hb.trans (h.mono (by omega)), Nat.le_trans hs h.size, (h.cell (p := ⟨H, 0, none⟩) (by show H < _; omega)).trans h0, (h.cell (p := ⟨H, 1, none⟩) (by show H < _; omega)).trans h1, (h.cell (p := ⟨H + 1, 0, none⟩) (by show H + 1 < _; omega)).trans h2, (h.cell (p := ⟨H + 1, 1, none⟩) (by show H + 1 < _; omega)).trans h3⟩
theorem keepSd {H : Nat} {w w1 : World} {c0 c1 c2 c3 : Value} (hb : Below H w w1) (hs : H + 2 ≤ w1.heap.size) (h0 : w1.cell? ⟨H, 0, none⟩ = some c0) (h1 : w1.cell? ⟨H, 1, none⟩ = some c1)
    (h2 : w1.cell? ⟨H + 1, 0, none⟩ = some c2) (h3 : w1.cell? ⟨H + 1, 1, none⟩ = some c3) :
    Below H w w1.drew ∧ H + 2 ≤ w1.drew.heap.size ∧ w1.drew.cell? ⟨H, 0, none⟩ = some c0 ∧ w1.drew.cell? ⟨H, 1, none⟩ = some c1 ∧ w1.drew.cell? ⟨H + 1, 0, none⟩ = some c2 ∧ w1.drew.cell? ⟨H + 1, 1, none⟩ = some c3 :=
  ⟨hb.drew, hs, h0, h1, h2, h3⟩
theorem keepS0 (w : World) (c0 c1 c2 c3 : Value) (e : TypeId) :
    Below w.heap.size w ((w.alloc (.cells #[c0, c1] e)).alloc (.cells #[c2, c3] e)) ∧ w.heap.size + 2 ≤ ((w.alloc (.cells #[c0, c1] e)).alloc (.cells #[c2, c3] e)).heap.size ∧ ((w.alloc (.cells #[c0, c1] e)).alloc (.cells #[c2, c3] e)).cell? ⟨w.heap.size, 0, none⟩ = some c0 ∧ ((w.alloc (.cells #[c0, c1] e)).alloc (.cells #[c2, c3] e)).cell? ⟨w.heap.size, 1, none⟩ = some c1 ∧ ((w.alloc (.cells #[c0, c1] e)).alloc (.cells #[c2, c3] e)).cell? ⟨w.heap.size + 1, 0, none⟩ = some c2 ∧ ((w.alloc (.cells #[c0, c1] e)).alloc (.cells #[c2, c3] e)).cell? ⟨w.heap.size + 1, 1, none⟩ = some c3 := by
  have hb : Below (w.alloc (.cells #[c0, c1] e)).heap.size (w.alloc (.cells #[c0, c1] e)) ((w.alloc (.cells #[c0, c1] e)).alloc (.cells #[c2, c3] e)) := (Below.refl _ _).alloc (Nat.le_refl _) _
  refine ⟨((Below.refl _ _).alloc (Nat.le_refl _) _).alloc (by simp) _, by simp, ?_, ?_, ?_, ?_⟩
  · exact (hb.cell (p := ⟨w.heap.size, 0, none⟩) (by simp)).trans (cell_of_row _ w.heap.size 0 #[c0, c1] e _ (heap_alloc_new w _))
  · exact (hb.cell (p := ⟨w.heap.size, 1, none⟩) (by simp)).trans (cell_of_row _ w.heap.size 1 #[c0, c1] e _ (heap_alloc_new w _))
  · simp
  · simp

end Go.Proofs.Ytelilmhnfmojkaa.Stamp

/- octavo/stamp.Next: what it answers. Conditions: the slice's cells are stamps. -/
namespace Go.Proofs.Ytelilmhnfmojkaa.Stamp
open Go.RowKit Flo

/-- A block of two cells, behind calls that write nothing that was there. -/
theorem two_cells {w w2 : World} {c0 c1 : Value} {e : TypeId} (h : Below (w.alloc (.cells #[c0, c1] e)).heap.size (w.alloc (.cells #[c0, c1] e)) w2) :
    w2.cell? ⟨w.heap.size, 0, none⟩ = some c0 ∧ w2.cell? ⟨w.heap.size, 1, none⟩ = some c1 ∧ w2.frozen? ⟨w.heap.size, 0, none⟩ = false ∧ w2.frozen? ⟨w.heap.size, 1, none⟩ = false := by
  have hh : w2.heap[w.heap.size]? = some (.cells #[c0, c1] e (0, 0)) := (h.block w.heap.size (by simp)).trans (heap_alloc_new w _)
  refine ⟨cell_of_row _ w.heap.size 0 #[c0, c1] e _ hh, cell_of_row _ w.heap.size 1 #[c0, c1] e _ hh, ?_, ?_⟩
  · simp [World.frozen?, hh]
  · simp [World.frozen?, hh]

theorem step3 {w1 w2 w3 : World} {o : Obj} (h : Below w1.heap.size w1 w2) (h3 : Below (w2.alloc o).heap.size (w2.alloc o) w3) : Below w1.heap.size w1 w3 :=
  (h.alloc h.size o).trans (h3.mono (by have := h.size; simp; omega))
theorem below_of3 {w w3 : World} {o : Obj} (h : Below (w.alloc o).heap.size (w.alloc o) w3) : Below w.heap.size w w3 :=
  ((Below.refl _ _).alloc (Nat.le_refl _) o).trans (h.mono (by simp))

theorem set2 {w w3 : World} {o : Obj} {c0 c1 : Value} (h : Below (w.alloc o).heap.size (w.alloc o) w3) : Below w.heap.size w ((w3.setCell ⟨w.heap.size, 0, none⟩ c0).setCell ⟨w.heap.size, 1, none⟩ c1) :=
  ((below_of3 h).setCell (p := ⟨w.heap.size, 0, none⟩) (Nat.le_refl _) _).setCell (p := ⟨w.heap.size, 1, none⟩) (Nat.le_refl _) _

end Go.Proofs.Ytelilmhnfmojkaa.Stamp
