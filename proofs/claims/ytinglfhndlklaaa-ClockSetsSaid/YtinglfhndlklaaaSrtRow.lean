/- A row of 32-bit numbers of the call's own, put in order where it stands: its cells; cmp.Less. Conditions: none. -/
import Derived.Test.YtinglfhndlklaaaSrtMath
import Derived.Test.YtinglfhndlklaaaCells
import Derived.WalkKit
import Derived.WalkSpells
import Derived.WalkLawsBesides
import Derived.RegionTactic
import Derived.Deep.DrawnRows
import Derived.Deep.QuietTactic
import Derived.BigQuiet
import Derived.Deep.DeepCutAuto
import Derived.IntWalk
namespace Go.Proofs.Ytinglfhndlklaaa.Srt
open Go.RowKit

def us (xs : List Nat) : List Value := xs.map fun (x : Nat) => .int .u32 (x : Int)
theorem us_len (xs : List Nat) : (us xs).length = xs.length := by simp [us]
theorem us_get (xs : List Nat) (j : Nat) (h : j < xs.length) : (us xs)[j]? = some (.int .u32 ((xs.getD j 0 : Nat) : Int)) := by
  simp [us, List.getD, List.getElem?_eq_getElem h]
theorem us_set (xs : List Nat) (k v : Nat) : us (xs.set k v) = (us xs).set k (.int .u32 (v : Int)) := by simp [us, List.map_set]
theorem us_append (xs ys : List Nat) : us (xs ++ ys) = us xs ++ us ys := by simp [us]
theorem us_oneCell (xs : List Nat) : ∀ u ∈ us xs, u.oneCell' = true := by
  intro u hu
  obtain ⟨x, _, rfl⟩ := List.mem_map.1 hu
  rfl
/-- The row. -/
def Row (w : World) (B g n cap : Nat) (xs : List Nat) : Prop := w.ownsRow B 30 1 (.slice (some ⟨g, 0, none⟩) n cap) n (us xs)
theorem Row.len {w : World} {B g n cap : Nat} {xs : List Nat} (h : Row w B g n cap xs) : xs.length = n := by
  have := h.1
  rw [us_len] at this
  omega
theorem Row.cell {w : World} {B g n cap : Nat} {xs : List Nat} (h : Row w B g n cap xs) (k : Nat) (hk : k < n) : w.cell? ⟨g, k, none⟩ = some (.int .u32 ((xs.getD k 0 : Nat) : Int)) := by
  have := World.ownsRow.cellAt h k (by omega)
  rw [this]
  exact us_get xs k (by rw [h.len]; exact hk)
theorem Row.free {w : World} {B g n cap : Nat} {xs : List Nat} (h : Row w B g n cap xs) (k : Nat) : w.frozen? ⟨g, k, none⟩ = false := World.ownsRow.frozenAt h k
theorem Row.lt {w : World} {B g n cap : Nat} {xs : List Nat} (h : Row w B g n cap xs) : g < w.heap.size := (World.ownsRow.lt h g rfl).2
theorem Row.base {w : World} {B g n cap : Nat} {xs : List Nat} (h : Row w B g n cap xs) : B ≤ g := (World.ownsRow.lt h g rfl).1
theorem Row.max {w : World} {B g n cap : Nat} {xs : List Nat} (h : Row w B g n cap xs) : n ≤ 9223372036854775807 := Sees.max (Sees.own h)
theorem Row.draw {w : World} {B g n cap : Nat} {xs : List Nat} (h : Row w B g n cap xs) (k : Nat) : Row (w.drewN k) B g n cap xs := h
theorem Row.keeps {w w' : World} {B g n cap : Nat} {xs : List Nat} (h : Row w B g n cap xs) (hb : Below w.heap.size w w') : Row w' B g n cap xs := own_stays h hb
theorem Row.other {w w' : World} {B g h n cap : Nat} {xs : List Nat} (hr : Row w B g n cap xs) (hg : w.grownBy w' (some h)) (hne : g ≠ h) : Row w' B g n cap xs :=
  World.ownsRow.kept hr hg (.inr (fun e => hne (by simpa [Value.ownBlock] using e)))
theorem grown_tr {a b c : World} {row : Option Nat} (h : a.grownBy b row) (k : b.grownBy c row) : a.grownBy c row :=
  ⟨k.os.trans h.os, k.tape.trans h.tape, k.output.trans h.output, Nat.le_trans h.size k.size, fun i hi hr => (k.block i (Nat.lt_of_lt_of_le hi h.size) hr).trans (h.block i hi hr)⟩
theorem grown_draw {a b : World} {row : Option Nat} (h : a.grownBy b row) (k : Nat) : a.grownBy (b.drewN k) row := ⟨h.os, h.tape, h.output, h.size, h.block⟩
theorem grown_of {w w' : World} (h : Below w.heap.size w w') (row : Option Nat) : w.grownBy w' row := ⟨h.os, h.tape, h.output, h.size, fun i hi _ => h.block i hi⟩
/-- Behind the first store of an exchange the other place still holds what it held, or what was just laid there, which is the same. -/
theorem Row.sec {w : World} {B g n cap : Nat} {xs : List Nat} (h : Row w B g n cap xs) (i j : Nat) (hi : i < n) (hj : j < n) :
    (w.setCell ⟨g, i, none⟩ (.int .u32 ((xs.getD j 0 : Nat) : Int))).cell? ⟨g, j, none⟩ = some (.int .u32 ((xs.getD j 0 : Nat) : Int)) ∧ (w.setCell ⟨g, i, none⟩ (.int .u32 ((xs.getD j 0 : Nat) : Int))).frozen? ⟨g, j, none⟩ = false := by
  have h1 : Row (w.setCell ⟨g, i, none⟩ (.int .u32 ((xs.getD j 0 : Nat) : Int))) B g n cap (xs.set i (xs.getD j 0)) := by
    have h2 := (World.ownsRow.stored h i (.int .u32 ((xs.getD j 0 : Nat) : Int))).1
    rw [← us_set] at h2
    exact h2
  refine ⟨?_, h1.free j⟩
  rw [h1.cell j hj]
  have hl := h.len
  simp only [List.getD, List.getElem?_set]
  by_cases e : i = j
  · subst e
    simp [hl, hi]
  · rw [if_neg e]
/-- Two exchanged. -/
theorem Row.ex {w : World} {B g n cap : Nat} {xs : List Nat} (h : Row w B g n cap xs) (i j : Nat) :
    Row ((w.setCell ⟨g, i, none⟩ (.int .u32 ((xs.getD j 0 : Nat) : Int))).setCell ⟨g, j, none⟩ (.int .u32 ((xs.getD i 0 : Nat) : Int))) B g n cap (ex xs i j) ∧
      w.grownBy ((w.setCell ⟨g, i, none⟩ (.int .u32 ((xs.getD j 0 : Nat) : Int))).setCell ⟨g, j, none⟩ (.int .u32 ((xs.getD i 0 : Nat) : Int))) (some g) := by
  have h1 := World.ownsRow.stored h i (.int .u32 ((xs.getD j 0 : Nat) : Int))
  have h2 := World.ownsRow.stored h1.1 j (.int .u32 ((xs.getD i 0 : Nat) : Int))
  refine ⟨?_, grown_tr h1.2 h2.2⟩
  show World.ownsRow _ _ _ _ _ _ _
  unfold Srt.ex
  rw [us_set, us_set]
  exact h2.1

theorem nan_no (x : Nat) (w : World) : Calls Try.prog 108 #[.int .u32 (x : Int)] w fun e w' => e = .returned (.bool false) ∧ w' = w := by
  go_enter Try.func108, Try.ntmps108
  go_wp2
  go_ret
  exact ⟨by simp, rfl⟩
theorem less_any (x y : Nat) (w : World) : Calls Try.prog 98 #[.int .u32 (x : Int), .int .u32 (y : Int)] w fun e w' => e = .returned (.bool (decide (x < y))) ∧ w' = w := by
  have N := Lib.hid (nan_no x)
  by_cases h : x < y
  · have t1 : decide ((x : Int) < (y : Int)) = true := decide_eq_true (by omega)
    have t2 : decide (x < y) = true := decide_eq_true h
    rw [t2]
    go_enter Try.func98, Try.ntmps98
    go_wp2_with fail
    refine (N.out _).mono ?_
    rintro e w1 ⟨rfl, rfl⟩
    go_wp2
    go_ret
    exact ⟨rfl, rfl⟩
  · have t1 : decide ((x : Int) < (y : Int)) = false := decide_eq_false (by omega)
    have t2 : decide (x < y) = false := decide_eq_false h
    rw [t2]
    go_enter Try.func98, Try.ntmps98
    go_wp2_with fail
    refine (N.out _).mono ?_
    rintro e w1 ⟨rfl, rfl⟩
    go_wp2
    go_ret
    exact ⟨rfl, rfl⟩
theorem less_is {x y : Nat} {b : Bool} (h : decide (x < y) = b) (w : World) : Calls Try.prog 98 #[.int .u32 (x : Int), .int .u32 (y : Int)] w fun e w' => e = .returned (.bool b) ∧ w' = w := by
  rw [← h]; exact less_any x y w
end Go.Proofs.Ytinglfhndlklaaa.Srt
