/- The laws' helpers of layer 7: of, adds, spoil, alive. Conditions: the slices' cells are numbers, spans. -/
import Derived.Test.YtefamdajblingaaSpanFn
import Derived.Deep.RegionHeld3
namespace Go.Proofs.Ytefamdajblingaa.Spans
open Go.RowKit
attribute [local go_sem ↓] Go.wp_at_zero Go.wp_at_succ

/-- Numbers as cells; a slice of them. -/
def us (xs : List Nat) : List Value := xs.map fun (x : Nat) => .int .u32 (x : Int)
def Us (w : World) (v : Value) (xs : List Nat) : Prop := Sees w v 1 xs.length (us xs)
theorem us_len (xs : List Nat) : (us xs).length = xs.length := by simp [us]
theorem us_get (xs : List Nat) (j : Nat) (h : j < xs.length) : (us xs)[j]? = some (.int .u32 ((xs.getD j 0 : Nat) : Int)) := by
  simp [us, List.getD, List.getElem?_eq_getElem h]
theorem Us.keeps {w w' : World} {v : Value} {l : List Nat} (h : Us w v l) (hb : Below w.heap.size w w') : Us w' v l := Sees.keeps h hb
theorem Us.shape {w : World} {v : Value} {l : List Nat} (h : Us w v l) : ∃ ao cap, v = .slice ao l.length cap := Sees.shape h
theorem Us.at {w : World} {ao : Option Addr} {m cap : Nat} {l : List Nat} (h : Us w (.slice ao m cap) l) (k : Nat) (hk : k < l.length) :
    ∃ b off, ao = some ⟨b, off, none⟩ ∧ b < w.heap.size ∧ w.cell? ⟨b, off + k, none⟩ = some (.int .u32 ((l.getD k 0 : Nat) : Int)) := by
  obtain ⟨b, off, h1, h2, h3⟩ := Sees.at h k (by rwa [us_len])
  exact ⟨b, off, h1, h2, (h3 k (by rwa [us_len])).trans (us_get l k hk)⟩
theorem us_lit (W : World) (l : List Nat) (cs : Array Value) (e : TypeId) (n g : Nat) (h : us l = cs.toList) (hn : n = l.length) (hl : n ≤ 1000) (hg : W.heap.size = g) : Us (W.alloc (.cells cs e)) (.slice (some ⟨g, 0, none⟩) n n) l := by
  subst hg hn
  have := sees_new W (us l) 1 l.length (by rw [us_len]; omega) (by omega) e (0, 0)
  show Sees _ _ 1 l.length (us l)
  rw [h] at this ⊢
  simpa using this
/-- Numbers two by two, as spans. -/
def pairs : List Nat → List Sp
  | a :: b :: l => mk a b :: pairs l
  | _ => []
theorem pairs_len : ∀ l : List Nat, (pairs l).length = l.length / 2
  | [] => rfl
  | [_] => by simp [pairs]
  | a :: b :: l => by simp only [pairs, List.length_cons, pairs_len l]; omega
theorem pairs_take : ∀ (l : List Nat) (k : Nat), 2 * k + 1 < l.length → pairs (l.take (2 * k + 2)) = pairs (l.take (2 * k)) ++ [mk (l.getD (2 * k) 0) (l.getD (2 * k + 1) 0)]
  | [], k, h => by simp at h
  | [_], k, h => by simp at h
  | a :: b :: l, 0, _ => by simp [pairs]
  | a :: b :: l, k + 1, h => by
    have ih := pairs_take l k (by simp at h; omega)
    rw [show 2 * (k + 1) + 2 = (2 * k + 2) + 1 + 1 by omega, show 2 * (k + 1) = 2 * k + 1 + 1 by omega]
    simp only [List.take_succ_cons, pairs, List.getD_cons_succ, List.cons_append]
    rw [ih]
theorem pairs_all (l : List Nat) (k : Nat) (h : l.length ≤ 2 * k + 1) (h2 : 2 * k ≤ l.length) : pairs (l.take (2 * k)) = pairs l := by
  have : ∀ (l : List Nat) (k : Nat), l.length ≤ 2 * k + 1 → 2 * k ≤ l.length → pairs (l.take (2 * k)) = pairs l := by
    intro l
    induction l using pairs.induct with
    | case1 a b l ih =>
      intro k h1 h2
      cases k with
      | zero => simp at h1
      | succ k =>
        rw [show 2 * (k + 1) = 2 * k + 1 + 1 by omega]
        simp only [List.take_succ_cons, pairs]
        rw [ih k (by simp at h1; omega) (by simp at h2; omega)]
    | case2 l h =>
      intro k h1 h2
      match l, h with
      | [], _ => simp
      | [x], _ =>
        have : k = 0 := by simp at h2; omega
        subst this
        simp [pairs]
      | a :: b :: l, h => exact absurd rfl (h a b l)
  exact this l k h h2

theorem kb_drew {X : World} {g : Nat} {o : Obj} (h : X.heap[g]? = some o) : X.drew.heap[g]? = some o := h
theorem hold1 {α β : Prop} (f : α → β) (h : α) : β := f h
theorem keepU {wl w2 : World} {b o1 o2 : Nat} {c1 c2 : Value} (q : b < wl.heap.size ∧ wl.cell? ⟨b, o1, none⟩ = some c1 ∧ wl.cell? ⟨b, o2, none⟩ = some c2) (h : Below wl.heap.size wl w2) :
    Below wl.heap.size wl w2 ∧ w2.cell? ⟨b, o1, none⟩ = some c1 ∧ w2.cell? ⟨b, o2, none⟩ = some c2 :=
  ⟨h, (h.cell (p := ⟨b, o1, none⟩) q.1).trans q.2.1, (h.cell (p := ⟨b, o2, none⟩) q.1).trans q.2.2⟩
set_option maxRecDepth 100000 in
set_option maxHeartbeats 4000000 in
theorem of_any {v : Value} {xs : List Nat} {w : World} (hv : Us w v xs) (hb : ∀ x ∈ xs, x < 4294967296) (hl : xs.length ≤ 1000) :
    Calls Try.prog 9 #[v] w fun e w' => ∃ v', e = .returned v' ∧ w'.ownsRow w.heap.size 31 2 v' (pairs xs).length (sps (pairs xs)) ∧ Below w.heap.size w w' := by
  obtain ⟨ao, cap, rfl⟩ := hv.shape
  obtain ⟨n, hn⟩ : ∃ n, n = xs.length := ⟨_, rfl⟩
  have HV := Lib.hid hv
  have HN := Lib.hid hn
  have HB := Lib.hid hb
  rw [← hn] at hl ⊢
  clear hv hn hb
  go_enter Try.func9, Try.ntmps9
  go_wp2
  go_loopw [3, 4] (fun o i wr => ∃ k : Nat, 2 * k ≤ n ∧ i = .int .i64 ((2 * k : Nat) : Int) ∧ Hid (wr.ownsRow w.heap.size 31 2 o (pairs (xs.take (2 * k))).length (sps (pairs (xs.take (2 * k))))) ∧ Hid (Below w.heap.size w wr)) (fun _ i _ => n - (intOf i).toNat)
  case atStart => exact ⟨0, by omega, rfl, Lib.hid (World.ownsRow_nil _ _ _ _), Lib.hid (Below.refl _ _)⟩
  case round =>
    obtain ⟨k, hk, rfl, hown, hbel⟩ := hrel
    obtain ⟨i, hi⟩ : ∃ i, i = 2 * k := ⟨_, rfl⟩
    rw [← hi] at hk hown ⊢
    have HI := Lib.hid hi
    obtain ⟨j, hj⟩ : ∃ j, j = i + 1 := ⟨_, rfl⟩
    have HJ := Lib.hid hj
    have j1 : (i : Int) + 1 = (j : Int) := by omega
    clear hi hj
    by_cases hkn : j < n
    · have q1 : decide ((j : Int) < (n : Int)) = true := decide_eq_true (by omega)
      have q1' : decide (j < n) = true := decide_eq_true hkn
      obtain ⟨b, off, rfl, hbb, hx0⟩ := HV.out.at i (by rw [← HN.out]; omega)
      obtain ⟨b', off', he, _, hx1⟩ := HV.out.at j (by rw [← HN.out]; omega)
      obtain ⟨rfl, rfl⟩ : b = b' ∧ off = off' := by simpa using he
      have hpt := pairs_take xs k (by rw [← HN.out]; have := HI.out; omega)
      rw [← HI.out, show i + 2 = j + 1 by have := HJ.out; omega, show i + 1 = j by have := HJ.out; omega] at hpt
      obtain ⟨x, hx⟩ : ∃ x, x = xs.getD i 0 := ⟨_, rfl⟩
      obtain ⟨y, hy⟩ : ∃ y, y = xs.getD j 0 := ⟨_, rfl⟩
      have hxb : x < 4294967296 := by rw [hx, List.getD, List.getElem?_eq_getElem (show i < xs.length by rw [← HN.out]; omega)]; exact HB.out _ (List.getElem_mem _)
      have hyb : y < 4294967296 := by rw [hy, List.getD, List.getElem?_eq_getElem (show j < xs.length by rw [← HN.out]; omega)]; exact HB.out _ (List.getElem_mem _)
      rw [← hx] at hx0 hpt
      rw [← hy] at hx1 hpt
      obtain ⟨D, hD⟩ : ∃ D, D = pairs (xs.take i) := ⟨_, rfl⟩
      have hdl : D.length ≤ i := by rw [hD, pairs_len, List.length_take]; omega
      rw [← hD] at hown hpt
      have HPT := Lib.hid hpt
      have XQ := Lib.hid (And.intro hbb (And.intro hx0 hx1))
      have HXY := Lib.hid (And.intro (congrArg Nat.cast (mk_f (t := y) hxb).symm : (x : Int) = ((mk x y).f : Int)) (congrArg Nat.cast (mk_t (f := x) hyb).symm : (y : Int) = ((mk x y).t : Int)))
      have j2 : IntKind.i64.wrap (j : Int) = (j : Int) := IntWalk.i64_in _ (by omega)
      have i2 : (0 : Int) ≤ (i : Int) := by omega
      have i3 : (i : Int) < (n : Int) := by omega
      have i4 : (0 : Int) ≤ (j : Int) := by omega
      have i5 : (j : Int) < (n : Int) := by omega
      have hsz : w.heap.size ≤ wr.heap.size := hbel.out.size
      have hbw : Below w.heap.size w wr := hbel.out
      clear hx hy hpt hD he hx0 hx1 hbb
      go_wp2_with fail
      go_region_held3 (fun w' => Below w.heap.size w w' ∧ w'.cell? ⟨b, off + i, none⟩ = some (.int .u32 (x : Int)) ∧ w'.cell? ⟨b, off + j, none⟩ = some (.int .u32 (y : Int)))
        (first | (go_split_ands; refine keepU XQ.out ?_; repeat' (first | assumption | exact Below.refl _ _ | (with_reducible refine Below.drew ?_) | (with_reducible refine below_draw ?_ _) | (with_reducible refine Below.alloc ?_ ?_ _) | exact Nat.le_refl _ | (show (_ : Nat) ≤ _; omega) | (show (_ : Nat) ≤ _; simp; done) | (show (_ : Nat) ≤ _; simp; omega))))
        ((first
          | (refine step_append_sees rfl (.tmp 12) (.tmp 23) 22 31 rfl Try.underlying22 span_info rfl (by decide) w.heap.size _ D.length (sps D) ?e1 (own_stays hown.out ?hb1) (.slice (some ⟨wr.heap.size, 0, none⟩) 1 1) 1 (sps [mk x y]) ?e2 (sees_sp (e := 31) ?hbk HXY.out.1 HXY.out.2) (sps_oneCell _) (by omega) (by omega) ?hb3 ?_
             case e1 => rfl
             case e2 => rfl
             case hbk => repeat' (first | assumption | ((with_reducible refine kb_new ?_); (first | rfl | (simp; done))) | (with_reducible refine kb_drew ?_) | (with_reducible refine kb_old ?_))
             case hb1 => repeat' (first | assumption | exact Below.refl _ _ | (with_reducible refine Below.drew ?_) | (with_reducible refine below_draw ?_ _) | (with_reducible refine Below.alloc ?_ ?_ _) | exact Nat.le_refl _ | (show (_ : Nat) ≤ _; omega) | (show (_ : Nat) ≤ _; simp; done) | (show (_ : Nat) ≤ _; simp; omega))
             case hb3 => (refine Below.size (?_ : Below w.heap.size w _); repeat' (first | assumption | exact Below.refl _ _ | (with_reducible refine Below.drew ?_) | (with_reducible refine below_draw ?_ _) | (with_reducible refine Below.alloc ?_ ?_ _) | exact Nat.le_refl _ | (show (_ : Nat) ≤ _; omega) | (show (_ : Nat) ≤ _; simp; done) | (show (_ : Nat) ≤ _; simp; omega)))
             intro v5 w5 o5 g5 b5
             refine hold1 (fun (hb5 : Below w.heap.size w w5) => ?_) (Below.trans ?hc b5)
             case hc => repeat' (first | assumption | exact Below.refl _ _ | (with_reducible refine Below.drew ?_) | (with_reducible refine below_draw ?_ _) | (with_reducible refine Below.alloc ?_ ?_ _) | exact Nat.le_refl _ | (show (_ : Nat) ≤ _; omega) | (show (_ : Nat) ≤ _; simp; done) | (show (_ : Nat) ≤ _; simp; omega))
             have O5 := Lib.hid o5
             clear o5 g5 b5)))
      go_wp2_with fail
      go_split_ands
      go_roundw
      case rel =>
        refine ⟨k + 1, by have := HI.out; have := HJ.out; omega, ?_, Lib.hid ?_, Lib.hid (by assumption)⟩
        · have := HI.out
          have e : ((2 * (k + 1) : Nat) : Int) = (i : Int) + 2 := by omega
          rw [e]
        · rw [show 2 * (k + 1) = j + 1 by have := HI.out; have := HJ.out; omega, HPT.out, List.length_append, sps_append]
          exact O5.out
      case measure => simp [intOf]; omega
    · have q1 : decide ((j : Int) < (n : Int)) = false := decide_eq_false (by omega)
      have q1' : decide (j < n) = false := decide_eq_false hkn
      have hall := pairs_all xs k (by rw [← HN.out]; have := HI.out; have := HJ.out; omega) (by rw [← HN.out]; have := HI.out; omega)
      rw [← HI.out] at hall
      rw [hall] at hown
      clear hall
      go_wp2
      go_ret
      exact ⟨_, rfl, hown.out, hbel.out⟩
end Go.Proofs.Ytefamdajblingaa.Spans
