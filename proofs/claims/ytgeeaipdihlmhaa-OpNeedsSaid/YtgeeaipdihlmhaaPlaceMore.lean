/- octavoref06.Ids, SameIds, More: what each answers. Conditions: the slices' cells are runs (stamps). -/
import Derived.Test.YtgeeaipdihlmhaaPlaceFin
import Derived.Deep.DeepCutAuto
import Derived.IntWalk
namespace Go.Proofs.Ytgeeaipdihlmhaa.Place
open Go.RowKit Stamp
attribute [local go_sem ↓] Go.wp_at_zero Go.wp_at_succ
attribute [local go_sem] yielded_undef

def idsOf (l : List Run) : List Id := if mayB l = true then all l else []
def idsE (l : List Run) : Int := if mayB l = true then 0 else 8
theorem ids_ne : ∀ {a b : List Id}, a.length = b.length → a ≠ b → ∃ k, k < a.length ∧ a.getD k zid ≠ b.getD k zid
  | [], [], _, h => absurd rfl h
  | x :: a, y :: b, hl, h => by
    by_cases hxy : x = y
    · subst hxy
      obtain ⟨k, h1, h2⟩ := ids_ne (a := a) (b := b) (by simpa using hl) (fun e => h (by rw [e]))
      exact ⟨k + 1, by simpa using h1, by simpa using h2⟩
    · exact ⟨0, by simp, by simpa using hxy⟩
  | [], _ :: _, hl, _ => by simp at hl
  | _ :: _, [], hl, _ => by simp at hl

set_option maxHeartbeats 1000000 in
theorem sameIds_yes {a b : Value} {l : List Id} {w : World} (ha : Ids w a l) (hb : Ids w b l) :
    Calls Try.prog 17 #[a, b] w fun e w' => e = .returned (.bool true) ∧ Below w.heap.size w w' := by
  obtain ⟨ao, ca, rfl⟩ := ha.shape
  obtain ⟨bo, cb, rfl⟩ := hb.shape
  obtain ⟨n, hn⟩ : ∃ n, n = l.length := ⟨_, rfl⟩
  have hm : n ≤ 9223372036854775807 := by rw [hn]; exact Sees.max ha
  have HA := Lib.hid ha
  have HB := Lib.hid hb
  have HN := Lib.hid hn
  rw [← hn]
  clear ha hb hn
  have t1 : ((n : Int) != (n : Int)) = false := by simp
  go_enter Try.func17, Try.ntmps17
  go_wp2
  go_loopw [5] (fun i wr => ∃ k : Nat, k ≤ n ∧ i = .int .i64 (k : Int) ∧ ∃ q, wr = w.drewN q) (fun i _ => n - (intOf i).toNat)
  case atStart => exact ⟨0, by omega, rfl, 0, rfl⟩
  case round =>
    obtain ⟨k, hk, rfl, q, rfl⟩ := hrel
    by_cases hkn : k < n
    · have q1 : decide (k < n) = true := by simpa using hkn
      obtain ⟨b1, o1, rfl, hb1, ha0, ha1⟩ := HA.out.at k (by rw [← HN.out]; exact hkn)
      obtain ⟨b2, o2, rfl, hb2, hb0, hb1'⟩ := HB.out.at k (by rw [← HN.out]; exact hkn)
      obtain ⟨x, hx⟩ : ∃ x, x = l.getD k zid := ⟨_, rfl⟩
      rw [← hx] at ha0 ha1 hb0 hb1'
      obtain ⟨xt, xr, _, _⟩ := x
      simp only at ha0 ha1 hb0 hb1'
      have q2 : (0 : Int) ≤ (k : Int) := by omega
      have q3 : (k : Int) < (n : Int) := by omega
      clear hx
      go_wp2
      go_quiet (fail)
      go_wp2
      go_roundw
      case rel => exact ⟨k + 1, by omega, by go_num, _, rfl⟩
      case measure => simp [intOf]; omega
    · have q1 : decide (k < n) = false := by simpa using hkn
      go_wp2
      go_ret
      exact ⟨rfl, below_draw (Below.refl _ _) _⟩

/-- A place with a stamp behind. -/
def more (l : List Run) (a : Id) : List Run :=
  if 0 < l.length ∧ (l.getD (l.length - 1) zrun).r = a.r ∧ fin (l.getD (l.length - 1) zrun) + 1 = (a.t : Int) then l.take (l.length - 1) ++ [mkRun (l.getD (l.length - 1) zrun).t (l.getD (l.length - 1) zrun).r ((l.getD (l.length - 1) zrun).m + 1)] else l ++ [mkRun a.t a.r 1]
theorem keepR1 {wl w1 w2 : World} {b o1 o2 o3 h2 : Nat} {c1 c2 c3 d0 d1 : Value} (q : b < wl.heap.size ∧ wl.cell? ⟨b, o1, none⟩ = some c1 ∧ wl.cell? ⟨b, o2, none⟩ = some c2 ∧ wl.cell? ⟨b, o3, none⟩ = some c3) (p2 : Pair wl h2 d0 d1) (h : Below w1.heap.size w1 w2) (hb : Below wl.heap.size wl w1) :
    Below wl.heap.size wl w2 ∧ w2.cell? ⟨b, o1, none⟩ = some c1 ∧ w2.cell? ⟨b, o2, none⟩ = some c2 ∧ w2.cell? ⟨b, o3, none⟩ = some c3 ∧ w2.cell? ⟨h2, 0, none⟩ = some d0 ∧ w2.cell? ⟨h2, 1, none⟩ = some d1 :=
  have a := bt hb h
  ⟨a, (a.cell (p := ⟨b, o1, none⟩) q.1).trans q.2.1, (a.cell (p := ⟨b, o2, none⟩) q.1).trans q.2.2.1, (a.cell (p := ⟨b, o3, none⟩) q.1).trans q.2.2.2, (p2.keeps a).2.1, (p2.keeps a).2.2⟩

theorem runs_bump : ∀ (l : List Run) (k : Nat), l.length = k + 1 → (-9223372036854775808 ≤ (l.getD k zrun).m + 1 ∧ (l.getD k zrun).m + 1 ≤ 9223372036854775807) →
    (runs l).set (k * 3 + 2) (.int .i64 ((l.getD k zrun).m + 1)) = runs (l.take k ++ [mkRun (l.getD k zrun).t (l.getD k zrun).r ((l.getD k zrun).m + 1)])
  | [], k, h, _ => by simp at h
  | x :: l, 0, h, hb => by
    have : l = [] := List.length_eq_zero_iff.1 (by simpa using h)
    subst this
    simp only [List.getD_cons_zero] at hb
    simp [runs, mkRun_t x.ht, mkRun_r x.hr, mkRun_m hb]
  | x :: l, k + 1, h, hb => by
    have ih := runs_bump l k (by simpa using h) (by simpa using hb)
    rw [show (k + 1) * 3 + 2 = (k * 3 + 2) + 1 + 1 + 1 by omega]
    simp only [List.getD_cons_succ, List.take_succ_cons, List.cons_append, runs, List.set_cons_succ]
    rw [ih]

/-- Does the stamp stand right behind the last run? -/
def joinsB (l : List Run) (a : Id) : Bool := decide (0 < l.length ∧ (l.getD (l.length - 1) zrun).r = a.r ∧ fin (l.getD (l.length - 1) zrun) + 1 = (a.t : Int))

end Go.Proofs.Ytgeeaipdihlmhaa.Place
