/- octavoref06.Final, Last, All, Ids: what each answers. Conditions: the slice's cells are runs. -/
import Derived.Test.YtgeeaipdihlmhaaPlaceFirst
namespace Go.Proofs.Ytgeeaipdihlmhaa.Place
open Go.RowKit Stamp
attribute [local go_sem ↓] Go.wp_at_zero Go.wp_at_succ

set_option maxHeartbeats 1000000 in
theorem final_any {v : Value} {l : List Run} {w : World} {k : Nat} {x : Run} (hv : Runs w v l) (hk : l.length = k + 1) (hx : l.getD k zrun = x) (h1 : One x) (hl : l.length ≤ 1000) :
    Calls Try.prog 48 #[v] w fun e w' => e = .returned (.agg #[.int .u32 ((x.t : Int) + (x.m - 1)), .int .u8 (x.r : Int)]) ∧ Below w.heap.size w w' := by
  obtain ⟨ao, cap, rfl⟩ := hv.shape
  obtain ⟨b, off, rfl, hb, hx0, hx1, hx2⟩ := hv.at k (by omega)
  rw [hx] at hx0 hx1 hx2
  obtain ⟨n, hn⟩ : ∃ n, n = l.length := ⟨_, rfl⟩
  rw [← hn] at hk hl ⊢
  obtain ⟨t, r, m, ht, hr, hm⟩ := x
  unfold One at h1
  simp only at hx0 hx1 hx2 h1
  obtain ⟨o1, o2, o3, o4, o5, o6⟩ := h1
  have q2 : (0 : Int) ≤ (k : Int) := by omega
  have q3 : (k : Int) < (n : Int) := by omega
  have e1 : (n : Int) - 1 = (k : Int) := by omega
  have e2 : IntKind.i64.wrap (k : Int) = (k : Int) := IntWalk.i64_in _ (by omega)
  have e3 : IntKind.u32.wrap (m - 1) = m - 1 := by rw [IntKind.wrap_u32]; omega
  have e4 : IntKind.u32.wrap ((t : Int) + (m - 1)) = (t : Int) + (m - 1) := by rw [IntKind.wrap_u32]; omega
  have e5 : IntKind.i64.wrap (m - 1) = m - 1 := IntWalk.i64_in _ (by omega)
  have HB0 : Hid (b < w.heap.size) := hb
  have hne : ¬ b = w.heap.size := by omega
  clear hv hn hk hx
  go_enter Try.func48, Try.ntmps48
  go_wp2
  refine bodyPost_ret (v := .agg #[.int .u32 ((t : Int) + (m - 1)), .int .u8 (r : Int)]) (by simp [results, Try.results48, go_sem]) rfl ⟨rfl, ?_⟩
  exact ((Below.refl _ _).alloc (Nat.le_refl _) _).alloc (by simp) _

/-- The last stamp, or the zero one. -/
def lastV (l : List Run) : Int × Int := if mayB l = true then (((l.getD (l.length - 1) zrun).t : Int) + ((l.getD (l.length - 1) zrun).m - 1), ((l.getD (l.length - 1) zrun).r : Int)) else (0, 0)
theorem sees_blk2 {X : World} {g : Nat} {a : Id} {T R : Int} {e : TypeId} (h : X.heap[g]? = some (.cells #[.int .u32 T, .int .u8 R] e)) (hT : T = (a.t : Int)) (hR : R = (a.r : Int)) : Sees X (.slice (some ⟨g, 0, none⟩) 1 1) 2 1 (ids [a]) := by
  subst hT hR
  exact sees_blk h
theorem keepB {wl w2 : World} {b o1 o2 : Nat} {c1 c2 : Value} (q : b < wl.heap.size ∧ wl.cell? ⟨b, o1, none⟩ = some c1 ∧ wl.cell? ⟨b, o2, none⟩ = some c2) (h : Below wl.heap.size wl w2) :
    Below wl.heap.size wl w2 ∧ w2.cell? ⟨b, o1, none⟩ = some c1 ∧ w2.cell? ⟨b, o2, none⟩ = some c2 :=
  ⟨h, (h.cell (p := ⟨b, o1, none⟩) q.1).trans q.2.1, (h.cell (p := ⟨b, o2, none⟩) q.1).trans q.2.2⟩
theorem up_snoc (t r j : Nat) : up t r (j + 1) = up t r j ++ [mk (t + j) r] := by rw [up_add]; rfl
theorem all_take (l : List Run) (k : Nat) (h : k < l.length) : all (l.take (k + 1)) = all (l.take k) ++ up (l.getD k zrun).t (l.getD k zrun).r (l.getD k zrun).m.toNat := by
  rw [List.take_succ_eq_append_getElem h, all_append]
  simp [all, List.getD, List.getElem?_eq_getElem h]

set_option maxRecDepth 100000 in
set_option maxHeartbeats 4000000 in
theorem all_any {v : Value} {l : List Run} {w : World} (hv : Runs w v l) (hc : Chain l) (hl : l.length ≤ 100) :
    Calls Try.prog 51 #[v] w fun e w' => ∃ v', e = .returned v' ∧ w'.ownsRow w.heap.size 27 2 v' (all l).length (ids (all l)) ∧ Below w.heap.size w w' := by
  obtain ⟨ao, cap, rfl⟩ := hv.shape
  obtain ⟨n, hn⟩ : ∃ n, n = l.length := ⟨_, rfl⟩
  have HV := Lib.hid hv
  have HN := Lib.hid hn
  have HC := Lib.hid hc
  rw [← hn] at hl ⊢
  clear hv hn hc
  go_enter Try.func51, Try.ntmps51
  go_wp2
  go_loopw [3, 4, 5] (fun o i _ wr => ∃ (k n' : Nat), k ≤ n ∧ i = .int .i64 (k : Int) ∧ n' ≤ 4096 * k ∧ Hid (n' = (all (l.take k)).length) ∧ Hid (wr.ownsRow w.heap.size 27 2 o n' (ids (all (l.take k)))) ∧ Hid (Below w.heap.size w wr)) (fun _ i _ _ => n - (intOf i).toNat)
  case atStart => exact ⟨0, 0, by omega, rfl, by omega, Lib.hid rfl, Lib.hid (World.ownsRow_nil _ _ _ _), Lib.hid (Below.refl _ _)⟩
  case round =>
    obtain ⟨k, n', hk, rfl, hn', hlen, hown, hbel⟩ := hrel
    by_cases hkn : k < n
    · have q1 : decide (k < n) = true := by simpa using hkn
      obtain ⟨b, off, rfl, hb, hx0, hx1, hx2⟩ := HV.out.at k (by rw [← HN.out]; exact hkn)
      have hone := chain_one HC.out (k := k) (by rw [← HN.out]; exact hkn)
      have hat := all_take l k (by rw [← HN.out]; exact hkn)
      obtain ⟨x, hx⟩ : ∃ x, x = l.getD k zrun := ⟨_, rfl⟩
      rw [← hx] at hx0 hx1 hx2 hone hat
      obtain ⟨m, hm, m1, m2, m3, m4⟩ := hone.nat
      rw [m3] at hat
      rw [hm] at hx2
      obtain ⟨t, r, mm, ht, hr, hmm⟩ := x
      simp only at hx0 hx1 hx2 hat m4
      have HAT := Lib.hid hat
      have XQ := Lib.hid (And.intro hb (And.intro hx0 hx1))
      have XM := Lib.hid (And.intro hb hx2)
      have q2 : (0 : Int) ≤ (k : Int) := by omega
      have q3 : (k : Int) < (n : Int) := by omega
      clear hx hone hm m3 hat hx0 hx1 hx2
      go_wp2_with fail
      go_loopw [3, 5] (fun o j wr => ∃ (y n2 : Nat), y ≤ m ∧ j = .int .i64 (y : Int) ∧ n2 = n' + y ∧ Hid (n2 = (all (l.take k) ++ up t r y).length) ∧ Hid (wr.ownsRow w.heap.size 27 2 o n2 (ids (all (l.take k) ++ up t r y))) ∧ Hid (Below w.heap.size w wr)) (fun _ j _ => m - (intOf j).toNat)
      case atStart => exact ⟨0, n', by omega, rfl, by omega, Lib.hid (by simpa [up] using hlen.out), Lib.hid (by simpa [up] using hown.out), hbel⟩
      case round =>
        obtain ⟨y, n2, hy, rfl, hn2, hlen2, hown2, hbel2⟩ := hrel
        have xm : wr.cell? ⟨b, off + k * 3 + 2, none⟩ = some (.int .i64 (m : Int)) := (hbel2.out.cell (p := ⟨b, off + k * 3 + 2, none⟩) XM.out.1).trans XM.out.2
        by_cases hym : y < m
        · have p1 : decide (y < m) = true := decide_eq_true hym
          have p2 : decide ((y : Int) < (m : Int)) = true := decide_eq_true (by omega)
          have hsz : w.heap.size ≤ wr.heap.size := hbel2.out.size
          have hbw : Below w.heap.size w wr := hbel2.out
          have hT : ((t : Int) + (y : Int)) = ((mk (t + y) r).t : Int) := by rw [mk_t (by omega)]; omega
          have hR : (r : Int) = ((mk (t + y) r).r : Int) := by rw [mk_r hr]
          have HTR := Lib.hid (And.intro hT hR)
          have e3 : IntKind.u32.wrap (y : Int) = (y : Int) := by rw [IntKind.wrap_u32]; omega
          have e4 : IntKind.u32.wrap ((t : Int) + (y : Int)) = (t : Int) + (y : Int) := by rw [IntKind.wrap_u32]; omega
          have xt : wr.cell? ⟨b, off + k * 3, none⟩ = some (.int .u32 (t : Int)) := (hbw.cell (p := ⟨b, off + k * 3, none⟩) XQ.out.1).trans XQ.out.2.1
          clear hT hR xt
          go_wp2_with fail
          go_region_held3 (fun w' => Below w.heap.size w w' ∧ w'.cell? ⟨b, off + k * 3, none⟩ = some (.int .u32 (t : Int)) ∧ w'.cell? ⟨b, off + k * 3 + 1, none⟩ = some (.int .u8 (r : Int)))
            (first | (go_split_ands; refine keepB XQ.out ?_; repeat' (first | assumption | exact Below.refl _ _ | (with_reducible refine Below.drew ?_) | (with_reducible refine below_draw ?_ _) | (with_reducible refine Below.alloc ?_ ?_ _) | exact Nat.le_refl _ | (show (_ : Nat) ≤ _; omega) | (show (_ : Nat) ≤ _; simp; done) | (show (_ : Nat) ≤ _; simp; omega))))
            ((first
              | (refine step_append_at rfl (.tmp 21) (.tmp 36) 36 27 rfl Try.underlying36 id_info rfl (by decide) w.heap.size _ n2 (ids (all (l.take k) ++ up t r y)) ?e1 (own_stays hown2.out ?hb1) (.slice (some ⟨wr.heap.size, 0, none⟩) 1 1) 1 (ids [mk (t + y) r]) ?e2 (sees_blk2 (e := 27) ?hbk HTR.out.1 HTR.out.2) (ids_oneCell _) (by omega) (by omega) ?hb3 ?_
                 case e1 => rfl
                 case e2 => rfl
                 case hbk => repeat' (first | assumption | ((with_reducible refine blk_new ?_); (first | rfl | (simp; done))) | (with_reducible refine blk_drew ?_) | (with_reducible refine blk_old ?_))
                 case hb1 => repeat' (first | assumption | exact Below.refl _ _ | (with_reducible refine Below.drew ?_) | (with_reducible refine below_draw ?_ _) | (with_reducible refine Below.alloc ?_ ?_ _) | exact Nat.le_refl _ | (show (_ : Nat) ≤ _; omega) | (show (_ : Nat) ≤ _; simp; done) | (show (_ : Nat) ≤ _; simp; omega))
                 case hb3 => (refine Below.size (?_ : Below w.heap.size w _); repeat' (first | assumption | exact Below.refl _ _ | (with_reducible refine Below.drew ?_) | (with_reducible refine below_draw ?_ _) | (with_reducible refine Below.alloc ?_ ?_ _) | exact Nat.le_refl _ | (show (_ : Nat) ≤ _; omega) | (show (_ : Nat) ≤ _; simp; done) | (show (_ : Nat) ≤ _; simp; omega)))
                 intro v5 w5 o5 g5 b5 l5
                 refine Go.Proofs.Ytgeeaipdihlmhaa.hold (fun (hb5 : Below w.heap.size w w5) => ?_) (Below.trans ?hc b5)
                 case hc => repeat' (first | assumption | exact Below.refl _ _ | (with_reducible refine Below.drew ?_) | (with_reducible refine below_draw ?_ _) | (with_reducible refine Below.alloc ?_ ?_ _) | exact Nat.le_refl _ | (show (_ : Nat) ≤ _; omega) | (show (_ : Nat) ≤ _; simp; done) | (show (_ : Nat) ≤ _; simp; omega))
                 have O5 := Lib.hid o5
                 clear o5 g5 b5 l5)))
          go_wp2_with fail
          go_split_ands
          go_roundw
          case rel =>
            refine ⟨y + 1, n2 + 1, by omega, by go_num, by omega, Lib.hid ?_, Lib.hid ?_, Lib.hid (by assumption)⟩
            · rw [up_snoc, ← List.append_assoc, List.length_append, ← hlen2.out]; rfl
            · rw [up_snoc, ← List.append_assoc, ids_append]; exact O5.out
          case measure => simp [intOf]; omega
        · obtain rfl : y = m := by omega
          have p1 : decide (y < y) = false := decide_eq_false (by omega)
          go_wp2
          go_roundw
          case rel =>
            refine ⟨k + 1, n2, by omega, by go_num, by omega, Lib.hid ?_, Lib.hid ?_, hbel2⟩
            · rw [HAT.out]; exact hlen2.out
            · rw [HAT.out]; exact hown2.out
          case measure => simp [intOf]; omega
    · have q1 : decide (k < n) = false := by simpa using hkn
      have hkk : l.take k = l := List.take_of_length_le (by have := HN.out; omega)
      rw [hkk] at hlen hown
      go_wp2
      go_ret
      have := hlen.out
      subst this
      exact ⟨_, rfl, hown.out, hbel.out⟩
end Go.Proofs.Ytgeeaipdihlmhaa.Place
