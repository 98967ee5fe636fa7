/- octavo/bag.joined: what it answers. Conditions: the slices' cells are operations, not more than two thousand in all. -/
import Derived.Deep.DrawnRows
import Derived.Deep.RegionHeld3
import Derived.Scope
import Derived.Test.YtohiidgdpecbdaaPk07
import Derived.Test.YtohiidgdpecbdaaPk15
import Derived.Test.YtohiidgdpecbdaaPk02
import Derived.Test.YtohiidgdpecbdaaPk12
import Derived.Test.YtohiidgdpecbdaaPk06
import Derived.Test.YtohiidgdpecbdaaPk13

namespace Go.Proofs.Ytohiidgdpecbdaa.Bags
open Go.RowKit Go.WideShapes Stamp Go.Proofs.Ytohiidgdpecbdaa.Place Ops Codes
attribute [local go_sem ↓] Go.wp_at_zero Go.wp_at_succ
attribute [local go_sem] yielded_undef

theorem alloc_bs {wl W : World} (h : Below wl.heap.size wl W) (o : Obj) : Below wl.heap.size wl (W.alloc o) := h.alloc h.size o
/-- What is left behind the first. -/
theorem part_tail {w : World} {bb oo n cap : Nat} {x : Opn} {l : List Opn} (h : OpL w (.slice (some ⟨bb, oo, none⟩) n cap) (x :: l)) :
    ∃ o', (if cap = 1 then (some ⟨bb, oo, none⟩ : Option Addr) else some ⟨bb, oo + 5, none⟩) = some ⟨bb, o', none⟩ ∧ OpL w (.slice (some ⟨bb, o', none⟩) (n - 1) (cap - 1)) l := by
  have hn := h.cap.1
  obtain ⟨b, off, o', e, hif, hs⟩ := part_drop (m := 1) h (by rw [hn]; simp) (by simp)
  cases e
  exact ⟨o', hif, by simpa using hs⟩

set_option maxRecDepth 100000 in
set_option maxHeartbeats 16000000 in
theorem bJoined_any {va vb : Value} {a b : List Opn} {w : World} (ha : OpL w va a) (hb : OpL w vb b) (hl : a.length + b.length ≤ 2048) :
    Calls Try.prog 37 #[va, vb] w fun e w' => ∃ ao cap, e = .returned (.slice ao (mrgO a b).length cap) ∧ ShrO w w' (.slice ao (mrgO a b).length cap) (mrgO a b) ∧ Below w.heap.size w w' := by
  obtain ⟨aa, ca, rfl⟩ := ha.shape
  obtain ⟨ab, cb, rfl⟩ := hb.shape
  obtain ⟨na, hna⟩ : ∃ n, n = a.length := ⟨_, rfl⟩
  obtain ⟨nb, hnb⟩ : ∃ n, n = b.length := ⟨_, rfl⟩
  obtain ⟨R, hR⟩ : ∃ R, mrgO a b = R := ⟨_, rfl⟩
  obtain ⟨N, hN⟩ : ∃ N, N = R.length := ⟨_, rfl⟩
  have A0 := Lib.hid ha
  have B0 := Lib.hid hb
  have NA0 := Lib.hid hna
  have NB0 := Lib.hid hnb
  have HNR := Lib.hid hN
  have R0 : Hid ([] ++ mrgO a b = R) := by rw [← hR]; exact List.nil_append _
  rw [← hna] at A0
  rw [← hnb] at B0
  rw [hR, ← hN, ← hna, ← hnb]
  rw [← hna, ← hnb] at hl
  have S0 : Hid (ShrO w w (.slice none 0 0) []) := Shr.nil _ _ _ _
  have M0 : Hid (0 = ([] : List Opn).length) := rfl
  have Z0 : Hid (Below w.heap.size w w) := Below.refl _ _
  clear ha hb hna hnb hR hN
  go_enter Try.func37, Try.ntmps37
  go_wp2
  refine wp_scope_straight ?_
  go_wp2
  go_step3
  go_wp2
  go_loopw [0, 1, 5] (fun va vb vl wr => ∃ (a' b' L : List Opn) (aa : Option Addr) (na ca : Nat) (ab : Option Addr) (nb cb : Nat) (lo : Option Addr) (m lc : Nat), va = .slice aa na ca ∧ vb = .slice ab nb cb ∧ vl = .slice lo m lc ∧ Hid (na = a'.length) ∧ Hid (nb = b'.length) ∧ Hid (m = L.length) ∧ m + na + nb ≤ 2048 ∧ Hid (OpL w (.slice aa na ca) a') ∧ Hid (OpL w (.slice ab nb cb) b') ∧ Hid (ShrO w wr (.slice lo m lc) L) ∧ Hid (L ++ mrgO a' b' = R) ∧ Hid (Below w.heap.size w wr)) (fun va vb _ _ => (match va with | .slice _ n _ => n | _ => 0) + (match vb with | .slice _ n _ => n | _ => 0))
  case atStart => exact ⟨a, b, [], aa, na, ca, ab, nb, cb, none, 0, 0, rfl, rfl, rfl, NA0, NB0, M0, by omega, A0, B0, S0, R0, Z0⟩
  case round =>
    clear A0 B0 NA0 NB0 M0 S0 R0 Z0 hl
    obtain ⟨a', b', L, aa, na, ca, ab, nb, cb, lo, m, lc, rfl, rfl, rfl, HNA, HNB, HM, hsum, HA, HB, HS, HR, hbel⟩ := hrel
    by_cases hna : na = 0
    · subst hna
      obtain rfl : a' = [] := List.eq_nil_of_length_eq_zero HNA.out.symm
      have HBF := Lib.hid (seq_fix HB.out hbel.out)
      have HE : Hid (L ++ b' = R) := by have := HR.out; rwa [mrgO_left] at this
      have HNN : Hid (m + nb = L.length + b'.length) := by unfold Hid; rw [← HM.out, ← HNB.out]
      have HZ := Lib.hid hbel.out.size
      clear HR HA HNA
      go_wp2_with (at_builtin; refine wpList_append_shr (E := opE) Try.underlying22 op_info rfl (w0 := w) (by rfl) (.tmp 20) (.tmp 21) (by rfl) (by rfl) HS.out (by rfl) HBF.out HNN.out (by omega) (by omega) HZ.out ?_)
      rintro v6 w6 s6 vo vc rfl b6
      have S6 := Lib.hid s6
      have B6 := Lib.hid (hbel.out.trans b6)
      rw [HE.out] at S6
      obtain rfl : m + nb = N := by rw [HNR.out, ← HE.out, List.length_append, HNN.out]
      clear s6 b6 HS HBF
      go_wp2
      (first | go_ret | (rw [Exit.noGoto_ret]; go_ret))
      exact ⟨_, _, rfl, S6.out, B6.out⟩
    have t1 : ((na : Int) == 0) = false := by simp; omega
    have t2 : (na == 0) = false := by simpa using hna
    by_cases hnb : nb = 0
    · subst hnb
      obtain rfl : b' = [] := List.eq_nil_of_length_eq_zero HNB.out.symm
      have HAF := Lib.hid (seq_fix HA.out hbel.out)
      have HE : Hid (L ++ a' = R) := by have := HR.out; rwa [mrgO_right] at this
      have HNN : Hid (m + na = L.length + a'.length) := by unfold Hid; rw [← HM.out, ← HNA.out]
      have HZ := Lib.hid hbel.out.size
      clear HR HB HNB
      go_wp2_with (at_builtin; refine wpList_append_shr (E := opE) Try.underlying22 op_info rfl (w0 := w) (by rfl) (.tmp 27) (.tmp 28) (by rfl) (by rfl) HS.out (by rfl) HAF.out HNN.out (by omega) (by omega) HZ.out ?_)
      rintro v6 w6 s6 vo vc rfl b6
      have S6 := Lib.hid s6
      have B6 := Lib.hid (hbel.out.trans b6)
      rw [HE.out] at S6
      obtain rfl : m + na = N := by rw [HNR.out, ← HE.out, List.length_append, HNN.out]
      clear s6 b6 HS HAF
      go_wp2
      (first | go_ret | (rw [Exit.noGoto_ret]; go_ret))
      exact ⟨_, _, rfl, S6.out, B6.out⟩
    have t3 : ((nb : Int) == 0) = false := by simp; omega
    have t4 : (nb == 0) = false := by simpa using hnb
    obtain ⟨x, ta, rfl⟩ : ∃ x t, a' = x :: t := by
      cases a' with
      | nil => exact absurd HNA.out hna
      | cons x t => exact ⟨x, t, rfl⟩
    obtain ⟨y, tb, rfl⟩ : ∃ x t, b' = x :: t := by
      cases b' with
      | nil => exact absurd HNB.out hnb
      | cons x t => exact ⟨x, t, rfl⟩
    have p1 : 0 < na := by omega
    have p2 : (0 : Int) < (na : Int) := by omega
    have p3 : 0 < nb := by omega
    have p4 : (0 : Int) < (nb : Int) := by omega
    have p5 : (1 : Int) ≤ (na : Int) := by omega
    have p6 : (1 : Int) ≤ (nb : Int) := by omega
    have ka := HA.out.cap.2.1
    rw [← HNA.out] at ka
    have kb := HB.out.cap.2.1
    rw [← HNB.out] at kb
    have HTA : Hid (na - 1 = ta.length) := by unfold Hid; rw [HNA.out]; rfl
    have HTB : Hid (nb - 1 = tb.length) := by unfold Hid; rw [HNB.out]; rfl
    obtain ⟨bb, oo, u, ea, hbb, hru, h0, h1, h2, h3, h4⟩ := opl_at HA.out 0 (by simp)
    cases ea
    obtain ⟨bby, ooy, uy, eb, hbby, hruy, h0y, h1y, h2y, h3y, h4y⟩ := opl_at HB.out 0 (by simp)
    cases eb
    simp only [Nat.zero_mul, Nat.add_zero, List.getElem_cons_zero] at h0 h1 h2 h3 h4 hru h0y h1y h2y h3y h4y hruy
    obtain ⟨oa, ifa, pta⟩ := part_tail HA.out
    obtain ⟨ob, ifb, ptb⟩ := part_tail HB.out
    have PTA := Lib.hid pta
    have PTB := Lib.hid ptb
    have L1 : Hid (∀ W : World, Calls Try.prog 32 #[.agg #[.int .u32 (x.t : Int), .int .u8 (x.r : Int)], .agg #[.int .u32 (y.t : Int), .int .u8 (y.r : Int)]] W fun e w' => e = .returned (.bool (decide (lessO x y))) ∧ Below W.heap.size W w') := fun W => by
      have := less_any x.t x.r y.t y.r x.ht x.hr y.ht y.hr W
      rwa [show less x.t x.r y.t y.r = decide (lessO x y) from rfl] at this
    have L2 : Hid (∀ W : World, Calls Try.prog 32 #[.agg #[.int .u32 (y.t : Int), .int .u8 (y.r : Int)], .agg #[.int .u32 (x.t : Int), .int .u8 (x.r : Int)]] W fun e w' => e = .returned (.bool (decide (lessO y x))) ∧ Below W.heap.size W w') := fun W => by
      have := less_any y.t y.r x.t x.r y.ht y.hr x.ht x.hr W
      rwa [show less y.t y.r x.t x.r = decide (lessO y x) from rfl] at this
    have RL : Hid (lessO x y → (L ++ [x]) ++ mrgO ta (y :: tb) = R) := fun h => by rw [← HR.out, mrgO_less h, List.append_assoc]; rfl
    have RM : Hid (lessO y x → (L ++ [y]) ++ mrgO (x :: ta) tb = R) := fun h => by rw [← HR.out, mrgO_more h, List.append_assoc]; rfl
    have RS : Hid (¬ lessO x y → ¬ lessO y x → (L ++ [x]) ++ mrgO ta tb = R) := fun h h' => by rw [← HR.out, mrgO_same h h', List.append_assoc]; rfl
    obtain ⟨uo, uc, rfl⟩ := hru.shape
    obtain ⟨nu, hnu⟩ : ∃ n, n = x.pl.length := ⟨_, rfl⟩
    rw [← hnu] at hru h3
    obtain ⟨uoy, ucy, rfl⟩ := hruy.shape
    obtain ⟨nuy, hnuy⟩ : ∃ n, n = y.pl.length := ⟨_, rfl⟩
    rw [← hnuy] at hruy h3y
    have INX : Hid (opE.inn w [.int .u8 (x.k : Int), .int .u32 (x.t : Int), .int .u8 (x.r : Int), .slice uo nu uc, .int .i64 x.p] x) := ⟨_, rfl, hru⟩
    have INY : Hid (opE.inn w [.int .u8 (y.k : Int), .int .u32 (y.t : Int), .int .u8 (y.r : Int), .slice uoy nuy ucy, .int .i64 y.p] y) := ⟨_, rfl, hruy⟩
    have HMX : Hid (m + 1 = (L ++ [x]).length) := by unfold Hid; rw [List.length_append, ← HM.out]; rfl
    have HMY : Hid (m + 1 = (L ++ [y]).length) := by unfold Hid; rw [List.length_append, ← HM.out]; rfl
    clear hnu hnuy hru hruy pta ptb
    obtain ⟨k, hk⟩ : ∃ z, x.k = z := ⟨_, rfl⟩
    obtain ⟨t, ht⟩ : ∃ z, x.t = z := ⟨_, rfl⟩
    obtain ⟨r, hr⟩ : ∃ z, x.r = z := ⟨_, rfl⟩
    obtain ⟨p, hp⟩ : ∃ z, x.p = z := ⟨_, rfl⟩
    obtain ⟨ky, hky⟩ : ∃ z, y.k = z := ⟨_, rfl⟩
    obtain ⟨ty, hty⟩ : ∃ z, y.t = z := ⟨_, rfl⟩
    obtain ⟨ry, hry⟩ : ∃ z, y.r = z := ⟨_, rfl⟩
    obtain ⟨py, hpy⟩ : ∃ z, y.p = z := ⟨_, rfl⟩
    rw [hk] at h0
    rw [ht] at h1
    rw [hr] at h2
    rw [hp] at h4
    rw [hky] at h0y
    rw [hty] at h1y
    rw [hry] at h2y
    rw [hpy] at h4y
    rw [hk, ht, hr, hp] at INX
    rw [hky, hty, hry, hpy] at INY
    rw [ht, hr, hty, hry] at L1 L2
    have FX : Hid (FiveAt w bb oo (.int .u8 (k : Int)) (.int .u32 (t : Int)) (.int .u8 (r : Int)) (.slice uo nu uc) (.int .i64 p)) := ⟨hbb, h0, h1, h2, h3, h4⟩
    have FY : Hid (FiveAt w bby ooy (.int .u8 (ky : Int)) (.int .u32 (ty : Int)) (.int .u8 (ry : Int)) (.slice uoy nuy ucy) (.int .i64 py)) := ⟨hbby, h0y, h1y, h2y, h3y, h4y⟩
    clear hk ht hr hp hky hty hry hpy h0 h1 h2 h3 h4 h0y h1y h2y h3y h4y hbb hbby HR
    have SK : Hid (∀ w' : World, Below wr.heap.size wr w' → Below wr.heap.size wr w' ∧ w'.cell? ⟨bb, oo + 1, none⟩ = some (.int .u32 (t : Int)) ∧ w'.cell? ⟨bb, oo + 2, none⟩ = some (.int .u8 (r : Int)) ∧ w'.cell? ⟨bby, ooy + 1, none⟩ = some (.int .u32 (ty : Int)) ∧ w'.cell? ⟨bby, ooy + 2, none⟩ = some (.int .u8 (ry : Int))) := fun W h => by
      have a1 := (FX.out.keeps (bt hbel.out h)).2
      have a2 := (FY.out.keeps (bt hbel.out h)).2
      exact ⟨h, a1.2.1, a1.2.2.1, a2.2.1, a2.2.2.1⟩
    have SX : Hid (∀ w' : World, Below w.heap.size w w' → Below w.heap.size w w' ∧ w'.cell? ⟨bb, oo, none⟩ = some (.int .u8 (k : Int)) ∧ w'.cell? ⟨bb, oo + 1, none⟩ = some (.int .u32 (t : Int)) ∧ w'.cell? ⟨bb, oo + 2, none⟩ = some (.int .u8 (r : Int)) ∧ w'.cell? ⟨bb, oo + 3, none⟩ = some (.slice uo nu uc) ∧ w'.cell? ⟨bb, oo + 4, none⟩ = some (.int .i64 p)) := fun W h => ⟨h, (FX.out.keeps h).2⟩
    have SY : Hid (∀ w' : World, Below w.heap.size w w' → Below w.heap.size w w' ∧ w'.cell? ⟨bby, ooy, none⟩ = some (.int .u8 (ky : Int)) ∧ w'.cell? ⟨bby, ooy + 1, none⟩ = some (.int .u32 (ty : Int)) ∧ w'.cell? ⟨bby, ooy + 2, none⟩ = some (.int .u8 (ry : Int)) ∧ w'.cell? ⟨bby, ooy + 3, none⟩ = some (.slice uoy nuy ucy) ∧ w'.cell? ⟨bby, ooy + 4, none⟩ = some (.int .i64 py)) := fun W h => ⟨h, (FY.out.keeps h).2⟩
    clear FX FY
    by_cases hxy : lessO x y
    · have HR2 := Lib.hid (RL.out hxy)
      rw [decide_eq_true hxy] at L1
      clear RL RM RS L2 hxy SY INY PTB HMY
      go_wp2
      refine wp_region_held_drew (S := fun w' => Below wr.heap.size wr w' ∧ w'.cell? ⟨bb, oo + 1, none⟩ = some (.int .u32 (t : Int)) ∧ w'.cell? ⟨bb, oo + 2, none⟩ = some (.int .u8 (r : Int)) ∧ w'.cell? ⟨bby, ooy + 1, none⟩ = some (.int .u32 (ty : Int)) ∧ w'.cell? ⟨bby, ooy + 2, none⟩ = some (.int .u8 (ry : Int))) (by kernel_rfl) (SK.out _ (drew1 _)) (fun hHeld => ?_)
      refine wpAnyH_take (i := 0) (v := ?va0) rfl (by kernel_rfl) (by kernel_rfl) (by kernel_rfl) (fun _ _ _ h => h) (Or.inl ⟨by rfl, ?ya0⟩) (by assumption) ?_
      case ya0 => intro w hSw; (try dsimp only at hSw); go_simp <;> with_reducible rfl
      try simp only [List.getElem_toArray, List.getElem_cons_zero, Act.put, List.setIfInBounds_toArray, List.set_cons_zero, List.set_cons_succ]
      refine wpAnyH_take (i := 1) (v := ?va1) rfl (by kernel_rfl) (by kernel_rfl) (by kernel_rfl) (fun _ _ _ h => h) (Or.inl ⟨by rfl, ?ya1⟩) (by assumption) ?_
      case ya1 => intro w hSw; (try dsimp only at hSw); go_simp <;> with_reducible rfl
      try simp only [List.getElem_toArray, List.getElem_cons_succ, List.getElem_cons_zero, Act.put, List.setIfInBounds_toArray, List.set_cons_zero, List.set_cons_succ]
      refine wpAnyH_take (i := 2) (v := ?va2) rfl (by kernel_rfl) (by kernel_rfl) (by kernel_rfl) (fun _ _ _ h => h) (Or.inl ⟨by rfl, ?ya2⟩) (by assumption) ?_
      case ya2 => intro w hSw; (try dsimp only at hSw); go_simp <;> with_reducible rfl
      try simp only [List.getElem_toArray, List.getElem_cons_succ, List.getElem_cons_zero, Act.put, List.setIfInBounds_toArray, List.set_cons_zero, List.set_cons_succ]
      refine wpAnyH_take (i := 3) (v := ?va3) rfl (by kernel_rfl) (by kernel_rfl) (by kernel_rfl) (fun _ _ _ h => h) (Or.inl ⟨by rfl, ?ya3⟩) (by assumption) ?_
      case ya3 => intro w hSw; (try dsimp only at hSw); go_simp <;> with_reducible rfl
      try simp only [List.getElem_toArray, List.getElem_cons_succ, List.getElem_cons_zero, Act.put, List.setIfInBounds_toArray, List.set_cons_zero, List.set_cons_succ]
      refine wpAnyH_take (i := 4) (v := ?va4) rfl (by kernel_rfl) (by kernel_rfl) (by kernel_rfl) (fun _ _ _ h => h) (Or.inl ⟨by rfl, ?ya4⟩) (by assumption) ?_
      case ya4 => intro w hSw; (try dsimp only at hSw); go_simp <;> with_reducible rfl
      try simp only [List.getElem_toArray, List.getElem_cons_succ, List.getElem_cons_zero, Act.put, List.setIfInBounds_toArray, List.set_cons_zero, List.set_cons_succ]
      refine wpAnyH_take (i := 5) (v := ?va5) rfl (by kernel_rfl) (by kernel_rfl) (by kernel_rfl) (fun _ _ _ h => h) (Or.inl ⟨by rfl, ?ya5⟩) (by assumption) ?_
      case ya5 => intro w hSw; (try dsimp only at hSw); go_simp <;> with_reducible rfl
      try simp only [List.getElem_toArray, List.getElem_cons_succ, List.getElem_cons_zero, Act.put, List.setIfInBounds_toArray, List.set_cons_zero, List.set_cons_succ]
      refine wpAnyH_take (i := 6) (v := ?va6) rfl (by kernel_rfl) (by kernel_rfl) (by kernel_rfl) (fun _ _ _ h => h) (Or.inl ⟨by rfl, ?ya6⟩) (by assumption) ?_
      case ya6 => intro w hSw; (try dsimp only at hSw); go_simp <;> with_reducible rfl
      try simp only [List.getElem_toArray, List.getElem_cons_succ, List.getElem_cons_zero, Act.put, List.setIfInBounds_toArray, List.set_cons_zero, List.set_cons_succ]
      refine wpAnyH_take (i := 7) (v := ?va7) rfl (by kernel_rfl) (by kernel_rfl) (by kernel_rfl) (fun _ _ _ h => h) (Or.inl ⟨by rfl, ?ya7⟩) (by assumption) ?_
      case ya7 => intro w hSw; (try dsimp only at hSw); go_simp <;> with_reducible rfl
      try simp only [List.getElem_toArray, List.getElem_cons_succ, List.getElem_cons_zero, Act.put, List.setIfInBounds_toArray, List.set_cons_zero, List.set_cons_succ]
      refine wpAnyH_ready (rs := [8]) (by kernel_rfl) (by simp) ?_
      refine AllReadyH.cons rfl (fun K hK => ?_) ?za8
      case za8 => exact AllReadyH.nil
      go_simp
      refine (L1.out _).mono ?_
      rintro e w9a8 ⟨rfl, b9⟩
      refine hK.out _ _ (SK.out _ (bt hHeld.1 b9)) (fun hNew => ?_)
      clear hHeld
      have hHeld := hNew
      clear hNew hK K
      try simp only [List.getElem_toArray, List.getElem_cons_succ, List.getElem_cons_zero, Act.put, List.setIfInBounds_toArray, List.set_cons_zero, List.set_cons_succ]
      refine wpAnyH_take (i := 9) (v := ?va9) rfl (by kernel_rfl) (by kernel_rfl) (by kernel_rfl) (fun _ _ _ h => h) (Or.inl ⟨by rfl, ?ya9⟩) (by assumption) ?_
      case ya9 => intro w hSw; (try dsimp only at hSw); go_simp <;> with_reducible rfl
      try simp only [List.getElem_toArray, List.getElem_cons_succ, List.getElem_cons_zero, Act.put, List.setIfInBounds_toArray, List.set_cons_zero, List.set_cons_succ]
      refine wpAnyH_done (by kernel_rfl) ?_ _
      have Bw9a8 := Lib.hid (bt hbel.out hHeld.1)
      have Sw9a8 := Lib.hid (HS.out.keeps hHeld.1)
      have Zw9a8 := Lib.hid Bw9a8.out.size
      clear hHeld HS hbel SK L1
      go_wp2
      have bz := Bw9a8.out
      have rz := Below.refl w9a8.heap.size w9a8
      obtain ⟨cs, so, sr⟩ := Sw9a8.out
      rw [← HM.out] at so
      have SO := Lib.hid so
      have SRR := Lib.hid sr
      have FO : Hid (∀ z ∈ ([.int .u8 (k : Int), .int .u32 (t : Int), .int .u8 (r : Int), .slice uo nu uc, .int .i64 p] : List Value), z.oneCell' = true) := opE.one INX.out
      clear so sr
      go_region_held3 (fun w' => Below w.heap.size w w' ∧ w'.cell? ⟨bb, oo, none⟩ = some (.int .u8 (k : Int)) ∧ w'.cell? ⟨bb, oo + 1, none⟩ = some (.int .u32 (t : Int)) ∧ w'.cell? ⟨bb, oo + 2, none⟩ = some (.int .u8 (r : Int)) ∧ w'.cell? ⟨bb, oo + 3, none⟩ = some (.slice uo nu uc) ∧ w'.cell? ⟨bb, oo + 4, none⟩ = some (.int .i64 p))
        (first | (go_split_ands; refine SX.out _ ?_; repeat' (first | assumption | (with_reducible refine Below.drew ?_) | (with_reducible refine below_draw ?_ _) | (with_reducible refine alloc_bs ?_ _) | fail)))
        ((refine step_append_sees rfl (.tmp 40) (.tmp 44) 22 54 rfl Try.underlying22 op_info rfl (by decide) w.heap.size _ m cs ?e1 (own_stays SO.out ?hb) (.slice (some ⟨w9a8.heap.size, 0, none⟩) 1 1) 1 [.int .u8 (k : Int), .int .u32 (t : Int), .int .u8 (r : Int), .slice uo nu uc, .int .i64 p] ?e2 (sees_blk5 (e := 54) ?hG) FO.out (by omega) (by omega) ?hz ?_
          case e1 => rfl
          case e2 => rfl
          case hb => repeat' (first | assumption | (with_reducible refine Below.drew ?_) | (with_reducible refine below_draw ?_ _) | (with_reducible refine alloc_bs ?_ _) | fail)
          case hG => repeat' (first | ((with_reducible refine blk_new ?_); (first | rfl | (simp; done))) | (with_reducible refine blk_drew ?_) | (with_reducible refine blk_old ?_))
          case hz => (refine Below.size (?_ : Below w.heap.size w _); repeat' (first | assumption | (with_reducible refine Below.drew ?_) | (with_reducible refine below_draw ?_ _) | (with_reducible refine alloc_bs ?_ _) | fail))
          intro v6 w6 o6 g6 b6
          refine hold (fun (hb6 : Below w.heap.size w w6) => ?_) (Below.trans ?hc b6)
          case hc => repeat' (first | assumption | (with_reducible refine Below.drew ?_) | (with_reducible refine below_draw ?_ _) | (with_reducible refine alloc_bs ?_ _) | fail)
          have S6 : Hid (ShrO w w6 v6 (L ++ [x])) := ⟨_, by rw [← HMX.out]; exact o6, Enc.rows_snoc SRR.out INX.out⟩
          obtain ⟨vo, vc, rfl⟩ : ∃ ao cap, v6 = .slice ao (m + 1) cap := Sees.shape (Sees.own o6)
          have B6 := Lib.hid hb6
          clear o6 g6 b6 SO SRR FO))
      go_wp2
      go_roundw
      case rel => exact ⟨ta, y :: tb, L ++ [x], _, na - 1, ca - 1, _, nb, cb, _, m + 1, _, rfl, rfl, rfl, HTA, HNB, HMX, by omega, PTA, HB, S6, HR2, B6⟩
      case measure => simp; omega
    rw [decide_eq_false hxy] at L1
    by_cases hyx : lessO y x
    · have HR2 := Lib.hid (RM.out hyx)
      rw [decide_eq_true hyx] at L2
      clear RL RM RS hxy hyx SX INX PTA HMX
      go_wp2
      refine wp_region_held_drew (S := fun w' => Below wr.heap.size wr w' ∧ w'.cell? ⟨bb, oo + 1, none⟩ = some (.int .u32 (t : Int)) ∧ w'.cell? ⟨bb, oo + 2, none⟩ = some (.int .u8 (r : Int)) ∧ w'.cell? ⟨bby, ooy + 1, none⟩ = some (.int .u32 (ty : Int)) ∧ w'.cell? ⟨bby, ooy + 2, none⟩ = some (.int .u8 (ry : Int))) (by kernel_rfl) (SK.out _ (drew1 _)) (fun hHeld => ?_)
      refine wpAnyH_take (i := 0) (v := ?vb0) rfl (by kernel_rfl) (by kernel_rfl) (by kernel_rfl) (fun _ _ _ h => h) (Or.inl ⟨by rfl, ?yb0⟩) (by assumption) ?_
      case yb0 => intro w hSw; (try dsimp only at hSw); go_simp <;> with_reducible rfl
      try simp only [List.getElem_toArray, List.getElem_cons_zero, Act.put, List.setIfInBounds_toArray, List.set_cons_zero, List.set_cons_succ]
      refine wpAnyH_take (i := 1) (v := ?vb1) rfl (by kernel_rfl) (by kernel_rfl) (by kernel_rfl) (fun _ _ _ h => h) (Or.inl ⟨by rfl, ?yb1⟩) (by assumption) ?_
      case yb1 => intro w hSw; (try dsimp only at hSw); go_simp <;> with_reducible rfl
      try simp only [List.getElem_toArray, List.getElem_cons_succ, List.getElem_cons_zero, Act.put, List.setIfInBounds_toArray, List.set_cons_zero, List.set_cons_succ]
      refine wpAnyH_take (i := 2) (v := ?vb2) rfl (by kernel_rfl) (by kernel_rfl) (by kernel_rfl) (fun _ _ _ h => h) (Or.inl ⟨by rfl, ?yb2⟩) (by assumption) ?_
      case yb2 => intro w hSw; (try dsimp only at hSw); go_simp <;> with_reducible rfl
      try simp only [List.getElem_toArray, List.getElem_cons_succ, List.getElem_cons_zero, Act.put, List.setIfInBounds_toArray, List.set_cons_zero, List.set_cons_succ]
      refine wpAnyH_take (i := 3) (v := ?vb3) rfl (by kernel_rfl) (by kernel_rfl) (by kernel_rfl) (fun _ _ _ h => h) (Or.inl ⟨by rfl, ?yb3⟩) (by assumption) ?_
      case yb3 => intro w hSw; (try dsimp only at hSw); go_simp <;> with_reducible rfl
      try simp only [List.getElem_toArray, List.getElem_cons_succ, List.getElem_cons_zero, Act.put, List.setIfInBounds_toArray, List.set_cons_zero, List.set_cons_succ]
      refine wpAnyH_take (i := 4) (v := ?vb4) rfl (by kernel_rfl) (by kernel_rfl) (by kernel_rfl) (fun _ _ _ h => h) (Or.inl ⟨by rfl, ?yb4⟩) (by assumption) ?_
      case yb4 => intro w hSw; (try dsimp only at hSw); go_simp <;> with_reducible rfl
      try simp only [List.getElem_toArray, List.getElem_cons_succ, List.getElem_cons_zero, Act.put, List.setIfInBounds_toArray, List.set_cons_zero, List.set_cons_succ]
      refine wpAnyH_take (i := 5) (v := ?vb5) rfl (by kernel_rfl) (by kernel_rfl) (by kernel_rfl) (fun _ _ _ h => h) (Or.inl ⟨by rfl, ?yb5⟩) (by assumption) ?_
      case yb5 => intro w hSw; (try dsimp only at hSw); go_simp <;> with_reducible rfl
      try simp only [List.getElem_toArray, List.getElem_cons_succ, List.getElem_cons_zero, Act.put, List.setIfInBounds_toArray, List.set_cons_zero, List.set_cons_succ]
      refine wpAnyH_take (i := 6) (v := ?vb6) rfl (by kernel_rfl) (by kernel_rfl) (by kernel_rfl) (fun _ _ _ h => h) (Or.inl ⟨by rfl, ?yb6⟩) (by assumption) ?_
      case yb6 => intro w hSw; (try dsimp only at hSw); go_simp <;> with_reducible rfl
      try simp only [List.getElem_toArray, List.getElem_cons_succ, List.getElem_cons_zero, Act.put, List.setIfInBounds_toArray, List.set_cons_zero, List.set_cons_succ]
      refine wpAnyH_take (i := 7) (v := ?vb7) rfl (by kernel_rfl) (by kernel_rfl) (by kernel_rfl) (fun _ _ _ h => h) (Or.inl ⟨by rfl, ?yb7⟩) (by assumption) ?_
      case yb7 => intro w hSw; (try dsimp only at hSw); go_simp <;> with_reducible rfl
      try simp only [List.getElem_toArray, List.getElem_cons_succ, List.getElem_cons_zero, Act.put, List.setIfInBounds_toArray, List.set_cons_zero, List.set_cons_succ]
      refine wpAnyH_ready (rs := [8]) (by kernel_rfl) (by simp) ?_
      refine AllReadyH.cons rfl (fun K hK => ?_) ?zb8
      case zb8 => exact AllReadyH.nil
      go_simp
      refine (L1.out _).mono ?_
      rintro e w9b8 ⟨rfl, b9⟩
      refine hK.out _ _ (SK.out _ (bt hHeld.1 b9)) (fun hNew => ?_)
      clear hHeld
      have hHeld := hNew
      clear hNew hK K
      try simp only [List.getElem_toArray, List.getElem_cons_succ, List.getElem_cons_zero, Act.put, List.setIfInBounds_toArray, List.set_cons_zero, List.set_cons_succ]
      refine wpAnyH_take (i := 9) (v := ?vb9) rfl (by kernel_rfl) (by kernel_rfl) (by kernel_rfl) (fun _ _ _ h => h) (Or.inl ⟨by rfl, ?yb9⟩) (by assumption) ?_
      case yb9 => intro w hSw; (try dsimp only at hSw); go_simp <;> with_reducible rfl
      try simp only [List.getElem_toArray, List.getElem_cons_succ, List.getElem_cons_zero, Act.put, List.setIfInBounds_toArray, List.set_cons_zero, List.set_cons_succ]
      refine wpAnyH_done (by kernel_rfl) ?_ _
      have Bw9b8 := Lib.hid (bt hbel.out hHeld.1)
      have Sw9b8 := Lib.hid (HS.out.keeps hHeld.1)
      have Zw9b8 := Lib.hid Bw9b8.out.size
      have SK2 : Hid (∀ w' : World, Below w9b8.heap.size w9b8 w' → Below w9b8.heap.size w9b8 w' ∧ w'.cell? ⟨bb, oo + 1, none⟩ = some (.int .u32 (t : Int)) ∧ w'.cell? ⟨bb, oo + 2, none⟩ = some (.int .u8 (r : Int)) ∧ w'.cell? ⟨bby, ooy + 1, none⟩ = some (.int .u32 (ty : Int)) ∧ w'.cell? ⟨bby, ooy + 2, none⟩ = some (.int .u8 (ry : Int))) := fun W h => ⟨h, (SK.out W (bt hHeld.1 h)).2⟩
      clear hHeld HS hbel SK L1
      go_wp2
      refine wp_region_held_drew (S := fun w' => Below w9b8.heap.size w9b8 w' ∧ w'.cell? ⟨bb, oo + 1, none⟩ = some (.int .u32 (t : Int)) ∧ w'.cell? ⟨bb, oo + 2, none⟩ = some (.int .u8 (r : Int)) ∧ w'.cell? ⟨bby, ooy + 1, none⟩ = some (.int .u32 (ty : Int)) ∧ w'.cell? ⟨bby, ooy + 2, none⟩ = some (.int .u8 (ry : Int))) (by kernel_rfl) (SK2.out _ (drew1 _)) (fun hHeld => ?_)
      refine wpAnyH_take (i := 0) (v := ?vb20) rfl (by kernel_rfl) (by kernel_rfl) (by kernel_rfl) (fun _ _ _ h => h) (Or.inl ⟨by rfl, ?yb20⟩) (by assumption) ?_
      case yb20 => intro w hSw; (try dsimp only at hSw); go_simp <;> with_reducible rfl
      try simp only [List.getElem_toArray, List.getElem_cons_zero, Act.put, List.setIfInBounds_toArray, List.set_cons_zero, List.set_cons_succ]
      refine wpAnyH_take (i := 1) (v := ?vb21) rfl (by kernel_rfl) (by kernel_rfl) (by kernel_rfl) (fun _ _ _ h => h) (Or.inl ⟨by rfl, ?yb21⟩) (by assumption) ?_
      case yb21 => intro w hSw; (try dsimp only at hSw); go_simp <;> with_reducible rfl
      try simp only [List.getElem_toArray, List.getElem_cons_succ, List.getElem_cons_zero, Act.put, List.setIfInBounds_toArray, List.set_cons_zero, List.set_cons_succ]
      refine wpAnyH_take (i := 2) (v := ?vb22) rfl (by kernel_rfl) (by kernel_rfl) (by kernel_rfl) (fun _ _ _ h => h) (Or.inl ⟨by rfl, ?yb22⟩) (by assumption) ?_
      case yb22 => intro w hSw; (try dsimp only at hSw); go_simp <;> with_reducible rfl
      try simp only [List.getElem_toArray, List.getElem_cons_succ, List.getElem_cons_zero, Act.put, List.setIfInBounds_toArray, List.set_cons_zero, List.set_cons_succ]
      refine wpAnyH_take (i := 3) (v := ?vb23) rfl (by kernel_rfl) (by kernel_rfl) (by kernel_rfl) (fun _ _ _ h => h) (Or.inl ⟨by rfl, ?yb23⟩) (by assumption) ?_
      case yb23 => intro w hSw; (try dsimp only at hSw); go_simp <;> with_reducible rfl
      try simp only [List.getElem_toArray, List.getElem_cons_succ, List.getElem_cons_zero, Act.put, List.setIfInBounds_toArray, List.set_cons_zero, List.set_cons_succ]
      refine wpAnyH_take (i := 4) (v := ?vb24) rfl (by kernel_rfl) (by kernel_rfl) (by kernel_rfl) (fun _ _ _ h => h) (Or.inl ⟨by rfl, ?yb24⟩) (by assumption) ?_
      case yb24 => intro w hSw; (try dsimp only at hSw); go_simp <;> with_reducible rfl
      try simp only [List.getElem_toArray, List.getElem_cons_succ, List.getElem_cons_zero, Act.put, List.setIfInBounds_toArray, List.set_cons_zero, List.set_cons_succ]
      refine wpAnyH_take (i := 5) (v := ?vb25) rfl (by kernel_rfl) (by kernel_rfl) (by kernel_rfl) (fun _ _ _ h => h) (Or.inl ⟨by rfl, ?yb25⟩) (by assumption) ?_
      case yb25 => intro w hSw; (try dsimp only at hSw); go_simp <;> with_reducible rfl
      try simp only [List.getElem_toArray, List.getElem_cons_succ, List.getElem_cons_zero, Act.put, List.setIfInBounds_toArray, List.set_cons_zero, List.set_cons_succ]
      refine wpAnyH_take (i := 6) (v := ?vb26) rfl (by kernel_rfl) (by kernel_rfl) (by kernel_rfl) (fun _ _ _ h => h) (Or.inl ⟨by rfl, ?yb26⟩) (by assumption) ?_
      case yb26 => intro w hSw; (try dsimp only at hSw); go_simp <;> with_reducible rfl
      try simp only [List.getElem_toArray, List.getElem_cons_succ, List.getElem_cons_zero, Act.put, List.setIfInBounds_toArray, List.set_cons_zero, List.set_cons_succ]
      refine wpAnyH_take (i := 7) (v := ?vb27) rfl (by kernel_rfl) (by kernel_rfl) (by kernel_rfl) (fun _ _ _ h => h) (Or.inl ⟨by rfl, ?yb27⟩) (by assumption) ?_
      case yb27 => intro w hSw; (try dsimp only at hSw); go_simp <;> with_reducible rfl
      try simp only [List.getElem_toArray, List.getElem_cons_succ, List.getElem_cons_zero, Act.put, List.setIfInBounds_toArray, List.set_cons_zero, List.set_cons_succ]
      refine wpAnyH_ready (rs := [8]) (by kernel_rfl) (by simp) ?_
      refine AllReadyH.cons rfl (fun K hK => ?_) ?zb28
      case zb28 => exact AllReadyH.nil
      go_simp
      refine (L2.out _).mono ?_
      rintro e w9b28 ⟨rfl, b9⟩
      refine hK.out _ _ (SK2.out _ (bt hHeld.1 b9)) (fun hNew => ?_)
      clear hHeld
      have hHeld := hNew
      clear hNew hK K
      try simp only [List.getElem_toArray, List.getElem_cons_succ, List.getElem_cons_zero, Act.put, List.setIfInBounds_toArray, List.set_cons_zero, List.set_cons_succ]
      refine wpAnyH_take (i := 9) (v := ?vb29) rfl (by kernel_rfl) (by kernel_rfl) (by kernel_rfl) (fun _ _ _ h => h) (Or.inl ⟨by rfl, ?yb29⟩) (by assumption) ?_
      case yb29 => intro w hSw; (try dsimp only at hSw); go_simp <;> with_reducible rfl
      try simp only [List.getElem_toArray, List.getElem_cons_succ, List.getElem_cons_zero, Act.put, List.setIfInBounds_toArray, List.set_cons_zero, List.set_cons_succ]
      refine wpAnyH_done (by kernel_rfl) ?_ _
      have Bw9b28 := Lib.hid (bt Bw9b8.out hHeld.1)
      have Sw9b28 := Lib.hid (Sw9b8.out.keeps hHeld.1)
      have Zw9b28 := Lib.hid Bw9b28.out.size
      clear hHeld Sw9b8 Bw9b8 Zw9b8 SK2 L2
      go_wp2
      have bz := Bw9b28.out
      have rz := Below.refl w9b28.heap.size w9b28
      obtain ⟨cs, so, sr⟩ := Sw9b28.out
      rw [← HM.out] at so
      have SO := Lib.hid so
      have SRR := Lib.hid sr
      have FO : Hid (∀ z ∈ ([.int .u8 (ky : Int), .int .u32 (ty : Int), .int .u8 (ry : Int), .slice uoy nuy ucy, .int .i64 py] : List Value), z.oneCell' = true) := opE.one INY.out
      clear so sr
      go_region_held3 (fun w' => Below w.heap.size w w' ∧ w'.cell? ⟨bby, ooy, none⟩ = some (.int .u8 (ky : Int)) ∧ w'.cell? ⟨bby, ooy + 1, none⟩ = some (.int .u32 (ty : Int)) ∧ w'.cell? ⟨bby, ooy + 2, none⟩ = some (.int .u8 (ry : Int)) ∧ w'.cell? ⟨bby, ooy + 3, none⟩ = some (.slice uoy nuy ucy) ∧ w'.cell? ⟨bby, ooy + 4, none⟩ = some (.int .i64 py))
        (first | (go_split_ands; refine SY.out _ ?_; repeat' (first | assumption | (with_reducible refine Below.drew ?_) | (with_reducible refine below_draw ?_ _) | (with_reducible refine alloc_bs ?_ _) | fail)))
        ((refine step_append_sees rfl (.tmp 58) (.tmp 62) 22 54 rfl Try.underlying22 op_info rfl (by decide) w.heap.size _ m cs ?e1 (own_stays SO.out ?hb) (.slice (some ⟨w9b28.heap.size, 0, none⟩) 1 1) 1 [.int .u8 (ky : Int), .int .u32 (ty : Int), .int .u8 (ry : Int), .slice uoy nuy ucy, .int .i64 py] ?e2 (sees_blk5 (e := 54) ?hG) FO.out (by omega) (by omega) ?hz ?_
          case e1 => rfl
          case e2 => rfl
          case hb => repeat' (first | assumption | (with_reducible refine Below.drew ?_) | (with_reducible refine below_draw ?_ _) | (with_reducible refine alloc_bs ?_ _) | fail)
          case hG => repeat' (first | ((with_reducible refine blk_new ?_); (first | rfl | (simp; done))) | (with_reducible refine blk_drew ?_) | (with_reducible refine blk_old ?_))
          case hz => (refine Below.size (?_ : Below w.heap.size w _); repeat' (first | assumption | (with_reducible refine Below.drew ?_) | (with_reducible refine below_draw ?_ _) | (with_reducible refine alloc_bs ?_ _) | fail))
          intro v6 w6 o6 g6 b6
          refine hold (fun (hb6 : Below w.heap.size w w6) => ?_) (Below.trans ?hc b6)
          case hc => repeat' (first | assumption | (with_reducible refine Below.drew ?_) | (with_reducible refine below_draw ?_ _) | (with_reducible refine alloc_bs ?_ _) | fail)
          have S6 : Hid (ShrO w w6 v6 (L ++ [y])) := ⟨_, by rw [← HMY.out]; exact o6, Enc.rows_snoc SRR.out INY.out⟩
          obtain ⟨vo, vc, rfl⟩ : ∃ ao cap, v6 = .slice ao (m + 1) cap := Sees.shape (Sees.own o6)
          have B6 := Lib.hid hb6
          clear o6 g6 b6 SO SRR FO))
      go_wp2
      go_roundw
      case rel => exact ⟨x :: ta, tb, L ++ [y], _, na, ca, _, nb - 1, cb - 1, _, m + 1, _, rfl, rfl, rfl, HNA, HTB, HMY, by omega, HA, PTB, S6, HR2, B6⟩
      case measure => simp; omega
    · have HR2 := Lib.hid (RS.out hxy hyx)
      rw [decide_eq_false hyx] at L2
      clear RL RM RS hxy hyx SY INY HMY
      go_wp2
      refine wp_region_held_drew (S := fun w' => Below wr.heap.size wr w' ∧ w'.cell? ⟨bb, oo + 1, none⟩ = some (.int .u32 (t : Int)) ∧ w'.cell? ⟨bb, oo + 2, none⟩ = some (.int .u8 (r : Int)) ∧ w'.cell? ⟨bby, ooy + 1, none⟩ = some (.int .u32 (ty : Int)) ∧ w'.cell? ⟨bby, ooy + 2, none⟩ = some (.int .u8 (ry : Int))) (by kernel_rfl) (SK.out _ (drew1 _)) (fun hHeld => ?_)
      refine wpAnyH_take (i := 0) (v := ?vc0) rfl (by kernel_rfl) (by kernel_rfl) (by kernel_rfl) (fun _ _ _ h => h) (Or.inl ⟨by rfl, ?yc0⟩) (by assumption) ?_
      case yc0 => intro w hSw; (try dsimp only at hSw); go_simp <;> with_reducible rfl
      try simp only [List.getElem_toArray, List.getElem_cons_zero, Act.put, List.setIfInBounds_toArray, List.set_cons_zero, List.set_cons_succ]
      refine wpAnyH_take (i := 1) (v := ?vc1) rfl (by kernel_rfl) (by kernel_rfl) (by kernel_rfl) (fun _ _ _ h => h) (Or.inl ⟨by rfl, ?yc1⟩) (by assumption) ?_
      case yc1 => intro w hSw; (try dsimp only at hSw); go_simp <;> with_reducible rfl
      try simp only [List.getElem_toArray, List.getElem_cons_succ, List.getElem_cons_zero, Act.put, List.setIfInBounds_toArray, List.set_cons_zero, List.set_cons_succ]
      refine wpAnyH_take (i := 2) (v := ?vc2) rfl (by kernel_rfl) (by kernel_rfl) (by kernel_rfl) (fun _ _ _ h => h) (Or.inl ⟨by rfl, ?yc2⟩) (by assumption) ?_
      case yc2 => intro w hSw; (try dsimp only at hSw); go_simp <;> with_reducible rfl
      try simp only [List.getElem_toArray, List.getElem_cons_succ, List.getElem_cons_zero, Act.put, List.setIfInBounds_toArray, List.set_cons_zero, List.set_cons_succ]
      refine wpAnyH_take (i := 3) (v := ?vc3) rfl (by kernel_rfl) (by kernel_rfl) (by kernel_rfl) (fun _ _ _ h => h) (Or.inl ⟨by rfl, ?yc3⟩) (by assumption) ?_
      case yc3 => intro w hSw; (try dsimp only at hSw); go_simp <;> with_reducible rfl
      try simp only [List.getElem_toArray, List.getElem_cons_succ, List.getElem_cons_zero, Act.put, List.setIfInBounds_toArray, List.set_cons_zero, List.set_cons_succ]
      refine wpAnyH_take (i := 4) (v := ?vc4) rfl (by kernel_rfl) (by kernel_rfl) (by kernel_rfl) (fun _ _ _ h => h) (Or.inl ⟨by rfl, ?yc4⟩) (by assumption) ?_
      case yc4 => intro w hSw; (try dsimp only at hSw); go_simp <;> with_reducible rfl
      try simp only [List.getElem_toArray, List.getElem_cons_succ, List.getElem_cons_zero, Act.put, List.setIfInBounds_toArray, List.set_cons_zero, List.set_cons_succ]
      refine wpAnyH_take (i := 5) (v := ?vc5) rfl (by kernel_rfl) (by kernel_rfl) (by kernel_rfl) (fun _ _ _ h => h) (Or.inl ⟨by rfl, ?yc5⟩) (by assumption) ?_
      case yc5 => intro w hSw; (try dsimp only at hSw); go_simp <;> with_reducible rfl
      try simp only [List.getElem_toArray, List.getElem_cons_succ, List.getElem_cons_zero, Act.put, List.setIfInBounds_toArray, List.set_cons_zero, List.set_cons_succ]
      refine wpAnyH_take (i := 6) (v := ?vc6) rfl (by kernel_rfl) (by kernel_rfl) (by kernel_rfl) (fun _ _ _ h => h) (Or.inl ⟨by rfl, ?yc6⟩) (by assumption) ?_
      case yc6 => intro w hSw; (try dsimp only at hSw); go_simp <;> with_reducible rfl
      try simp only [List.getElem_toArray, List.getElem_cons_succ, List.getElem_cons_zero, Act.put, List.setIfInBounds_toArray, List.set_cons_zero, List.set_cons_succ]
      refine wpAnyH_take (i := 7) (v := ?vc7) rfl (by kernel_rfl) (by kernel_rfl) (by kernel_rfl) (fun _ _ _ h => h) (Or.inl ⟨by rfl, ?yc7⟩) (by assumption) ?_
      case yc7 => intro w hSw; (try dsimp only at hSw); go_simp <;> with_reducible rfl
      try simp only [List.getElem_toArray, List.getElem_cons_succ, List.getElem_cons_zero, Act.put, List.setIfInBounds_toArray, List.set_cons_zero, List.set_cons_succ]
      refine wpAnyH_ready (rs := [8]) (by kernel_rfl) (by simp) ?_
      refine AllReadyH.cons rfl (fun K hK => ?_) ?zc8
      case zc8 => exact AllReadyH.nil
      go_simp
      refine (L1.out _).mono ?_
      rintro e w9c8 ⟨rfl, b9⟩
      refine hK.out _ _ (SK.out _ (bt hHeld.1 b9)) (fun hNew => ?_)
      clear hHeld
      have hHeld := hNew
      clear hNew hK K
      try simp only [List.getElem_toArray, List.getElem_cons_succ, List.getElem_cons_zero, Act.put, List.setIfInBounds_toArray, List.set_cons_zero, List.set_cons_succ]
      refine wpAnyH_take (i := 9) (v := ?vc9) rfl (by kernel_rfl) (by kernel_rfl) (by kernel_rfl) (fun _ _ _ h => h) (Or.inl ⟨by rfl, ?yc9⟩) (by assumption) ?_
      case yc9 => intro w hSw; (try dsimp only at hSw); go_simp <;> with_reducible rfl
      try simp only [List.getElem_toArray, List.getElem_cons_succ, List.getElem_cons_zero, Act.put, List.setIfInBounds_toArray, List.set_cons_zero, List.set_cons_succ]
      refine wpAnyH_done (by kernel_rfl) ?_ _
      have Bw9c8 := Lib.hid (bt hbel.out hHeld.1)
      have Sw9c8 := Lib.hid (HS.out.keeps hHeld.1)
      have Zw9c8 := Lib.hid Bw9c8.out.size
      have SK2 : Hid (∀ w' : World, Below w9c8.heap.size w9c8 w' → Below w9c8.heap.size w9c8 w' ∧ w'.cell? ⟨bb, oo + 1, none⟩ = some (.int .u32 (t : Int)) ∧ w'.cell? ⟨bb, oo + 2, none⟩ = some (.int .u8 (r : Int)) ∧ w'.cell? ⟨bby, ooy + 1, none⟩ = some (.int .u32 (ty : Int)) ∧ w'.cell? ⟨bby, ooy + 2, none⟩ = some (.int .u8 (ry : Int))) := fun W h => ⟨h, (SK.out W (bt hHeld.1 h)).2⟩
      clear hHeld HS hbel SK L1
      go_wp2
      refine wp_region_held_drew (S := fun w' => Below w9c8.heap.size w9c8 w' ∧ w'.cell? ⟨bb, oo + 1, none⟩ = some (.int .u32 (t : Int)) ∧ w'.cell? ⟨bb, oo + 2, none⟩ = some (.int .u8 (r : Int)) ∧ w'.cell? ⟨bby, ooy + 1, none⟩ = some (.int .u32 (ty : Int)) ∧ w'.cell? ⟨bby, ooy + 2, none⟩ = some (.int .u8 (ry : Int))) (by kernel_rfl) (SK2.out _ (drew1 _)) (fun hHeld => ?_)
      refine wpAnyH_take (i := 0) (v := ?vc20) rfl (by kernel_rfl) (by kernel_rfl) (by kernel_rfl) (fun _ _ _ h => h) (Or.inl ⟨by rfl, ?yc20⟩) (by assumption) ?_
      case yc20 => intro w hSw; (try dsimp only at hSw); go_simp <;> with_reducible rfl
      try simp only [List.getElem_toArray, List.getElem_cons_zero, Act.put, List.setIfInBounds_toArray, List.set_cons_zero, List.set_cons_succ]
      refine wpAnyH_take (i := 1) (v := ?vc21) rfl (by kernel_rfl) (by kernel_rfl) (by kernel_rfl) (fun _ _ _ h => h) (Or.inl ⟨by rfl, ?yc21⟩) (by assumption) ?_
      case yc21 => intro w hSw; (try dsimp only at hSw); go_simp <;> with_reducible rfl
      try simp only [List.getElem_toArray, List.getElem_cons_succ, List.getElem_cons_zero, Act.put, List.setIfInBounds_toArray, List.set_cons_zero, List.set_cons_succ]
      refine wpAnyH_take (i := 2) (v := ?vc22) rfl (by kernel_rfl) (by kernel_rfl) (by kernel_rfl) (fun _ _ _ h => h) (Or.inl ⟨by rfl, ?yc22⟩) (by assumption) ?_
      case yc22 => intro w hSw; (try dsimp only at hSw); go_simp <;> with_reducible rfl
      try simp only [List.getElem_toArray, List.getElem_cons_succ, List.getElem_cons_zero, Act.put, List.setIfInBounds_toArray, List.set_cons_zero, List.set_cons_succ]
      refine wpAnyH_take (i := 3) (v := ?vc23) rfl (by kernel_rfl) (by kernel_rfl) (by kernel_rfl) (fun _ _ _ h => h) (Or.inl ⟨by rfl, ?yc23⟩) (by assumption) ?_
      case yc23 => intro w hSw; (try dsimp only at hSw); go_simp <;> with_reducible rfl
      try simp only [List.getElem_toArray, List.getElem_cons_succ, List.getElem_cons_zero, Act.put, List.setIfInBounds_toArray, List.set_cons_zero, List.set_cons_succ]
      refine wpAnyH_take (i := 4) (v := ?vc24) rfl (by kernel_rfl) (by kernel_rfl) (by kernel_rfl) (fun _ _ _ h => h) (Or.inl ⟨by rfl, ?yc24⟩) (by assumption) ?_
      case yc24 => intro w hSw; (try dsimp only at hSw); go_simp <;> with_reducible rfl
      try simp only [List.getElem_toArray, List.getElem_cons_succ, List.getElem_cons_zero, Act.put, List.setIfInBounds_toArray, List.set_cons_zero, List.set_cons_succ]
      refine wpAnyH_take (i := 5) (v := ?vc25) rfl (by kernel_rfl) (by kernel_rfl) (by kernel_rfl) (fun _ _ _ h => h) (Or.inl ⟨by rfl, ?yc25⟩) (by assumption) ?_
      case yc25 => intro w hSw; (try dsimp only at hSw); go_simp <;> with_reducible rfl
      try simp only [List.getElem_toArray, List.getElem_cons_succ, List.getElem_cons_zero, Act.put, List.setIfInBounds_toArray, List.set_cons_zero, List.set_cons_succ]
      refine wpAnyH_take (i := 6) (v := ?vc26) rfl (by kernel_rfl) (by kernel_rfl) (by kernel_rfl) (fun _ _ _ h => h) (Or.inl ⟨by rfl, ?yc26⟩) (by assumption) ?_
      case yc26 => intro w hSw; (try dsimp only at hSw); go_simp <;> with_reducible rfl
      try simp only [List.getElem_toArray, List.getElem_cons_succ, List.getElem_cons_zero, Act.put, List.setIfInBounds_toArray, List.set_cons_zero, List.set_cons_succ]
      refine wpAnyH_take (i := 7) (v := ?vc27) rfl (by kernel_rfl) (by kernel_rfl) (by kernel_rfl) (fun _ _ _ h => h) (Or.inl ⟨by rfl, ?yc27⟩) (by assumption) ?_
      case yc27 => intro w hSw; (try dsimp only at hSw); go_simp <;> with_reducible rfl
      try simp only [List.getElem_toArray, List.getElem_cons_succ, List.getElem_cons_zero, Act.put, List.setIfInBounds_toArray, List.set_cons_zero, List.set_cons_succ]
      refine wpAnyH_ready (rs := [8]) (by kernel_rfl) (by simp) ?_
      refine AllReadyH.cons rfl (fun K hK => ?_) ?zc28
      case zc28 => exact AllReadyH.nil
      go_simp
      refine (L2.out _).mono ?_
      rintro e w9c28 ⟨rfl, b9⟩
      refine hK.out _ _ (SK2.out _ (bt hHeld.1 b9)) (fun hNew => ?_)
      clear hHeld
      have hHeld := hNew
      clear hNew hK K
      try simp only [List.getElem_toArray, List.getElem_cons_succ, List.getElem_cons_zero, Act.put, List.setIfInBounds_toArray, List.set_cons_zero, List.set_cons_succ]
      refine wpAnyH_take (i := 9) (v := ?vc29) rfl (by kernel_rfl) (by kernel_rfl) (by kernel_rfl) (fun _ _ _ h => h) (Or.inl ⟨by rfl, ?yc29⟩) (by assumption) ?_
      case yc29 => intro w hSw; (try dsimp only at hSw); go_simp <;> with_reducible rfl
      try simp only [List.getElem_toArray, List.getElem_cons_succ, List.getElem_cons_zero, Act.put, List.setIfInBounds_toArray, List.set_cons_zero, List.set_cons_succ]
      refine wpAnyH_done (by kernel_rfl) ?_ _
      have Bw9c28 := Lib.hid (bt Bw9c8.out hHeld.1)
      have Sw9c28 := Lib.hid (Sw9c8.out.keeps hHeld.1)
      have Zw9c28 := Lib.hid Bw9c28.out.size
      clear hHeld Sw9c8 Bw9c8 Zw9c8 SK2 L2
      go_wp2
      have bz := Bw9c28.out
      have rz := Below.refl w9c28.heap.size w9c28
      obtain ⟨cs, so, sr⟩ := Sw9c28.out
      rw [← HM.out] at so
      have SO := Lib.hid so
      have SRR := Lib.hid sr
      have FO : Hid (∀ z ∈ ([.int .u8 (k : Int), .int .u32 (t : Int), .int .u8 (r : Int), .slice uo nu uc, .int .i64 p] : List Value), z.oneCell' = true) := opE.one INX.out
      clear so sr
      go_region_held3 (fun w' => Below w.heap.size w w' ∧ w'.cell? ⟨bb, oo, none⟩ = some (.int .u8 (k : Int)) ∧ w'.cell? ⟨bb, oo + 1, none⟩ = some (.int .u32 (t : Int)) ∧ w'.cell? ⟨bb, oo + 2, none⟩ = some (.int .u8 (r : Int)) ∧ w'.cell? ⟨bb, oo + 3, none⟩ = some (.slice uo nu uc) ∧ w'.cell? ⟨bb, oo + 4, none⟩ = some (.int .i64 p))
        (first | (go_split_ands; refine SX.out _ ?_; repeat' (first | assumption | (with_reducible refine Below.drew ?_) | (with_reducible refine below_draw ?_ _) | (with_reducible refine alloc_bs ?_ _) | fail)))
        ((refine step_append_sees rfl (.tmp 6) (.tmp 10) 22 54 rfl Try.underlying22 op_info rfl (by decide) w.heap.size _ m cs ?e1 (own_stays SO.out ?hb) (.slice (some ⟨w9c28.heap.size, 0, none⟩) 1 1) 1 [.int .u8 (k : Int), .int .u32 (t : Int), .int .u8 (r : Int), .slice uo nu uc, .int .i64 p] ?e2 (sees_blk5 (e := 54) ?hG) FO.out (by omega) (by omega) ?hz ?_
          case e1 => rfl
          case e2 => rfl
          case hb => repeat' (first | assumption | (with_reducible refine Below.drew ?_) | (with_reducible refine below_draw ?_ _) | (with_reducible refine alloc_bs ?_ _) | fail)
          case hG => repeat' (first | ((with_reducible refine blk_new ?_); (first | rfl | (simp; done))) | (with_reducible refine blk_drew ?_) | (with_reducible refine blk_old ?_))
          case hz => (refine Below.size (?_ : Below w.heap.size w _); repeat' (first | assumption | (with_reducible refine Below.drew ?_) | (with_reducible refine below_draw ?_ _) | (with_reducible refine alloc_bs ?_ _) | fail))
          intro v6 w6 o6 g6 b6
          refine hold (fun (hb6 : Below w.heap.size w w6) => ?_) (Below.trans ?hc b6)
          case hc => repeat' (first | assumption | (with_reducible refine Below.drew ?_) | (with_reducible refine below_draw ?_ _) | (with_reducible refine alloc_bs ?_ _) | fail)
          have S6 : Hid (ShrO w w6 v6 (L ++ [x])) := ⟨_, by rw [← HMX.out]; exact o6, Enc.rows_snoc SRR.out INX.out⟩
          obtain ⟨vo, vc, rfl⟩ : ∃ ao cap, v6 = .slice ao (m + 1) cap := Sees.shape (Sees.own o6)
          have B6 := Lib.hid hb6
          clear o6 g6 b6 SO SRR FO))
      go_wp2
      go_roundw
      case rel => exact ⟨ta, tb, L ++ [x], _, na - 1, ca - 1, _, nb - 1, cb - 1, _, m + 1, _, rfl, rfl, rfl, HTA, HTB, HMX, by omega, PTA, PTB, S6, HR2, B6⟩
      case measure => simp; omega
end Go.Proofs.Ytohiidgdpecbdaa.Bags

/- octavo/bag.Join: what it answers. Conditions: the slices' cells are operations. -/
namespace Go.Proofs.Ytohiidgdpecbdaa.Bags
open Go.RowKit Go.WideShapes Stamp Go.Proofs.Ytohiidgdpecbdaa.Place Ops Codes
attribute [local go_sem ↓] Go.wp_at_zero Go.wp_at_succ

theorem idx_l0 (x y : Value) (W : World) : (Instr.index 84 (.agg #[x, y]) (.int .i64 0)).run Try.prog W = .ok x W := by
  simp [Instr.index, asIntOf, run_underlying Try.underlying84, go_sem]
theorem idx_l1 (x y : Value) (W : World) : (Instr.index 84 (.agg #[x, y]) (.int .i64 1)).run Try.prog W = .ok y W := by
  simp [Instr.index, asIntOf, run_underlying Try.underlying84, go_sem]

set_option maxRecDepth 100000 in
set_option maxHeartbeats 4000000 in
theorem bJoin_any {u0 v0 : Value} {a b : List Opn} {w : World} (ha : OpL w u0 a) (hb : OpL w v0 b) :
    Calls Try.prog 17 #[u0, v0] w (DoneN (joinO a b) (joinE a b) w) := by
  have CK1 : Hid (∀ W : World, Below w.heap.size w W → Calls Try.prog 36 #[u0] W fun e w' => e = .returned (.int .i64 (chkL a)) ∧ Below W.heap.size W w') := fun W h => bCheck_any (ha.keeps h)
  have CK2 : Hid (∀ W : World, Below w.heap.size w W → Calls Try.prog 36 #[v0] W fun e w' => e = .returned (.int .i64 (chkL b)) ∧ Below W.heap.size W w') := fun W h => bCheck_any (hb.keeps h)
  have JN : Hid (Bag a → Bag b → ∀ W : World, Below w.heap.size w W → Calls Try.prog 37 #[u0, v0] W fun e w' => ∃ ao cap, e = .returned (.slice ao (bothO a b).length cap) ∧ OpL w' (.slice ao (bothO a b).length cap) (bothO a b) ∧ Below W.heap.size W w') := fun h1 h2 W h => by
    have := bJoined_any (ha.keeps h) (hb.keeps h) (by have := h1.1; have := h2.1; omega)
    rw [mrgO_both h1.2.2 h2.2.2] at this
    refine this.mono ?_
    rintro e w' ⟨ao, cap, rfl, hs, hb⟩
    exact ⟨ao, cap, rfl, hs.seq hb, hb⟩
  have TW : Hid (joinE a b = 0 → ∀ (W : World) (v : Value), OpL W v (bothO a b) → Calls Try.prog 38 #[v] W fun e w' => ∃ v', e = .returned v' ∧ OwnL w' W.heap.size v' (bothO a b) ∧ Below W.heap.size W w') := fun h W v hv => by
    obtain ⟨e, hbg⟩ := joinO_bag h
    rw [e] at hbg
    have hf := bag_fits hbg
    exact bTwin_any hv (by omega) hf.2
  have HBad : Hid (¬ (Bag a ∧ Bag b) → joinO a b = [] ∧ joinE a b = 8) := fun h => by
    have e : joinE a b = 8 := by unfold joinE; rw [if_pos (by rw [bagB_iff, bagB_iff]; exact h)]
    exact ⟨by unfold joinO; rw [e]; rfl, e⟩
  have HFull : Hid (Bag a → Bag b → 1024 < (bothO a b).length → joinO a b = [] ∧ joinE a b = 9) := fun h1 h2 h3 => by
    have e : joinE a b = 9 := by unfold joinE; rw [if_neg (by rw [bagB_iff, bagB_iff]; exact fun h => h ⟨h1, h2⟩), if_pos h3]
    exact ⟨by unfold joinO; rw [e]; rfl, e⟩
  have HGood : Hid (Bag a → Bag b → ¬ 1024 < (bothO a b).length → joinO a b = bothO a b ∧ joinE a b = 0) := fun h1 h2 h3 => by
    have e : joinE a b = 0 := by unfold joinE; rw [if_neg (by rw [bagB_iff, bagB_iff]; exact fun h => h ⟨h1, h2⟩), if_neg h3]
    exact ⟨by unfold joinO; rw [e]; rfl, e⟩
  obtain ⟨ao, ac, rfl⟩ := ha.shape
  obtain ⟨bo, bc, rfl⟩ := hb.shape
  obtain ⟨la, hla⟩ : ∃ la, la = a.length := ⟨_, rfl⟩
  obtain ⟨lb, hlb⟩ : ∃ lb, lb = b.length := ⟨_, rfl⟩
  obtain ⟨N, hN⟩ : ∃ N, N = (bothO a b).length := ⟨_, rfl⟩
  obtain ⟨RL, hRL⟩ : ∃ z, joinO a b = z := ⟨_, rfl⟩
  obtain ⟨RE, hRE⟩ : ∃ z, joinE a b = z := ⟨_, rfl⟩
  obtain ⟨RB, hRB⟩ : ∃ z, bothO a b = z := ⟨_, rfl⟩
  rw [← hN] at JN HFull HGood
  rw [hRL, hRE] at HBad HFull HGood ⊢
  rw [hRE] at TW
  rw [hRB] at TW JN HGood
  rw [← hla] at CK1 JN ⊢
  rw [← hlb] at CK2 JN ⊢
  have I0 := Lib.hid (idx_l0 (.slice ao la ac) (.slice bo lb bc))
  have I1 := Lib.hid (idx_l1 (.slice ao la ac) (.slice bo lb bc))
  obtain ⟨pa, hpa⟩ : ∃ p, bagB a = p := ⟨_, rfl⟩
  obtain ⟨pb, hpb⟩ : ∃ p, bagB b = p := ⟨_, rfl⟩
  have HPA := Lib.hid hpa
  have HPB := Lib.hid hpb
  unfold chkL at CK1 CK2
  rw [hpa] at CK1
  rw [hpb] at CK2
  have B0 : Hid (Below w.heap.size w w) := Below.refl _ _
  clear ha hb hla hlb hN hRL hRE hRB hpa hpb
  go_enter Try.func17, Try.ntmps17
  go_wp2
  go_loopw [13] (fun i wr => Hid (Below w.heap.size w wr) ∧ (i = .int .i64 0 ∨ (i = .int .i64 1 ∧ pa = true) ∨ (i = .int .i64 2 ∧ pa = true ∧ pb = true))) (fun i _ => 2 - (intOf i).toNat)
  case atStart => exact ⟨B0, .inl rfl⟩
  case round =>
    clear B0
    obtain ⟨hbel, hc⟩ := hrel
    rcases hc with rfl | ⟨rfl, rfl⟩ | ⟨rfl, rfl, rfl⟩
    · have i0 := I0.out
      have C := Lib.hid (CK1.out wr hbel.out)
      cases pa
      · obtain ⟨rfl, rfl⟩ := HBad.out (fun h => by have := (bagB_iff a).2 h.1; rw [HPA.out] at this; cases this)
        rw [if_neg (by simp)] at C
        go_wp2_with fail
        refine C.out.mono ?_
        rintro e w1 ⟨rfl, b1⟩
        have B1 := Lib.hid (bt hbel.out b1)
        clear b1
        go_wp2
        go_ret2
        exact ⟨_, rfl, OwnL.nil _ _, B1.out⟩
      · rw [if_pos rfl] at C
        go_wp2_with fail
        refine C.out.mono ?_
        rintro e w1 ⟨rfl, b1⟩
        have B1 := Lib.hid (bt hbel.out b1)
        clear b1
        go_wp2
        go_roundw
        case rel => exact ⟨B1, .inr (.inl ⟨by go_num, trivial⟩)⟩
        case measure => simp [intOf]
    · have i1 := I1.out
      have C := Lib.hid (CK2.out wr hbel.out)
      cases pb
      · obtain ⟨rfl, rfl⟩ := HBad.out (fun h => by have := (bagB_iff b).2 h.2; rw [HPB.out] at this; cases this)
        rw [if_neg (by simp)] at C
        go_wp2_with fail
        refine C.out.mono ?_
        rintro e w1 ⟨rfl, b1⟩
        have B1 := Lib.hid (bt hbel.out b1)
        clear b1
        go_wp2
        go_ret2
        exact ⟨_, rfl, OwnL.nil _ _, B1.out⟩
      · rw [if_pos rfl] at C
        go_wp2_with fail
        refine C.out.mono ?_
        rintro e w1 ⟨rfl, b1⟩
        have B1 := Lib.hid (bt hbel.out b1)
        clear b1
        go_wp2
        go_roundw
        case rel => exact ⟨B1, .inr (.inr ⟨by go_num, trivial, trivial⟩)⟩
        case measure => simp [intOf]
    · have hA := (bagB_iff a).1 HPA.out
      have hB := (bagB_iff b).1 HPB.out
      have JN2 := Lib.hid (JN.out hA hB wr hbel.out)
      have HF2 := Lib.hid (HFull.out hA hB)
      have HG2 := Lib.hid (HGood.out hA hB)
      clear JN HFull HGood HBad CK1 CK2 I0 I1 HPA HPB hA hB
      go_wp2_with fail
      refine JN2.out.mono ?_
      rintro e w2 ⟨jo, jc, rfl, o2, b2⟩
      have B2 := Lib.hid (bt hbel.out b2)
      have O2 := Lib.hid o2
      clear o2 b2 JN2
      by_cases hfull : 1024 < N
      · have d1 : decide (1024 < N) = true := decide_eq_true hfull
        have d2 : decide (1024 < (N : Int)) = true := decide_eq_true (by omega)
        obtain ⟨rfl, rfl⟩ := HF2.out hfull
        clear HF2 HG2 TW
        go_wp2
        go_ret2
        exact ⟨_, rfl, OwnL.nil _ _, B2.out⟩
      have d1 : decide (1024 < N) = false := decide_eq_false hfull
      have d2 : decide (1024 < (N : Int)) = false := decide_eq_false (by omega)
      obtain ⟨e1, rfl⟩ := HG2.out hfull
      have TW2 := Lib.hid (TW.out rfl _ _ O2.out)
      rw [← e1] at TW2
      clear HF2 HG2 TW e1
      go_wp2_with fail
      refine TW2.out.mono ?_
      rintro e w3 ⟨v3, rfl, o3, b3⟩
      have O3 : Hid (OwnL w3 w.heap.size v3 RL) := OwnL.base o3 B2.out.size
      have B3 := Lib.hid (bt B2.out b3)
      clear o3 b3
      go_wp2
      go_ret2
      exact ⟨_, rfl, O3.out, B3.out⟩
end Go.Proofs.Ytohiidgdpecbdaa.Bags

/- octavo/clock: Has, Same, Count, Top with the library's ContainsFunc, IndexFunc, EqualFunc: what each answers. Conditions: the slices' cells are replicas' spans. -/
namespace Go.Proofs.Ytohiidgdpecbdaa.Clocks
open Go.RowKit Go.Proofs.Ytohiidgdpecbdaa.Spans
attribute [local go_sem ↓] Go.wp_at_zero Go.wp_at_succ

/-! ### Has -/
/-! ### Same -/
end Go.Proofs.Ytohiidgdpecbdaa.Clocks

/- octavo/bag.Less: what it answers. Conditions: the slices' cells are operations, and replicas' spans. -/
namespace Go.Proofs.Ytohiidgdpecbdaa.Bags
open Go.RowKit Go.WideShapes Stamp Go.Proofs.Ytohiidgdpecbdaa.Place Ops Codes
attribute [local go_sem ↓] Go.wp_at_zero Go.wp_at_succ

end Go.Proofs.Ytohiidgdpecbdaa.Bags

/- octavo/bag.Find: what it answers. Conditions: the slice's cells are operations. -/
namespace Go.Proofs.Ytohiidgdpecbdaa.Bags
open Go.RowKit Go.WideShapes Stamp Go.Proofs.Ytohiidgdpecbdaa.Place Ops Codes
attribute [local go_sem ↓] Go.wp_at_zero Go.wp_at_succ

end Go.Proofs.Ytohiidgdpecbdaa.Bags

/- octavo/bag: what each call answers (bCheck_any, bSame_any, bTwin_any, bIds_any, bAdd_any, bJoin_any, bLess_any, bFind_any): gathered. Conditions: none. -/


/- octavolaw11.one, put, alive: what each answers. Conditions: the slices' cells are operations. -/
namespace Go.Proofs.Ytohiidgdpecbdaa.Bags
open Go.RowKit Go.WideShapes Stamp Go.Proofs.Ytohiidgdpecbdaa.Place Ops Codes
attribute [local go_sem ↓] Go.wp_at_zero Go.wp_at_succ
attribute [local go_sem] yielded_undef

/-- A mark's operation. -/
def oneO (t r : Nat) (h : t < 4294967296 ∧ r < 256) : Opn := ⟨2, t, r, [⟨t, r, 1, h.1, h.2, by decide⟩], 0, by decide, h.1, h.2, by decide⟩
def o30 : Opn := oneO 3 0 (by decide)
theorem rows_one {w : World} {g3 : Nat} (h3 : Runs w (.slice (some ⟨g3, 0, none⟩) 1 1) o30.pl) :
    opE.rows w [.int .u8 2, .int .u32 3, .int .u8 0, .slice (some ⟨g3, 0, none⟩) 1 1, .int .i64 0] [o30] := ⟨[.int .u8 2, .int .u32 3, .int .u8 0, .slice (some ⟨g3, 0, none⟩) 1 1, .int .i64 0], [], rfl, ⟨_, rfl, h3⟩, rfl⟩
end Go.Proofs.Ytohiidgdpecbdaa.Bags
