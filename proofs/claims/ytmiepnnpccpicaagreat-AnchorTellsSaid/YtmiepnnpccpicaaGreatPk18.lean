/- octavoref13.Home, Sections, Where, Begin: what each answers. Conditions: live marks that may be, in order; a place that may be, or the beginning. octavoref09.Target, octavoref12.Ended, Joined, Directory: what each answers. Conditions: of Target and Ended: operations that may be. Slices whose elements hold slices of an elder world; append of a whole part to a row of one's own; what is left behind a cut. Conditions: none. -/
import Derived.Test.YtmiepnnpccpicaaGreatChecked
import Derived.WalkKit
import Derived.WalkSpells
import Derived.WalkLawsBesides
import Derived.Laws.BytesArg
import Derived.Lib.Hide
import Derived.Deep.LoopGhost
import Derived.Laws.AppendOwnNone
import Derived.Laws.OwnMore
import Derived.WideShapes
import Derived.Maps.AppendAt
import Derived.RegionTactic
import Derived.Deep.RegionHeld3
import Derived.Deep.DrawnRows
import Derived.Deep.QuietTactic
import Derived.BigQuiet
import Derived.IntWalk
import Derived.Deep.DeepCutAuto
import Derived.ScopeJumps
import Derived.Test.YtmiepnnpccpicaaGreatProg
import Derived.LoopTactic
import Derived.Laws.EntriesVeiled
import Derived.RowKit
import Derived.Test.YtmiepnnpccpicaaGreatRw
import Derived.Test.YtmiepnnpccpicaaGreatPk05
import Derived.Test.YtmiepnnpccpicaaGreatPk17
import Derived.Test.YtmiepnnpccpicaaGreatPk04
import Derived.Test.YtmiepnnpccpicaaGreatPk16
import Derived.Test.YtmiepnnpccpicaaGreatPk03
import Derived.Test.YtmiepnnpccpicaaGreatPk02
import Derived.Test.YtmiepnnpccpicaaGreatPk15
import Derived.Test.YtmiepnnpccpicaaGreatPk01

namespace Go.Proofs.YtmiepnnpccpicaaGreat.Homes
open Go.RowKit Go.WideShapes Stamp Go.Proofs.YtmiepnnpccpicaaGreat.Place Ops Codes Bags Marks
attribute [local go_sem ↓] Go.wp_at_zero Go.wp_at_succ
attribute [local go_sem] yielded_undef
theorem homeM_take {live : List Opn} {p : List Run} {j : Nat} (hj : j < live.length) : homeM (live.take (j + 1)) p = if notBehind (live[j]'hj) p = true then idO (live[j]'hj) else homeM (live.take j) p := by
  rw [List.take_succ_eq_append_getElem hj, homeM_snoc]
set_option maxRecDepth 100000 in
set_option maxHeartbeats 8000000 in
theorem refHome_any {v u : Value} {live : List Opn} {p : List Run} {w : World} (hv : OpL w v live) (hu : Runs w u p) (hm : ∀ o ∈ live, mayO o = true) (hp : anyB p = true) :
    Calls Tryz.prog 29 #[v, u] w fun e w' => e = .returned (.agg #[.int .u32 ((homeM live p).t : Int), .int .u8 ((homeM live p).r : Int)]) ∧ Below w.heap.size w w' := by
  obtain ⟨ao, cap, rfl⟩ := hv.shape
  obtain ⟨n, hn⟩ : ∃ n, n = live.length := ⟨_, rfl⟩
  have hmx : n ≤ 9223372036854775807 := by rw [hn]; exact hv.max
  have HV : Hid (∀ W : World, Below w.heap.size w W → OpL W (.slice ao live.length cap) live) := fun W h => hv.keeps h
  have HN := Lib.hid hn
  have AP := (anyB_iff p).1 hp
  have HE : Hid (∀ (x : Opn) (y : Value) (W : World), x ∈ live → Runs w y x.pl → Below w.heap.size w W → Calls Tryz.prog 67 #[y, u] W fun e w' => e = .returned (.int .i64 (Go.Proofs.YtmiepnnpccpicaaGreat.Place.hold (all x.pl) (all p))) ∧ Below W.heap.size W w') := fun x y W hx hy h => by
    have M := (mayB_iff _).1 (mayO_parts (hm x hx)).2.1
    have hlp : p.length ≤ 100 := by
      rcases AP with rfl | h
      · simp
      · exact Nat.le_trans h.2.1 (by decide)
    exact held_any (hy.keeps h) (hu.keeps h) M.2.2.1 AP.chain (Nat.le_trans M.2.1 (by decide)) hlp
  rw [← hn]
  obtain ⟨wl, hwl⟩ : ∃ x, x = (w.alloc (.cells #[.int .u32 0, .int .u8 0] 25)).alloc (.cells #[.int .u32 0, .int .u8 0] 25) := ⟨_, rfl⟩
  have X0 : Hid (wl.heap[w.heap.size]? = some (.cells #[.int .u32 0, .int .u8 0] 25)) := by rw [hwl]; exact blk_old (blk_new rfl)
  have Y0 : Hid (wl.heap[w.heap.size + 1]? = some (.cells #[.int .u32 ((homeM (live.take 0) p).t : Int), .int .u8 ((homeM (live.take 0) p).r : Int)] 25)) := by rw [hwl]; exact blk_new (by simp)
  have B0 : Hid (Below w.heap.size w wl) := by rw [hwl]; exact ((Below.refl _ _).alloc (Nat.le_refl _) _).alloc (by simp) _
  have HW := Lib.hid hwl
  obtain ⟨R, hR⟩ : ∃ z, homeM live p = z := ⟨_, rfl⟩
  rw [hR]
  obtain ⟨T, r, hT, hr⟩ := R
  have HR := Lib.hid hR
  simp only
  clear hv hn hm hp AP hu hwl hR
  go_enter Tryz.func29, Tryz.ntmps29
  go_wp2
  rw [← HW.out]
  go_loopw [6] (fun i wr => ∃ j : Nat, j ≤ n ∧ i = .int .i64 (j : Int) ∧ Hid (wr.heap[w.heap.size]? = some (.cells #[.int .u32 0, .int .u8 0] 25)) ∧ Hid (wr.heap[w.heap.size + 1]? = some (.cells #[.int .u32 ((homeM (live.take j) p).t : Int), .int .u8 ((homeM (live.take j) p).r : Int)] 25)) ∧ Hid (Below w.heap.size w wr)) (fun i _ => n - (intOf i).toNat)
  case atStart => exact ⟨0, by omega, rfl, X0, Y0, B0⟩
  case round =>
    clear X0 Y0 B0 HW wl
    obtain ⟨j, hj, rfl, hx0, hy0, hbel⟩ := hrel
    by_cases hjn : j < n
    rotate_left
    · have q3 : decide (j < n) = false := by simpa using hjn
      have hkk : live.take j = live := List.take_of_length_le (by have := HN.out; omega)
      rw [hkk, HR.out] at hy0
      simp only at hy0
      have c0 := cell_of_row _ _ 0 _ _ _ hy0.out
      have c1 := cell_of_row _ _ 1 _ _ _ hy0.out
      have d0 := cell_of_row _ _ 0 _ _ _ hx0.out
      have d1 := cell_of_row _ _ 1 _ _ _ hx0.out
      have f0 : ∀ o, wr.frozen? ⟨w.heap.size, o, none⟩ = false := fun o => frz2 hx0.out o
      obtain ⟨WF, hWF⟩ : ∃ WF, WF = put2 wr w.heap.size (.int .u32 (T : Int)) (.int .u8 (r : Int)) := ⟨_, rfl⟩
      have HF := put2_same (.int .u32 (T : Int)) (.int .u8 (r : Int)) hx0.out
      have BF := put2_below (.int .u32 (T : Int)) (.int .u8 (r : Int)) (Nat.le_refl w.heap.size) hbel.out
      rw [← hWF] at HF BF
      have HF2 := Lib.hid HF
      have BF2 := Lib.hid BF
      unfold put2 at hWF
      have HW := Lib.hid hWF
      clear hkk hWF HF BF hx0 hy0 hbel
      go_wp2
      rw [← HW.out]
      have e0 := cell_of_row _ _ 0 _ _ _ HF2.out
      have e1 := cell_of_row _ _ 1 _ _ _ HF2.out
      exact bodyPost_ret (v := .agg #[.int .u32 (T : Int), .int .u8 (r : Int)]) (by simp [results, Tryz.results29, go_sem, e0, e1]) rfl ⟨rfl, BF2.out⟩
    have q3 : decide (j < n) = true := by simpa using hjn
    have q4 : (0 : Int) ≤ (j : Int) := by omega
    have q5 : (j : Int) < (n : Int) := by omega
    have hjl : j < live.length := by rw [← HN.out]; exact hjn
    obtain ⟨bb, oo, y, e, hbb, hru, h0, h1, h2, h3, h4⟩ := opl_at (HV.out w (Below.refl _ _)) j hjl
    subst e
    obtain ⟨x, hx⟩ : ∃ x, x = live[j]'hjl := ⟨_, rfl⟩
    rw [← hx] at hru h0 h1 h2 h4
    have hxm : x ∈ live := by rw [hx]; exact List.getElem_mem _
    have hst := homeM_take (p := p) hjl
    rw [← hx] at hst
    have HX := Lib.hid (HE.out x y wr hxm hru hbel.out)
    have hnb : notBehind x p = decide (Go.Proofs.YtmiepnnpccpicaaGreat.Place.hold (all x.pl) (all p) ≤ 0) := rfl
    obtain ⟨h, hh⟩ : ∃ z, Go.Proofs.YtmiepnnpccpicaaGreat.Place.hold (all x.pl) (all p) = z := ⟨_, rfl⟩
    rw [hh] at HX hnb
    obtain ⟨t, ht⟩ : ∃ z, x.t = z := ⟨_, rfl⟩
    obtain ⟨rx, hrx⟩ : ∃ z, x.r = z := ⟨_, rfl⟩
    rw [ht] at h1
    rw [hrx] at h2
    have HID : Hid ((idO x).t = t ∧ (idO x).r = rx) := ⟨ht, hrx⟩
    have HST := Lib.hid hst
    have HNB := Lib.hid hnb
    have C1 : Hid (∀ W : World, Below w.heap.size w W → W.cell? ⟨bb, oo + j * 5 + 1, none⟩ = some (.int .u32 (t : Int)) ∧ W.cell? ⟨bb, oo + j * 5 + 2, none⟩ = some (.int .u8 (rx : Int))) := fun W h => ⟨(h.cell (p := ⟨bb, oo + j * 5 + 1, none⟩) hbb).trans h1, (h.cell (p := ⟨bb, oo + j * 5 + 2, none⟩) hbb).trans h2⟩
    replace h3 := (hbel.out.cell (p := ⟨bb, oo + j * 5 + 3, none⟩) hbb).trans h3
    obtain ⟨yo, yc, rfl⟩ := hru.shape
    obtain ⟨ny, hny⟩ : ∃ n, x.pl.length = n := ⟨_, rfl⟩
    rw [hny] at HX h3
    clear hx hxm hst hnb hh ht hrx h0 h1 h2 h4 hny hru hbb
    go_wp2_with fail
    clear h3
    refine HX.out.mono ?_
    rintro e w1 ⟨rfl, b1⟩
    have B1 := Lib.hid (bt hbel.out b1)
    have X1 := Lib.hid (blk_below b1 hx0.out)
    have Y1 := Lib.hid (blk_below b1 hy0.out)
    obtain ⟨c1, c2⟩ := C1.out w1 B1.out
    clear b1 HX hx0 hy0 hbel
    by_cases hle : h ≤ 0
    rotate_left
    · have d1 : decide (h ≤ 0) = false := decide_eq_false hle
      have Y2 : Hid (w1.heap[w.heap.size + 1]? = some (.cells #[.int .u32 ((homeM (live.take (j + 1)) p).t : Int), .int .u8 ((homeM (live.take (j + 1)) p).r : Int)] 25)) := by
        unfold Hid
        rw [HST.out, if_neg (by rw [HNB.out, d1]; decide)]
        exact Y1.out
      clear HST HNB HID Y1 hle c1 c2
      go_wp2
      go_roundw
      case rel => exact ⟨j + 1, by omega, by go_num, X1, Y2, B1⟩
      case measure => simp [intOf]; omega
    have d1 : decide (h ≤ 0) = true := decide_eq_true hle
    have k0 := cell_of_row _ _ 0 _ _ _ Y1.out
    have k1 := cell_of_row _ _ 1 _ _ _ Y1.out
    have f0 : ∀ o, w1.frozen? ⟨w.heap.size + 1, o, none⟩ = false := fun o => frz2 Y1.out o
    obtain ⟨WF, hWF⟩ : ∃ WF, WF = put2 w1 (w.heap.size + 1) (.int .u32 (t : Int)) (.int .u8 (rx : Int)) := ⟨_, rfl⟩
    have Y2 : Hid (WF.heap[w.heap.size + 1]? = some (.cells #[.int .u32 ((homeM (live.take (j + 1)) p).t : Int), .int .u8 ((homeM (live.take (j + 1)) p).r : Int)] 25)) := by
      unfold Hid
      rw [HST.out, if_pos (by rw [HNB.out, d1]), HID.out.1, HID.out.2, hWF]
      exact put2_same _ _ Y1.out
    have X2 : Hid (WF.heap[w.heap.size]? = some (.cells #[.int .u32 0, .int .u8 0] 25)) := by
      rw [hWF]
      exact put2_other _ _ (by omega) X1.out
    have B2 : Hid (Below w.heap.size w WF) := by
      rw [hWF]
      exact put2_below _ _ (Nat.le_succ _) B1.out
    unfold put2 at hWF
    have HW := Lib.hid hWF
    clear hWF HST HNB HID Y1 X1 B1 hle
    go_wp2
    rw [← HW.out]
    clear k0 k1 f0 c1 c2 HW
    go_roundw
    case rel => exact ⟨j + 1, by omega, by go_num, X2, Y2, B2⟩
    case measure => simp [intOf]; omega
theorem sects_take {live : List Opn} {j : Nat} (hj : j < live.length) : sectsM (live.take (j + 1)) = sectsM (live.take j) ++ [idO (live[j]'hj)] := by
  unfold sectsM
  rw [List.take_succ_eq_append_getElem hj, List.map_append]
  rfl
/-- Stamps of the call's own. -/
def OwnI (w : World) (base : Nat) (v : Value) (l : List Id) : Prop := w.ownsRow base 25 2 v l.length (ids l)
theorem OwnI.of {w0 w : World} {v : Value} {l : List Id} (h : Shr idE 25 w0 w v l) : OwnI w w0.heap.size v l := by
  obtain ⟨cs, h1, h2⟩ := h
  unfold OwnI
  rw [← idE_rows h2]
  exact h1
set_option maxRecDepth 100000 in
set_option maxHeartbeats 4000000 in
theorem refSections_any {v : Value} {live : List Opn} {w : World} (hv : OpL w v live) (hl : live.length ≤ 1000000) :
    Calls Tryz.prog 124 #[v] w fun e w' => ∃ ao cap, e = .returned (.slice ao (live.length + 1) cap) ∧ OwnI w' w.heap.size (.slice ao (live.length + 1) cap) (sectsM live) ∧ Below w.heap.size w w' := by
  obtain ⟨ao, cap, rfl⟩ := hv.shape
  obtain ⟨n, hn⟩ : ∃ n, n = live.length := ⟨_, rfl⟩
  have HV : Hid (∀ W : World, Below w.heap.size w W → OpL W (.slice ao live.length cap) live) := fun W h => hv.keeps h
  have HN := Lib.hid hn
  rw [← hn] at hl ⊢
  have S0 : Hid (Shr idE 25 w (w.alloc (.cells #[.int .u32 0, .int .u8 0] 25)) (.slice (some ⟨w.heap.size, 0, none⟩) 1 1) (sectsM (live.take 0))) :=
    by
    have e0 : sectsM (live.take 0) = [zid] := by simp [sectsM]
    unfold Hid
    rw [e0]
    exact ⟨[.int .u32 0, .int .u8 0], ⟨rfl, .inr ⟨w.heap.size, 1, #[.int .u32 0, .int .u8 0], rfl, Nat.le_refl _, heap_alloc_new w _, by simp, by decide, rfl, rfl⟩⟩, ⟨[.int .u32 0, .int .u8 0], [], rfl, rfl, rfl⟩⟩
  have B0 : Hid (Below w.heap.size w (w.alloc (.cells #[.int .u32 0, .int .u8 0] 25))) := (Below.refl _ _).alloc (Nat.le_refl _) _
  clear hv hn
  go_enter Tryz.func124, Tryz.ntmps124
  go_wp2
  go_loopw [3, 4] (fun v i wr => ∃ j : Nat, j ≤ n ∧ i = .int .i64 (j : Int) ∧ (∃ ao cap, v = .slice ao (j + 1) cap) ∧ Hid (Shr idE 25 w wr v (sectsM (live.take j))) ∧ Hid (Below w.heap.size w wr)) (fun _ i _ => n - (intOf i).toNat)
  case atStart => exact ⟨0, by omega, rfl, ⟨_, _, rfl⟩, S0, B0⟩
  case round =>
    clear S0 B0
    obtain ⟨j, hj, rfl, ⟨aoL, capL, rfl⟩, hshr, hbel⟩ := hrel
    by_cases hjn : j < n
    rotate_left
    · have q3 : decide (j < n) = false := by simpa using hjn
      have hkk : live.take j = live := List.take_of_length_le (by have := HN.out; omega)
      obtain rfl : j = n := by omega
      rw [hkk] at hshr
      clear hkk
      go_wp2
      go_ret
      exact ⟨_, _, rfl, OwnI.of hshr.out, hbel.out⟩
    have q3 : decide (j < n) = true := by simpa using hjn
    have q4 : (0 : Int) ≤ (j : Int) := by omega
    have q5 : (j : Int) < (n : Int) := by omega
    have hjl : j < live.length := by rw [← HN.out]; exact hjn
    obtain ⟨bb, oo, y, e, hbb, hru, h0, h1, h2, h3, h4⟩ := opl_at (HV.out wr hbel.out) j hjl
    subst e
    obtain ⟨x, hx⟩ : ∃ x, x = live[j]'hjl := ⟨_, rfl⟩
    rw [← hx] at h1 h2
    have INN : Hid (idE.inn w [.int .u32 (x.t : Int), .int .u8 (x.r : Int)] (idO x)) := rfl
    have FT : Hid (sectsM (live.take (j + 1)) = sectsM (live.take j) ++ [idO x]) := by rw [hx]; exact sects_take hjl
    have HM : Hid (j + 1 = (sectsM (live.take j)).length) := by unfold Hid; rw [sectsM_len, List.length_take, ← HN.out]; omega
    obtain ⟨t, ht⟩ : ∃ z, x.t = z := ⟨_, rfl⟩
    obtain ⟨r, hr⟩ : ∃ z, x.r = z := ⟨_, rfl⟩
    rw [ht] at h1
    rw [hr] at h2
    rw [ht, hr] at INN
    have HZ : Hid (w.heap.size ≤ wr.heap.size) := hbel.out.size
    clear hx hru ht hr h0 h3 h4
    go_wp2_with (at_builtin; refine wpList_append_enc (E := idE) Tryz.underlying150 id_info rfl (w0 := w) (wp := wr) (by rfl) (.tmp 13) (.tmp 19) (by rfl) (by rfl) hshr.out (G := wr.heap.size) (by rfl) rfl (c := #[.int .u32 (t : Int), .int .u8 (r : Int)]) INN.out HM.out (by omega) (by omega) HZ.out ?_)
    rintro v6 w6 s6 va vc rfl b6
    have S6 := Lib.hid s6
    rw [← FT.out] at S6
    have B6 := Lib.hid (hbel.out.trans b6)
    clear s6 b6 h1 h2 hshr
    go_wp2
    go_roundw
    case rel => exact ⟨j + 1, by omega, by go_num, ⟨va, vc, rfl⟩, S6, B6⟩
    case measure => simp [intOf]; omega
end Go.Proofs.YtmiepnnpccpicaaGreat.Homes

namespace Go.Proofs.YtmiepnnpccpicaaGreat.Marks
open Go.RowKit Go.WideShapes Stamp Go.Proofs.YtmiepnnpccpicaaGreat.Place Ops Codes Bags
attribute [local go_sem ↓] Go.wp_at_zero Go.wp_at_succ
attribute [local go_sem] yielded_undef
theorem refTarget_any {u : Value} {o : Opn} {w : World} (hu : Runs w u o.pl) (hm : mayO o = true) :
    Calls Tryz.prog 102 #[opv o u] w fun e w' => e = .returned (.agg #[.int .u32 ((tgt o).t : Int), .int .u8 ((tgt o).r : Int)]) ∧ Below w.heap.size w w' := by
  have hm2 := (mayO_parts hm).2.1
  have hM := (mayB_iff _).1 hm2
  have hc := tgt_cells hm
  obtain ⟨kk, hkk⟩ : ∃ k, o.pl.length = k + 1 := ⟨o.pl.length - 1, by have := hM.1; omega⟩
  have FI : Hid (∀ W : World, Below w.heap.size w W → Calls Tryz.prog 99 #[u] W fun e w' => e = .returned (.agg #[.int .u32 ((tgt o).t : Int), .int .u8 ((tgt o).r : Int)]) ∧ Below W.heap.size W w') := fun W hW => by
    have := final_any (hu.keeps hW) hkk rfl (chain_one hM.2.2.1 (by omega)) (by have := hM.2.1; omega)
    rw [hc.1, hc.2]
    unfold lastV
    rw [if_pos hm2, hkk, Nat.add_sub_cancel]
    exact this
  obtain ⟨T, hT⟩ : ∃ T, (tgt o).t = T := ⟨_, rfl⟩
  obtain ⟨R, hR⟩ : ∃ R, (tgt o).r = R := ⟨_, rfl⟩
  rw [hT, hR] at FI ⊢
  obtain ⟨uo, uc, rfl⟩ := hu.shape
  obtain ⟨nu, hnu⟩ : ∃ n, n = o.pl.length := ⟨_, rfl⟩
  rw [← hnu] at FI ⊢
  have B0 : Hid (Below w.heap.size w ((w.alloc (.cells #[.int .u8 (o.k : Int), .int .u32 (o.t : Int), .int .u8 (o.r : Int), .slice uo nu uc, .int .i64 o.p] 47)).alloc (.cells #[.int .u32 0, .int .u8 0] 25))) := ((Below.refl _ _).alloc (Nat.le_refl _) _).alloc (by simp) _
  clear hu hm hm2 hM hc hkk hT hR hnu
  obtain ⟨k, t, r, l, p, hk, ht, hr, hp⟩ := o
  unfold opv
  simp only at B0 ⊢
  clear hk ht hr hp
  go_enter Tryz.func102, Tryz.ntmps102
  go_wp2_with fail
  refine (FI.out _ B0.out).mono ?_
  rintro e w1 ⟨rfl, b1⟩
  obtain ⟨wz, hwz⟩ : ∃ wz, wz = w.alloc (.cells #[.int .u8 (k : Int), .int .u32 (t : Int), .int .u8 (r : Int), .slice uo nu uc, .int .i64 p] 47) := ⟨_, rfl⟩
  have hs : wz.heap.size = w.heap.size + 1 := by rw [hwz]; exact Array.size_push _
  have bz : Below w.heap.size w wz := by rw [hwz]; exact (Below.refl _ _).alloc (Nat.le_refl _) _
  rw [← hwz] at b1 B0
  have hX : w1.heap[wz.heap.size]? = some (.cells #[.int .u32 0, .int .u8 0] 25) := blk_below b1 (blk_new rfl)
  have BW := Lib.hid (bt B0.out b1)
  rw [hs] at hX
  have c0 := cell_of_row _ _ 0 _ _ _ hX
  have c1 := cell_of_row _ _ 1 _ _ _ hX
  have g0 : ∀ o, w1.frozen? ⟨w.heap.size + 1, o, none⟩ = false := fun o => free5 hX o
  clear b1 hwz bz B0 FI
  go_wp2
  refine bodyPost_ret (v := .agg #[.int .u32 (T : Int), .int .u8 (R : Int)]) (by simp [results, Tryz.results102, go_sem, c0, c1]) rfl ⟨rfl, ?_⟩
  exact (BW.out.setCell (p := ⟨w.heap.size + 1, 0, none⟩) (Nat.le_succ _) _).setCell (p := ⟨w.heap.size + 1, 1, none⟩) (Nat.le_succ _) _
set_option maxRecDepth 100000 in
set_option maxHeartbeats 8000000 in
theorem refEnded_any {v : Value} {l : List Opn} (a : Id) {w : World} (hv : OpL w v l) (hm : ∀ o ∈ l, mayO o = true) :
    Calls Tryz.prog 66 #[v, .agg #[.int .u32 (a.t : Int), .int .u8 (a.r : Int)]] w fun e w' => e = .returned (.bool (ended l a)) ∧ Below w.heap.size w w' := by
  obtain ⟨ao, cap, rfl⟩ := hv.shape
  obtain ⟨n, hn⟩ : ∃ n, n = l.length := ⟨_, rfl⟩
  have hmx : n ≤ 9223372036854775807 := by rw [hn]; exact hv.max
  have HV : Hid (∀ W : World, Below w.heap.size w W → OpL W (.slice ao l.length cap) l) := fun W h => hv.keeps h
  have HN := Lib.hid hn
  have HMY := Lib.hid hm
  obtain ⟨q, hq⟩ : ∃ q, ended l a = q := ⟨_, rfl⟩
  have HQ : Hid (∀ o ∈ l, o.k = 4 → tgt o = a → q = true) := fun o ho h4 he => by rw [← hq, ended_iff]; exact ⟨o, ho, h4, he⟩
  have HZ : Hid ((∀ j (h : j < l.length), (l[j]'h).k = 4 → tgt (l[j]'h) ≠ a) → q = false) := fun h => by
    rw [← hq, ended_no]
    intro o ho
    obtain ⟨i, hi, rfl⟩ := List.getElem_of_mem ho
    exact h i hi
  rw [hq, ← hn]
  obtain ⟨A, hA⟩ : ∃ A, A = a := ⟨_, rfl⟩
  rw [← hA] at HQ HZ
  have HA : Hid (∀ x : Id, x = A ↔ x.t = a.t ∧ x.r = a.r) := fun x => by rw [hA, Id.eq_iff]
  obtain ⟨ta, ra, hta, hra⟩ := a
  simp only at HA ⊢
  obtain ⟨wl, hwl⟩ : ∃ x, x = w.alloc (.cells #[.int .u32 (ta : Int), .int .u8 (ra : Int)] 25) := ⟨_, rfl⟩
  have XI : Hid (wl.heap[w.heap.size]? = some (.cells #[.int .u32 (ta : Int), .int .u8 (ra : Int)] 25)) := by rw [hwl]; exact blk_new rfl
  have BL : Hid (Below w.heap.size w wl) := by rw [hwl]; exact (Below.refl _ _).alloc (Nat.le_refl _) _
  have B0 : Hid (Below wl.heap.size wl (w.alloc (.cells #[.int .u32 (ta : Int), .int .u8 (ra : Int)] 25))) := by rw [← hwl]; exact Below.refl _ _
  clear hv hn hq hA hwl hm
  go_enter Tryz.func66, Tryz.ntmps66
  go_wp2
  go_loopw [5] (fun i wr => ∃ j : Nat, j ≤ n ∧ i = .int .i64 (j : Int) ∧ Hid (∀ k (h : k < l.length), k < j → (l[k]'h).k = 4 → tgt (l[k]'h) ≠ A) ∧ Hid (Below wl.heap.size wl wr)) (fun i _ => n - (intOf i).toNat)
  case atStart => exact ⟨0, by omega, rfl, fun k h hk => by omega, B0⟩
  case round =>
    clear B0
    obtain ⟨j, hj, rfl, hno, hbel⟩ := hrel
    have XI2 := Lib.hid (blk_below hbel.out XI.out)
    have BW := Lib.hid (bt BL.out hbel.out)
    by_cases hjn : j < n
    rotate_left
    · have q3 : decide (j < n) = false := by simpa using hjn
      obtain rfl := HZ.out (fun i h => hno.out i h (by have := HN.out; omega))
      go_wp2
      go_ret
      exact ⟨rfl, BW.out⟩
    have q3 : decide (j < n) = true := by simpa using hjn
    have q4 : (0 : Int) ≤ (j : Int) := by omega
    have q5 : (j : Int) < (n : Int) := by omega
    have hjl : j < l.length := by rw [← HN.out]; exact hjn
    obtain ⟨bb, oo, u, e, hbb, hru, h0, h1, h2, h3, h4⟩ := opl_at (HV.out wr BW.out) j hjl
    subst e
    obtain ⟨x, hx⟩ : ∃ x, x = l[j]'hjl := ⟨_, rfl⟩
    rw [← hx] at hru h0 h1 h2 h4
    have HO : Hid (∀ v : Value, opv x v = .agg #[.int .u8 (x.k : Int), .int .u32 (x.t : Int), .int .u8 (x.r : Int), v, .int .i64 x.p]) := fun v => rfl
    have HX : Hid (x = l[j]'hjl) := hx
    have hxm : x ∈ l := by rw [hx]; exact List.getElem_mem _
    have MX := HMY.out x hxm
    have TG : Hid (∀ W : World, Below wr.heap.size wr W → Calls Tryz.prog 102 #[opv x u] W fun e w' => e = .returned (.agg #[.int .u32 ((tgt x).t : Int), .int .u8 ((tgt x).r : Int)]) ∧ Below W.heap.size W w') := fun W h => refTarget_any (hru.keeps h) MX
    have HE := Lib.hid (HA.out (tgt x))
    have HG := Lib.hid (HQ.out x hxm)
    obtain ⟨T, hT⟩ : ∃ T, (tgt x).t = T := ⟨_, rfl⟩
    obtain ⟨R, hR⟩ : ∃ R, (tgt x).r = R := ⟨_, rfl⟩
    rw [hT, hR] at TG HE
    clear hx hru hT hR MX hxm
    obtain ⟨k, hk⟩ : ∃ z, x.k = z := ⟨_, rfl⟩
    obtain ⟨t, ht⟩ : ∃ z, x.t = z := ⟨_, rfl⟩
    obtain ⟨r, hr⟩ : ∃ z, x.r = z := ⟨_, rfl⟩
    obtain ⟨p, hp⟩ : ∃ z, x.p = z := ⟨_, rfl⟩
    rw [hk, ht, hr, hp] at HO
    rw [hk] at h0
    rw [ht] at h1
    rw [hr] at h2
    rw [hp] at h4
    simp only [HO.out] at TG
    have HK : Hid (x.k = k) := hk
    obtain ⟨f0, f1⟩ : wr.cell? ⟨w.heap.size, 0, none⟩ = some (.int .u32 (ta : Int)) ∧ wr.cell? ⟨w.heap.size, 1, none⟩ = some (.int .u8 (ra : Int)) := ⟨cell_of_row _ _ 0 _ _ _ XI2.out, cell_of_row _ _ 1 _ _ _ XI2.out⟩
    have hlt := World.block_lt_of_cell? _ _ f0
    have F1 : Hid (FiveAt wr bb (oo + j * 5) (.int .u8 (k : Int)) (.int .u32 (t : Int)) (.int .u8 (r : Int)) u (.int .i64 p)) := ⟨hbb, h0, h1, h2, h3, h4⟩
    have SK : Hid (∀ w' : World, Below wr.heap.size wr w' → Below wr.heap.size wr w' ∧ w'.cell? ⟨bb, oo + j * 5, none⟩ = some (.int .u8 (k : Int)) ∧ w'.cell? ⟨bb, oo + j * 5 + 1, none⟩ = some (.int .u32 (t : Int)) ∧ w'.cell? ⟨bb, oo + j * 5 + 2, none⟩ = some (.int .u8 (r : Int)) ∧ w'.cell? ⟨bb, oo + j * 5 + 3, none⟩ = some (u) ∧ w'.cell? ⟨bb, oo + j * 5 + 4, none⟩ = some (.int .i64 p) ∧ w'.cell? ⟨w.heap.size, 0, none⟩ = some (.int .u32 (ta : Int)) ∧ w'.cell? ⟨w.heap.size, 1, none⟩ = some (.int .u8 (ra : Int))) := fun W h => by
      have a1 := (F1.out.keeps h).2
      exact ⟨h, a1.1, a1.2.1, a1.2.2.1, a1.2.2.2.1, a1.2.2.2.2, (h.cell (p := ⟨w.heap.size, 0, none⟩) hlt).trans f0, (h.cell (p := ⟨w.heap.size, 1, none⟩) hlt).trans f1⟩
    clear hk ht hr hp h0 h1 h2 h3 h4 f0 f1 hlt HO hbb F1
    by_cases hk4 : k = 4
    rotate_left
    · have qk : ((k : Int) == 4) = false := by simp; omega
      have qk2 : decide ((k : Int) = 4) = false := decide_eq_false (by omega)
      have NJ : Hid (∀ i (h : i < l.length), i < j + 1 → (l[i]'h).k = 4 → tgt (l[i]'h) ≠ A) := fun i h hi => by
        by_cases e : i = j
        · subst e; rw [← HX.out, HK.out]; intro h4; exact absurd h4 hk4
        · exact hno.out i h (by omega)
      clear HG HE hk4 HK
      go_wp2
      refine wp_region_held_drew (S := fun w' => Below wr.heap.size wr w' ∧ w'.cell? ⟨bb, oo + j * 5, none⟩ = some (.int .u8 (k : Int)) ∧ w'.cell? ⟨bb, oo + j * 5 + 1, none⟩ = some (.int .u32 (t : Int)) ∧ w'.cell? ⟨bb, oo + j * 5 + 2, none⟩ = some (.int .u8 (r : Int)) ∧ w'.cell? ⟨bb, oo + j * 5 + 3, none⟩ = some (u) ∧ w'.cell? ⟨bb, oo + j * 5 + 4, none⟩ = some (.int .i64 p) ∧ w'.cell? ⟨w.heap.size, 0, none⟩ = some (.int .u32 (ta : Int)) ∧ w'.cell? ⟨w.heap.size, 1, none⟩ = some (.int .u8 (ra : Int))) (by kernel_rfl) (SK.out _ (drew1 _)) (fun hHeld => ?_)
      refine rN 0 ?_
      refine rN 1 ?_
      refine rN 2 ?_
      refine rN 3 ?_
      refine rN 4 ?_
      refine rN 5 ?_
      refine rN 6 ?_
      refine rV 7 ?_
      refine rV 8 ?_
      refine rV 9 ?_
      refine rV 10 ?_
      refine rV 11 ?_
      refine rV 12 ?_
      refine rV 13 ?_
      refine rN 14 ?_
      refine wpAnyH_done (by kernel_rfl) ?_ _
      go_wp2
      go_roundw
      case rel => exact ⟨j + 1, by omega, by go_num, NJ, Lib.hid (bt hbel.out hHeld.1)⟩
      case measure => simp [intOf]; omega
    subst hk4
    obtain ⟨b1, hb1⟩ : ∃ b, decide (T = ta) = b := ⟨_, rfl⟩
    obtain ⟨b2, hb2⟩ : ∃ b, decide (R = ra) = b := ⟨_, rfl⟩
    have hb1' : ((T : Int) == (ta : Int)) = b1 := by rw [← hb1]; by_cases h : T = ta <;> simp [h] <;> omega
    have hb2' : ((R : Int) == (ra : Int)) = b2 := by rw [← hb2]; by_cases h : R = ra <;> simp [h] <;> omega
    have HM : Hid ((b1 && b2) = true → q = true) := fun h => HG.out HK.out (by rw [HE.out]; rw [Bool.and_eq_true, ← hb1, ← hb2, decide_eq_true_eq, decide_eq_true_eq] at h; exact h)
    have HNM : Hid ((b1 && b2) = false → tgt x ≠ A) := fun h => by rw [Ne, HE.out]; rintro ⟨h1, h2⟩; rw [← hb1, ← hb2, decide_eq_true h1, decide_eq_true h2] at h; cases h
    clear HE HG hb1 hb2
    cases b1 <;> cases b2
    · have NJ : Hid (∀ i (h : i < l.length), i < j + 1 → (l[i]'h).k = 4 → tgt (l[i]'h) ≠ A) := fun i h hi => by
        by_cases e : i = j
        · subst e; rw [← HX.out, HK.out]; intro _; exact HNM.out rfl
        · exact hno.out i h (by omega)
      clear HNM HM HK
      go_wp2
      refine wp_region_held_drew (S := fun w' => Below wr.heap.size wr w' ∧ w'.cell? ⟨bb, oo + j * 5, none⟩ = some (.int .u8 ((4 : Nat) : Int)) ∧ w'.cell? ⟨bb, oo + j * 5 + 1, none⟩ = some (.int .u32 (t : Int)) ∧ w'.cell? ⟨bb, oo + j * 5 + 2, none⟩ = some (.int .u8 (r : Int)) ∧ w'.cell? ⟨bb, oo + j * 5 + 3, none⟩ = some (u) ∧ w'.cell? ⟨bb, oo + j * 5 + 4, none⟩ = some (.int .i64 p) ∧ w'.cell? ⟨w.heap.size, 0, none⟩ = some (.int .u32 (ta : Int)) ∧ w'.cell? ⟨w.heap.size, 1, none⟩ = some (.int .u8 (ra : Int))) (by kernel_rfl) (SK.out _ (drew1 _)) (fun hHeld => ?_)
      refine rN 0 ?_
      refine rN 1 ?_
      refine rN 2 ?_
      refine rN 3 ?_
      refine rN 4 ?_
      refine rN 5 ?_
      refine rN 6 ?_
      refine rN 7 ?_
      refine rN 8 ?_
      refine rN 9 ?_
      refine rN 10 ?_
      refine rN 12 ?_
      refine wpAnyH_ready (rs := [11]) (by kernel_rfl) (by simp) ?_
      refine AllReadyH.cons rfl (fun K hK => ?_) ?zb11
      case zb11 => exact AllReadyH.nil
      go_simp
      refine (TG.out _ hHeld.1).mono ?_
      rintro e w9b11 ⟨rfl, b9⟩
      refine hK.out _ _ (SK.out _ (bt hHeld.1 b9)) (fun hNew => ?_)
      clear hHeld
      have hHeld := hNew
      clear hNew hK K
      refine rX ?_
      refine rN 13 ?_
      refine rN 14 ?_
      refine wpAnyH_done (by kernel_rfl) ?_ _
      go_wp2
      go_roundw
      case rel => exact ⟨j + 1, by omega, by go_num, NJ, Lib.hid (bt hbel.out hHeld.1)⟩
      case measure => simp [intOf]; omega
    · have NJ : Hid (∀ i (h : i < l.length), i < j + 1 → (l[i]'h).k = 4 → tgt (l[i]'h) ≠ A) := fun i h hi => by
        by_cases e : i = j
        · subst e; rw [← HX.out, HK.out]; intro _; exact HNM.out rfl
        · exact hno.out i h (by omega)
      clear HNM HM HK
      go_wp2
      refine wp_region_held_drew (S := fun w' => Below wr.heap.size wr w' ∧ w'.cell? ⟨bb, oo + j * 5, none⟩ = some (.int .u8 ((4 : Nat) : Int)) ∧ w'.cell? ⟨bb, oo + j * 5 + 1, none⟩ = some (.int .u32 (t : Int)) ∧ w'.cell? ⟨bb, oo + j * 5 + 2, none⟩ = some (.int .u8 (r : Int)) ∧ w'.cell? ⟨bb, oo + j * 5 + 3, none⟩ = some (u) ∧ w'.cell? ⟨bb, oo + j * 5 + 4, none⟩ = some (.int .i64 p) ∧ w'.cell? ⟨w.heap.size, 0, none⟩ = some (.int .u32 (ta : Int)) ∧ w'.cell? ⟨w.heap.size, 1, none⟩ = some (.int .u8 (ra : Int))) (by kernel_rfl) (SK.out _ (drew1 _)) (fun hHeld => ?_)
      refine rN 0 ?_
      refine rN 1 ?_
      refine rN 2 ?_
      refine rN 3 ?_
      refine rN 4 ?_
      refine rN 5 ?_
      refine rN 6 ?_
      refine rN 7 ?_
      refine rN 8 ?_
      refine rN 9 ?_
      refine rN 10 ?_
      refine rN 12 ?_
      refine wpAnyH_ready (rs := [11]) (by kernel_rfl) (by simp) ?_
      refine AllReadyH.cons rfl (fun K hK => ?_) ?zc11
      case zc11 => exact AllReadyH.nil
      go_simp
      refine (TG.out _ hHeld.1).mono ?_
      rintro e w9c11 ⟨rfl, b9⟩
      refine hK.out _ _ (SK.out _ (bt hHeld.1 b9)) (fun hNew => ?_)
      clear hHeld
      have hHeld := hNew
      clear hNew hK K
      refine rX ?_
      refine rN 13 ?_
      refine rN 14 ?_
      refine wpAnyH_done (by kernel_rfl) ?_ _
      go_wp2
      go_roundw
      case rel => exact ⟨j + 1, by omega, by go_num, NJ, Lib.hid (bt hbel.out hHeld.1)⟩
      case measure => simp [intOf]; omega
    · have NJ : Hid (∀ i (h : i < l.length), i < j + 1 → (l[i]'h).k = 4 → tgt (l[i]'h) ≠ A) := fun i h hi => by
        by_cases e : i = j
        · subst e; rw [← HX.out, HK.out]; intro _; exact HNM.out rfl
        · exact hno.out i h (by omega)
      clear HNM HM HK
      go_wp2
      refine wp_region_held_drew (S := fun w' => Below wr.heap.size wr w' ∧ w'.cell? ⟨bb, oo + j * 5, none⟩ = some (.int .u8 ((4 : Nat) : Int)) ∧ w'.cell? ⟨bb, oo + j * 5 + 1, none⟩ = some (.int .u32 (t : Int)) ∧ w'.cell? ⟨bb, oo + j * 5 + 2, none⟩ = some (.int .u8 (r : Int)) ∧ w'.cell? ⟨bb, oo + j * 5 + 3, none⟩ = some (u) ∧ w'.cell? ⟨bb, oo + j * 5 + 4, none⟩ = some (.int .i64 p) ∧ w'.cell? ⟨w.heap.size, 0, none⟩ = some (.int .u32 (ta : Int)) ∧ w'.cell? ⟨w.heap.size, 1, none⟩ = some (.int .u8 (ra : Int))) (by kernel_rfl) (SK.out _ (drew1 _)) (fun hHeld => ?_)
      refine rN 0 ?_
      refine rN 1 ?_
      refine rN 2 ?_
      refine rN 3 ?_
      refine rN 4 ?_
      refine rN 5 ?_
      refine rN 6 ?_
      refine rN 7 ?_
      refine rN 8 ?_
      refine rN 9 ?_
      refine rN 10 ?_
      refine rN 12 ?_
      refine wpAnyH_ready (rs := [11]) (by kernel_rfl) (by simp) ?_
      refine AllReadyH.cons rfl (fun K hK => ?_) ?zd11
      case zd11 => exact AllReadyH.nil
      go_simp
      refine (TG.out _ hHeld.1).mono ?_
      rintro e w9d11 ⟨rfl, b9⟩
      refine hK.out _ _ (SK.out _ (bt hHeld.1 b9)) (fun hNew => ?_)
      clear hHeld
      have hHeld := hNew
      clear hNew hK K
      refine rX ?_
      refine rN 13 ?_
      refine rN 14 ?_
      refine wpAnyH_done (by kernel_rfl) ?_ _
      go_wp2
      go_roundw
      case rel => exact ⟨j + 1, by omega, by go_num, NJ, Lib.hid (bt hbel.out hHeld.1)⟩
      case measure => simp [intOf]; omega
    · obtain rfl := HM.out rfl
      clear HNM HM HK
      go_wp2
      refine wp_region_held_drew (S := fun w' => Below wr.heap.size wr w' ∧ w'.cell? ⟨bb, oo + j * 5, none⟩ = some (.int .u8 ((4 : Nat) : Int)) ∧ w'.cell? ⟨bb, oo + j * 5 + 1, none⟩ = some (.int .u32 (t : Int)) ∧ w'.cell? ⟨bb, oo + j * 5 + 2, none⟩ = some (.int .u8 (r : Int)) ∧ w'.cell? ⟨bb, oo + j * 5 + 3, none⟩ = some (u) ∧ w'.cell? ⟨bb, oo + j * 5 + 4, none⟩ = some (.int .i64 p) ∧ w'.cell? ⟨w.heap.size, 0, none⟩ = some (.int .u32 (ta : Int)) ∧ w'.cell? ⟨w.heap.size, 1, none⟩ = some (.int .u8 (ra : Int))) (by kernel_rfl) (SK.out _ (drew1 _)) (fun hHeld => ?_)
      refine rN 0 ?_
      refine rN 1 ?_
      refine rN 2 ?_
      refine rN 3 ?_
      refine rN 4 ?_
      refine rN 5 ?_
      refine rN 6 ?_
      refine rN 7 ?_
      refine rN 8 ?_
      refine rN 9 ?_
      refine rN 10 ?_
      refine rN 12 ?_
      refine wpAnyH_ready (rs := [11]) (by kernel_rfl) (by simp) ?_
      refine AllReadyH.cons rfl (fun K hK => ?_) ?ze11
      case ze11 => exact AllReadyH.nil
      go_simp
      refine (TG.out _ hHeld.1).mono ?_
      rintro e w9e11 ⟨rfl, b9⟩
      refine hK.out _ _ (SK.out _ (bt hHeld.1 b9)) (fun hNew => ?_)
      clear hHeld
      have hHeld := hNew
      clear hNew hK K
      refine rX ?_
      refine rN 13 ?_
      refine rN 14 ?_
      refine wpAnyH_done (by kernel_rfl) ?_ _
      go_wp2
      go_ret
      exact ⟨rfl, bt BW.out hHeld.1⟩
end Go.Proofs.YtmiepnnpccpicaaGreat.Marks

namespace Go.Proofs.YtmiepnnpccpicaaGreat
open Go.RowKit Go.WideShapes
/-- Elements whose slices lie in an elder world. -/
def fixE {α : Type} (E : Enc α) (w0 : World) : Enc α := ⟨E.sz, E.pos, fun _ cs a => E.inn w0 cs a, E.len, E.one, fun _ h => h⟩
theorem fix_rows {α : Type} {E : Enc α} {w0 w : World} : ∀ {cs : List Value} {l : List α}, (fixE E w0).rows w cs l ↔ E.rows w0 cs l
  | _, [] => Iff.rfl
  | _, _ :: _ => ⟨fun ⟨c, d, h1, h2, h3⟩ => ⟨c, d, h1, h2, fix_rows.1 h3⟩, fun ⟨c, d, h1, h2, h3⟩ => ⟨c, d, h1, h2, fix_rows.2 h3⟩⟩
theorem shr_fix {α : Type} {E : Enc α} {te : TypeId} {w0 w : World} {v : Value} {l : List α} (h : Shr E te w0 w v l) : Seq (fixE E w0) w v l := by
  obtain ⟨cs, h1, h2⟩ := h
  exact ⟨cs, Sees.own h1, fix_rows.2 h2⟩
theorem wpList_append_shr {α : Type} {E : Enc α} {ts te : TypeId} (ht : Tryz.prog.underlying ts = some (.slice te)) {z : Value} {bytes : Nat}
    (hi : (Tryz.prog.info? te).map (fun i => (i.zero, i.size, i.bytes)) = some (some z, E.sz, bytes)) (hzs : z.cells.size = E.sz)
    {w0 wp : World} {ops : Array Oper} {rest : List Oper} {o : Oper} {a : Act} {Q : Exit → Act → World → Prop} (hgd : o.guard = none) (s x : Operand)
    (ho : o.op = .call { callee := .builtin .append, args := #[s, x], argTypes := #[ts, ts] }) {v u : Value} {L M : List α} (hs : a.eval s = v) (hv : Shr E te w0 wp v L)
    (hx : a.eval x = u) (hu : Seq (fixE E w0) wp u M) {n : Nat} (hn : n = L.length + M.length) (h47 : n * bytes ≤ 140737488355328) (h63 : n ≤ 140737488355328) (hbase : w0.heap.size ≤ wp.heap.size)
    (h : ∀ v' w', Shr E te w0 w' v' (L ++ M) → (∃ ao cap, v' = .slice ao n cap) → Below w0.heap.size wp w' → wpList Tryz.prog ops Q rest (a.put o.dst v') w') :
    wpList Tryz.prog ops Q (o :: rest) a wp := by
  subst hn
  obtain ⟨cs, h1, h2⟩ := hv
  obtain ⟨xs, h3, h4⟩ := hu
  refine wpList_append_sees hgd s x ts te ho ht hi hzs E.pos w0.heap.size v L.length cs hs h1 u M.length xs hx h3 (Enc.rows_one (fix_rows.1 h4)) h47 h63 hbase ?_
  intro v' w' o6 _ b6
  exact h v' w' ⟨cs ++ xs, by rw [List.length_append]; exact o6, Enc.rows_append h2 (fix_rows.1 h4)⟩ (Sees.shape (Sees.own o6)) b6
theorem part_drop {α : Type} {E : Enc α} {w : World} {ao : Option Addr} {n cap m : Nat} {l : List α} (h : Seq E w (.slice ao n cap) l) (hm : m ≤ n) (hl : l ≠ []) :
    ∃ b off o', ao = some ⟨b, off, none⟩ ∧ (if cap = m then (some ⟨b, off, none⟩ : Option Addr) else some ⟨b, off + m * E.sz, none⟩) = some ⟨b, o', none⟩ ∧ Seq E w (.slice (some ⟨b, o', none⟩) (n - m) (cap - m)) (l.drop m) := by
  obtain ⟨cs, ⟨h1, ao', cap', he, h2, h3, h4, h5⟩, h6⟩ := h
  obtain ⟨rfl, rfl, rfl⟩ := Value.slice.inj he
  have hp := E.pos
  have hd := Enc.rows_drop m h6
  have hll : (l.drop m).length = l.length - m := by rw [List.length_drop]
  have hcl : (cs.drop (m * E.sz)).length = (l.length - m) * E.sz := by rw [List.length_drop, h1, Nat.sub_mul]
  rcases h5 with h5 | ⟨b, off, rfl, hb, hc⟩
  · exfalso
    rw [h5] at h1
    have h7 : l.length * E.sz = 0 := by simpa using h1.symm
    rcases Nat.mul_eq_zero.1 h7 with h8 | h8
    · exact hl (List.length_eq_zero_iff.1 h8)
    · omega
  · by_cases hcm : cap = m
    · refine ⟨b, off, off, rfl, by rw [if_pos hcm], cs.drop (m * E.sz), ⟨by rw [hcl, hll], some ⟨b, off, none⟩, cap - m, by rw [hll], by rw [hll]; omega, by omega, by simp, ?_⟩, hd⟩
      left
      exact List.length_eq_zero_iff.1 (by rw [hcl, show l.length - m = 0 by omega, Nat.zero_mul])
    · refine ⟨b, off, off + m * E.sz, rfl, by rw [if_neg hcm], cs.drop (m * E.sz), ⟨by rw [hcl, hll], some ⟨b, off + m * E.sz, none⟩, cap - m, by rw [hll], by rw [hll]; omega, by omega, by simp, ?_⟩, hd⟩
      right
      refine ⟨b, off + m * E.sz, rfl, hb, fun j u hj => ?_⟩
      rw [List.getElem?_drop] at hj
      rw [Nat.add_assoc]
      exact hc _ u hj
theorem part_none {α : Type} (E : Enc α) (w : World) {ao : Option Addr} {cap : Nat} (hc : cap ≤ 9223372036854775807) (h : ao = none → cap = 0) : Seq E w (.slice ao 0 cap) [] :=
  ⟨[], ⟨by simp, ao, cap, rfl, by simp, hc, h, .inl rfl⟩, rfl⟩
theorem seq_fix {α : Type} {E : Enc α} {w0 w : World} {v : Value} {l : List α} (h : Seq E w0 v l) (hb : Below w0.heap.size w0 w) : Seq (fixE E w0) w v l := by
  obtain ⟨cs, h1, h2⟩ := h
  exact ⟨cs, h1.keeps hb, fix_rows.2 h2⟩
open Go.Proofs.YtmiepnnpccpicaaGreat.Place Ops Codes Bags
theorem shr_unfix {w0 WB w : World} {v : Value} {l : List Opn} (h : Shr (fixE opE w0) 47 WB w v l) (hb : w0.heap.size ≤ WB.heap.size) : ShrO w0 w v l := by
  obtain ⟨cs, h1, h2⟩ := h
  exact ⟨cs, op_base h1 hb, fix_rows.1 h2⟩
theorem shr_drop {w0 w : World} {ao : Option Addr} {m cap i : Nat} {l : List Opn} (h : ShrO w0 w (.slice ao m cap) l) (hi : i ≤ m) :
    (ao = none ∧ cap = 0 ∧ m = 0 ∧ l = []) ∨ ∃ ab aof a', ao = some ⟨ab, aof, none⟩ ∧ (if cap = i then (some ⟨ab, aof, none⟩ : Option Addr) else some ⟨ab, aof + i * 5, none⟩) = some a' ∧ Seq (fixE opE w0) w (.slice (some a') (m - i) (cap - i)) (l.drop i) := by
  have hs := shr_fix h
  have hc := hs.cap
  by_cases hl : l = []
  · subst hl
    have hm : m = 0 := hc.1
    subst hm
    obtain rfl : i = 0 := by omega
    cases ao with
    | none => exact .inl ⟨rfl, hc.2.2.2 rfl, rfl, rfl⟩
    | some a =>
      obtain ⟨g, rfl⟩ : ∃ g, a = ⟨g, 0, none⟩ := by
        obtain ⟨cs, h1, _⟩ := h
        rcases h1.2 with h0 | ⟨g, c9, cur, he, _⟩
        · have := h0.1; cases this
        · cases he; exact ⟨g, rfl⟩
      refine .inr ⟨g, 0, if cap = 0 then ⟨g, 0, none⟩ else ⟨g, 0 + 0 * 5, none⟩, rfl, by split <;> rfl, ?_⟩
      exact part_none _ _ hc.2.2.1 (fun h => by cases h)
  · obtain ⟨b, off, o', rfl, hif, hpart⟩ := part_drop hs hi hl
    exact .inr ⟨_, _, _, rfl, hif, hpart⟩
end Go.Proofs.YtmiepnnpccpicaaGreat
