/- octavoref11.Left, Less, Stamps, Ids, Find: what each answers. Conditions: the slices' cells are operations, replicas' times; those of Left, Stamps not too many. -/
import Derived.Deep.DrawnRows
import Derived.Deep.RegionHeld3
import Derived.Test.YtocjkegkgnbboaaPk10
import Derived.Test.YtocjkegkgnbboaaPk11
import Derived.Test.YtocjkegkgnbboaaPk12
import Derived.Test.YtocjkegkgnbboaaPk06

namespace Go.Proofs.Ytocjkegkgnbboaa.Bags
open Go.RowKit Go.WideShapes Stamp Go.Proofs.Ytocjkegkgnbboaa.Place Ops Codes
attribute [local go_sem ↓] Go.wp_at_zero Go.wp_at_succ
attribute [local go_sem] yielded_undef


def idE : Enc Id where
  sz := 2
  pos := by decide
  inn _ cs x := cs = [.int .u32 (x.t : Int), .int .u8 (x.r : Int)]
  len := by rintro w cs x rfl; rfl
  one := by
    rintro w cs x rfl u hu
    simp only [List.mem_cons, List.not_mem_nil, or_false] at hu
    rcases hu with rfl | rfl <;> rfl
  keep := by rintro w w' cs x _ h; exact h
theorem idE_rows {w : World} : ∀ {cs : List Value} {l : List Id}, idE.rows w cs l → cs = ids l
  | _, [], h => h
  | _, _ :: _, ⟨c, d, h1, h2, h3⟩ => by
    rw [h1, show c = _ from h2, idE_rows h3]
    rfl
theorem shr_ids {w0 w : World} {v : Value} {l : List Id} (h : Shr idE 27 w0 w v l) : Ids w v l := by
  obtain ⟨cs, h1, h2⟩ := h
  have h3 := Sees.own h1
  rw [idE_rows h2] at h3
  exact h3

set_option maxRecDepth 100000 in
set_option maxHeartbeats 4000000 in
theorem refLeft_any {v0 u0 : Value} {l : List Opn} {c : List Clocks.Tm} {w : World} (hv : OpL w v0 l) (hc : Tms w u0 c) (hl : l.length ≤ 1000000) :
    Calls Try.prog 53 #[v0, u0] w fun e w' => ∃ v', e = .returned v' ∧ OpL w' v' (leftO l c) ∧ Below w.heap.size w w' := by
  obtain ⟨ao, cap, rfl⟩ := hv.shape
  obtain ⟨n, hn⟩ : ∃ n, n = l.length := ⟨_, rfl⟩
  have hnm : n ≤ 1000000 := by omega
  have HV : Hid (∀ W : World, Below w.heap.size w W → OpL W (.slice ao l.length cap) l) := fun W h => hv.keeps h
  have HN := Lib.hid hn
  have IN : Hid (∀ (x : Opn) (W : World), Below w.heap.size w W → Calls Try.prog 91 #[u0, .agg #[.int .u32 (x.t : Int), .int .u8 (x.r : Int)]] W fun e w' => e = .returned (.bool (inC c (idO x))) ∧ Below W.heap.size W w') := fun x W h => Clocks.refInC_any (idO x) (hc.keeps h)
  rw [← hn]
  have S0 : Hid (ShrO w w (.slice none 0 0) ((l.take 0).filter (fun o => !inC c (idO o)))) := Shr.nil _ _ _ _
  have M0 : Hid (0 = ((l.take 0).filter (fun o => !inC c (idO o))).length) := rfl
  have B0 : Hid (Below w.heap.size w w) := Below.refl _ _
  clear hv hn hl hc
  go_enter Try.func53, Try.ntmps53
  go_wp2
  go_loopw [5, 6] (fun v i wr => ∃ j m : Nat, j ≤ n ∧ i = .int .i64 (j : Int) ∧ (∃ ao cap, v = .slice ao m cap) ∧ Hid (m = ((l.take j).filter (fun o => !inC c (idO o))).length) ∧ Hid (ShrO w wr v ((l.take j).filter (fun o => !inC c (idO o)))) ∧ Hid (Below w.heap.size w wr)) (fun _ i _ => n - (intOf i).toNat)
  case atStart => exact ⟨0, 0, by omega, rfl, ⟨none, 0, rfl⟩, M0, S0, B0⟩
  case round =>
    clear S0 M0 B0
    obtain ⟨j, m, hj, rfl, ⟨aoL, capL, rfl⟩, HM, hshr, hbel⟩ := hrel
    by_cases hjn : j < n
    rotate_left
    · have q3 : decide (j < n) = false := by simpa using hjn
      have hkk : l.take j = l := List.take_of_length_le (by have := HN.out; omega)
      rw [hkk] at hshr
      clear hkk
      go_wp2
      go_ret
      exact ⟨_, rfl, hshr.out.seq hbel.out, hbel.out⟩
    have q3 : decide (j < n) = true := by simpa using hjn
    have q4 : (0 : Int) ≤ (j : Int) := by omega
    have q5 : (j : Int) < (n : Int) := by omega
    have hjl : j < l.length := by rw [← HN.out]; exact hjn
    obtain ⟨bb, oo, u, e, hbb, hru, h0, h1, h2, h3, h4⟩ := opl_at (HV.out w (Below.refl _ _)) j hjl
    subst e
    obtain ⟨x, hx⟩ : ∃ x, x = l[j]'hjl := ⟨_, rfl⟩
    rw [← hx] at hru h0 h1 h2 h4
    have HO : Hid (∀ v : Value, opv x v = .agg #[.int .u8 (x.k : Int), .int .u32 (x.t : Int), .int .u8 (x.r : Int), v, .int .i64 x.p]) := fun v => rfl
    replace h0 := ((hbel.out).cell (p := ⟨bb, oo + j * 5, none⟩) hbb).trans h0
    replace h1 := ((hbel.out).cell (p := ⟨bb, oo + j * 5 + 1, none⟩) hbb).trans h1
    replace h2 := ((hbel.out).cell (p := ⟨bb, oo + j * 5 + 2, none⟩) hbb).trans h2
    replace h3 := ((hbel.out).cell (p := ⟨bb, oo + j * 5 + 3, none⟩) hbb).trans h3
    replace h4 := ((hbel.out).cell (p := ⟨bb, oo + j * 5 + 4, none⟩) hbb).trans h4
    have hbo := hbb
    replace hbb := Nat.lt_of_lt_of_le hbb (hbel.out).size
    obtain ⟨uo, uc, rfl⟩ := hru.shape
    obtain ⟨nu, hnu⟩ : ∃ n, n = x.pl.length := ⟨_, rfl⟩
    have HNU := Lib.hid hnu
    rw [← hnu] at hru h3
    clear hnu
    have INN : Hid (opE.inn w [.int .u8 (x.k : Int), .int .u32 (x.t : Int), .int .u8 (x.r : Int), .slice uo nu uc, .int .i64 x.p] x) := ⟨_, rfl, hru⟩
    have IX := Lib.hid (IN.out x wr hbel.out)
    have FT := Lib.hid (filter_take (P := fun o => !inC c (idO o)) hjl)
    rw [← hx] at FT
    obtain ⟨ly, hly⟩ : ∃ b, inC c (idO x) = b := ⟨_, rfl⟩
    rw [hly] at IX FT
    clear hx hru hly
    obtain ⟨k, hk⟩ : ∃ z, x.k = z := ⟨_, rfl⟩
    obtain ⟨t, ht⟩ : ∃ z, x.t = z := ⟨_, rfl⟩
    obtain ⟨r, hr⟩ : ∃ z, x.r = z := ⟨_, rfl⟩
    obtain ⟨p, hp⟩ : ∃ z, x.p = z := ⟨_, rfl⟩
    rw [hk, ht, hr, hp] at HO
    rw [hk] at h0
    rw [ht] at h1
    rw [hr] at h2
    rw [hp] at h4
    rw [hk, ht, hr, hp] at INN
    rw [ht, hr] at IX
    have F1 : Hid (FiveAt wr bb (oo + j * 5) (.int .u8 (k : Int)) (.int .u32 (t : Int)) (.int .u8 (r : Int)) (.slice uo nu uc) (.int .i64 p)) := ⟨hbb, h0, h1, h2, h3, h4⟩
    clear hk ht hr hp HO
    cases ly
    rotate_left
    · rw [if_neg (show ¬ (!true) = true by decide), List.append_nil] at FT
      go_wp2_with fail
      refine IX.out.mono ?_
      rintro e w5 ⟨rfl, b5⟩
      have S2 := Lib.hid (hshr.out.keeps b5)
      have B2 := Lib.hid (bt hbel.out b5)
      rw [← FT.out] at S2 HM
      clear b5 hshr IX h0 h1 h2 h3 h4
      go_wp2
      go_roundw
      case rel => exact ⟨j + 1, m, by omega, by go_num, ⟨aoL, capL, rfl⟩, HM, S2, B2⟩
      case measure => simp [intOf]; omega
    rw [if_pos (show (!false) = true from rfl)] at FT
    go_wp2_with fail
    refine IX.out.mono ?_
    rintro e w5 ⟨rfl, b5⟩
    have S2 := Lib.hid (hshr.out.keeps b5)
    have B2 := Lib.hid (bt hbel.out b5)
    have HZ := Lib.hid B2.out.size
    have hll := filter_take_len (P := fun o => !inC c (idO o)) (l := l) j
    have HMM := Lib.hid (show (m + 1) * 48 ≤ 140737488355328 ∧ m ≤ 1000000000000 by have := HM.out; have := HN.out; omega)
    clear h0 h1 h2 h3 h4
    obtain ⟨h0, h1, h2, h3, h4⟩ := (F1.out.keeps b5).2
    clear b5 hshr hll IX F1
    go_wp2_with (at_builtin; refine wpList_append_enc (E := opE) Try.underlying22 op_info rfl (w0 := w) (wp := w5) (by rfl) (.tmp 21) (.tmp 26) (by rfl) (by rfl) S2.out (G := w5.heap.size) (by rfl) rfl (c := #[.int .u8 (k : Int), .int .u32 (t : Int), .int .u8 (r : Int), .slice uo nu uc, .int .i64 p]) INN.out HM.out HMM.out.1 HMM.out.2 HZ.out ?_)
    rintro v6 w6 s6 va vc rfl b6
    have S6 := Lib.hid s6
    rw [← FT.out] at S6
    have M6 : Hid (m + 1 = ((l.take (j + 1)).filter (fun o => !inC c (idO o))).length) := by unfold Hid; rw [FT.out, List.length_append, ← HM.out]; rfl
    have B6 := Lib.hid (B2.out.trans b6)
    clear s6 b6 S2
    go_wp2
    go_roundw
    case rel => exact ⟨j + 1, m + 1, by omega, by go_num, ⟨va, vc, rfl⟩, M6, S6, B6⟩
    case measure => simp [intOf]; omega

set_option maxRecDepth 100000 in
set_option maxHeartbeats 4000000 in
theorem refLessL_any {v0 u0 : Value} {l : List Opn} {c : List Clocks.Tm} {w : World} (hv : OpL w v0 l) (hc : Tms w u0 c) :
    Calls Try.prog 24 #[v0, u0] w (DoneL (lessL l c) (lessE l c) w) := by
  have ML : Hid (∀ W : World, Below w.heap.size w W → Calls Try.prog 47 #[v0] W fun e w' => e = .returned (.bool (bagB l)) ∧ Below W.heap.size W w') := fun W h => refMayL_any (hv.keeps h)
  have MC : Hid (∀ W : World, Below w.heap.size w W → Calls Try.prog 52 #[u0] W fun e w' => e = .returned (.bool (Clocks.mayC c)) ∧ Below W.heap.size W w') := fun W h => Clocks.refMayC_any (hc.keeps h)
  have LF : Hid (bagB l = true → ∀ W : World, Below w.heap.size w W → Calls Try.prog 53 #[v0, u0] W fun e w' => ∃ v', e = .returned v' ∧ OpL w' v' (leftO l c) ∧ Below W.heap.size W w') := fun hb W h => refLeft_any (hv.keeps h) (hc.keeps h) (by have := ((bagB_iff l).1 hb).1; omega)
  have HC : Hid (((bagB l = false ∨ Clocks.mayC c = false) → lessL l c = [] ∧ lessE l c = 8) ∧ (bagB l = true → Clocks.mayC c = true → lessL l c = leftO l c ∧ lessE l c = 0)) := by
    unfold lessL lessE
    refine ⟨fun h => ?_, fun h1 h2 => ⟨if_pos ⟨h1, h2⟩, if_pos ⟨h1, h2⟩⟩⟩
    have hn : ¬ (bagB l = true ∧ Clocks.mayC c = true) := by rintro ⟨h1, h2⟩; rcases h with h | h; rw [h1] at h; cases h; rw [h2] at h; cases h
    exact ⟨if_neg hn, if_neg hn⟩
  obtain ⟨R, hR⟩ : ∃ z, lessL l c = z := ⟨_, rfl⟩
  obtain ⟨E, hE⟩ : ∃ z, lessE l c = z := ⟨_, rfl⟩
  rw [hR, hE] at HC ⊢
  clear hR hE
  obtain ⟨bl, hbl⟩ : ∃ z, bagB l = z := ⟨_, rfl⟩
  obtain ⟨mc, hmc⟩ : ∃ z, Clocks.mayC c = z := ⟨_, rfl⟩
  rw [hbl] at ML LF HC
  rw [hmc] at MC HC
  have B0 : Hid (Below w.heap.size w w) := Below.refl _ _
  clear hv hc hbl hmc
  go_enter Try.func24, Try.ntmps24
  go_wp2_with fail
  refine (ML.out _ B0.out).mono ?_
  rintro e w1 ⟨rfl, b1⟩
  have B1 := Lib.hid b1
  clear b1 B0 ML
  cases bl
  · obtain ⟨rfl, rfl⟩ := HC.out.1 (.inl rfl)
    go_wp2
    go_ret2
    exact ⟨_, rfl, Seq.nil _ _, B1.out⟩
  go_wp2_with fail
  refine (MC.out _ B1.out).mono ?_
  rintro e w2 ⟨rfl, b2⟩
  have B2 := Lib.hid (bt B1.out b2)
  clear b2 B1 MC
  cases mc
  · obtain ⟨rfl, rfl⟩ := HC.out.1 (.inr rfl)
    go_wp2
    go_ret2
    exact ⟨_, rfl, Seq.nil _ _, B2.out⟩
  obtain ⟨rfl, rfl⟩ := HC.out.2 (by trivial) (by trivial)
  have LF2 := Lib.hid (LF.out (by trivial) w2 B2.out)
  clear LF
  go_wp2_with fail
  refine LF2.out.mono ?_
  rintro e w3 ⟨v3, rfl, o3, b3⟩
  have B3 := Lib.hid (bt B2.out b3)
  have O3 := Lib.hid o3
  clear b3 o3 B2 LF2
  go_wp2
  go_ret2
  exact ⟨_, rfl, O3.out, B3.out⟩

set_option maxRecDepth 100000 in
set_option maxHeartbeats 4000000 in
theorem refStamps_any {v0 : Value} {l : List Opn} {w : World} (hv : OpL w v0 l) (hl : l.length ≤ 1000000) :
    Calls Try.prog 56 #[v0] w fun e w' => ∃ v', e = .returned v' ∧ Ids w' v' (stampsO l) ∧ Below w.heap.size w w' := by
  obtain ⟨ao, cap, rfl⟩ := hv.shape
  obtain ⟨n, hn⟩ : ∃ n, n = l.length := ⟨_, rfl⟩
  have hnm : n ≤ 1000000 := by omega
  have HV : Hid (∀ W : World, Below w.heap.size w W → OpL W (.slice ao l.length cap) l) := fun W h => hv.keeps h
  have HN := Lib.hid hn
  rw [← hn]
  have S0 : Hid (Shr idE 27 w w (.slice none 0 0) (stampsO (l.take 0))) := Shr.nil _ _ _ _
  have B0 : Hid (Below w.heap.size w w) := Below.refl _ _
  clear hv hn hl
  go_enter Try.func56, Try.ntmps56
  go_wp2
  go_loopw [3, 4] (fun v i wr => ∃ j : Nat, j ≤ n ∧ i = .int .i64 (j : Int) ∧ (∃ ao cap, v = .slice ao j cap) ∧ Hid (Shr idE 27 w wr v (stampsO (l.take j))) ∧ Hid (Below w.heap.size w wr)) (fun _ i _ => n - (intOf i).toNat)
  case atStart => exact ⟨0, by omega, rfl, ⟨none, 0, rfl⟩, S0, B0⟩
  case round =>
    clear S0 B0
    obtain ⟨j, hj, rfl, ⟨aoL, capL, rfl⟩, hshr, hbel⟩ := hrel
    by_cases hjn : j < n
    rotate_left
    · have q3 : decide (j < n) = false := by simpa using hjn
      have hkk : l.take j = l := List.take_of_length_le (by have := HN.out; omega)
      rw [hkk] at hshr
      clear hkk
      go_wp2
      go_ret
      exact ⟨_, rfl, shr_ids hshr.out, hbel.out⟩
    have q3 : decide (j < n) = true := by simpa using hjn
    have q4 : (0 : Int) ≤ (j : Int) := by omega
    have q5 : (j : Int) < (n : Int) := by omega
    have hjl : j < l.length := by rw [← HN.out]; exact hjn
    obtain ⟨bb, oo, u, e, hbb, hru, h0, h1, h2, h3, h4⟩ := opl_at (HV.out wr hbel.out) j hjl
    subst e
    obtain ⟨x, hx⟩ : ∃ x, x = l[j]'hjl := ⟨_, rfl⟩
    rw [← hx] at hru h0 h1 h2 h4
    have HO : Hid (∀ v : Value, opv x v = .agg #[.int .u8 (x.k : Int), .int .u32 (x.t : Int), .int .u8 (x.r : Int), v, .int .i64 x.p]) := fun v => rfl
    have INN : Hid (idE.inn w [.int .u32 (x.t : Int), .int .u8 (x.r : Int)] (idO x)) := rfl
    have FT : Hid (stampsO (l.take (j + 1)) = stampsO (l.take j) ++ [idO x]) := by unfold Hid stampsO; rw [List.take_succ_eq_append_getElem hjl, List.map_append, hx]; rfl
    have HM : Hid (j = (stampsO (l.take j)).length) := by unfold Hid stampsO; rw [List.length_map, List.length_take, ← HN.out]; omega
    clear hx hru
    obtain ⟨k, hk⟩ : ∃ z, x.k = z := ⟨_, rfl⟩
    obtain ⟨t, ht⟩ : ∃ z, x.t = z := ⟨_, rfl⟩
    obtain ⟨r, hr⟩ : ∃ z, x.r = z := ⟨_, rfl⟩
    obtain ⟨p, hp⟩ : ∃ z, x.p = z := ⟨_, rfl⟩
    rw [hk, ht, hr, hp] at HO
    rw [hk] at h0
    rw [ht] at h1
    rw [hr] at h2
    rw [hp] at h4
    rw [ht, hr] at INN
    clear hk ht hr hp HO
    have HZ := Lib.hid hbel.out.size
    go_wp2_with (at_builtin; refine wpList_append_enc (E := idE) Try.underlying74 id_info rfl (w0 := w) (wp := wr) (by rfl) (.tmp 11) (.tmp 17) (by rfl) (by rfl) hshr.out (G := wr.heap.size) (by rfl) rfl (c := #[.int .u32 (t : Int), .int .u8 (r : Int)]) INN.out HM.out (by omega) (by omega) HZ.out ?_)
    rintro v6 w6 s6 va vc rfl b6
    have S6 := Lib.hid s6
    rw [← FT.out] at S6
    have B6 := Lib.hid (hbel.out.trans b6)
    clear s6 b6 hshr
    go_wp2
    go_roundw
    case rel => exact ⟨j + 1, by omega, by go_num, ⟨va, vc, rfl⟩, S6, B6⟩
    case measure => simp [intOf]; omega

/-- A clock of the call's own, and an error. -/
def DoneC (c : List Clocks.Tm) (x : Int) (w : World) (e : Ending) (w' : World) : Prop := ∃ v, e = .returned (.tuple #[v, .int .i64 x]) ∧ OwnC w' w.heap.size v c ∧ Below w.heap.size w w'

set_option maxRecDepth 100000 in
set_option maxHeartbeats 4000000 in
theorem refIdsL_any {v0 : Value} {l : List Opn} {w : World} (hv : OpL w v0 l) :
    Calls Try.prog 29 #[v0] w (DoneC (idsC l) (chkL l) w) := by
  have ML := Lib.hid (refMayL_any hv)
  have ST : Hid (bagB l = true → ∀ W : World, Below w.heap.size w W → Calls Try.prog 56 #[v0] W fun e w' => ∃ v', e = .returned v' ∧ Ids w' v' (stampsO l) ∧ Below W.heap.size W w') := fun hb W h => refStamps_any (hv.keeps h) (by have := ((bagB_iff l).1 hb).1; omega)
  have AM : Hid (bagB l = true → ∀ (W : World) (v : Value), Ids W v (stampsO l) → Calls Try.prog 55 #[v] W fun e w' => ∃ v', e = .returned v' ∧ OwnC w' W.heap.size v' (Clocks.among (stampsO l)) ∧ Below W.heap.size W w') := fun hb W v h => by
    have hB := (bagB_iff l).1 hb
    refine Clocks.among_any h (fun a ha => ?_) (by unfold stampsO; rw [List.length_map]; exact hB.1)
    obtain ⟨o, ho, rfl⟩ := List.mem_map.1 ha
    exact mayO_id (hB.2.1 o ho)
  have HC : Hid ((bagB l = false → idsC l = [] ∧ chkL l = 8) ∧ (bagB l = true → idsC l = Clocks.among (stampsO l) ∧ chkL l = 0)) := by
    unfold idsC chkL
    exact ⟨fun h => by rw [h]; exact ⟨rfl, rfl⟩, fun h => by rw [h]; exact ⟨rfl, rfl⟩⟩
  obtain ⟨R, hR⟩ : ∃ z, idsC l = z := ⟨_, rfl⟩
  obtain ⟨E, hE⟩ : ∃ z, chkL l = z := ⟨_, rfl⟩
  rw [hR, hE] at HC ⊢
  clear hR hE
  obtain ⟨bl, hbl⟩ : ∃ z, bagB l = z := ⟨_, rfl⟩
  rw [hbl] at ML ST AM HC
  clear hv hbl
  go_enter Try.func29, Try.ntmps29
  go_wp2_with fail
  refine ML.out.mono ?_
  rintro e w1 ⟨rfl, b1⟩
  have B1 := Lib.hid b1
  clear b1 ML
  cases bl
  · obtain ⟨rfl, rfl⟩ := HC.out.1 rfl
    go_wp2
    go_ret2
    exact ⟨_, rfl, ⟨[], World.ownsRow_nil _ _ _ _, trivial⟩, B1.out⟩
  obtain ⟨rfl, rfl⟩ := HC.out.2 rfl
  have ST2 := Lib.hid (ST.out rfl w1 B1.out)
  have AM2 := Lib.hid (AM.out rfl)
  clear ST AM
  go_wp2_with fail
  refine ST2.out.mono ?_
  rintro e w2 ⟨v2, rfl, o2, b2⟩
  have B2 := Lib.hid (bt B1.out b2)
  have O2 := Lib.hid o2
  clear b2 o2 B1 ST2
  go_wp2_with fail
  refine (AM2.out _ _ O2.out).mono ?_
  rintro e w3 ⟨v3, rfl, o3, b3⟩
  have B3 := Lib.hid (bt B2.out b3)
  have O3 : Hid (OwnC w3 w.heap.size v3 (Clocks.among (stampsO l))) := Clocks.OwnC.base o3 B2.out.size
  clear b3 o3 B2 AM2
  go_wp2
  go_ret2
  exact ⟨_, rfl, O3.out, B3.out⟩
end Go.Proofs.Ytocjkegkgnbboaa.Bags

/- octavoref10.Great, Same, Twin: what each answers. Conditions: the slices' cells are operations; Twin's: they are not more than memory holds. -/
namespace Go.Proofs.Ytocjkegkgnbboaa.Codes
open Go.RowKit Go.WideShapes Go.Proofs.Ytocjkegkgnbboaa.Place Ops
attribute [local go_sem ↓] Go.wp_at_zero Go.wp_at_succ

/-- What Great answers: where it answers no, there are not more than so many. -/
def GrtO (l : List Opn) (m : Int) (e : Ending) : Prop := ∃ g, e = .returned (.bool g) ∧ (g = false → (l.length : Int) ≤ m ∧ ∀ k (h : k < l.length), k < 300 → (l[k]'h).pl.length ≤ 100)
theorem GrtO.yes {l : List Opn} {m : Int} : GrtO l m (.returned (.bool true)) := ⟨true, rfl, fun h => by cases h⟩

set_option maxRecDepth 100000 in
set_option maxHeartbeats 4000000 in
theorem greatO_any {v : Value} {l : List Opn} {many : Int} {w : World} (hv : OpL w v l) :
    Calls Try.prog 18 #[v, .int .i64 many] w fun e w' => GrtO l many e ∧ w = w' := by
  obtain ⟨ao, cap, rfl⟩ := hv.shape
  obtain ⟨n, hn⟩ : ∃ n, n = l.length := ⟨_, rfl⟩
  have hm : n ≤ 9223372036854775807 := by rw [hn]; exact hv.max
  have HV := Lib.hid hv
  have HN := Lib.hid hn
  rw [← hn]
  clear hv hn
  go_enter Try.func18, Try.ntmps18
  go_wp2
  go_loop [5, 6, 7] (fun s i c => ∃ (j : Nat) (m : Int), j ≤ n ∧ j ≤ 300 ∧ i = .int .i64 (j : Int) ∧ s = .int .i64 m ∧ Hid (∀ k (h : k < l.length), k < j → (l[k]'h).pl.length ≤ 100)) (fun _ i _ => n - (intOf i).toNat)
  case atStart => exact ⟨0, 0, by omega, by omega, rfl, rfl, fun k h hk => by omega⟩
  case round =>
    obtain ⟨j, m, hj, hj3, rfl, rfl, hall⟩ := hrel
    by_cases hjn : j < n
    · have q1 : decide (j < n) = true := by simpa using hjn
      by_cases hj4 : j < 300
      · have q4 : decide ((j : Int) < 300) = true := decide_eq_true (by omega)
        have q5 : decide (j < 300) = true := decide_eq_true hj4
        have q2 : (0 : Int) ≤ (j : Int) := by omega
        have q3 : (j : Int) < (n : Int) := by omega
        have hjl : j < l.length := by rw [← HN.out]; exact hjn
        obtain ⟨b1, o1, u, rfl, hb1, hru, -, -, -, ha3, -⟩ := opl_at HV.out j hjl
        have hsx := Sees.max hru
        have HRU := Lib.hid hru
        obtain ⟨so, sc, rfl⟩ := hru.shape
        obtain ⟨p, hp⟩ : ∃ p, p = (l[j]'hjl).pl := ⟨_, rfl⟩
        have HJA : Hid (p.length ≤ 100 → ∀ k (h : k < l.length), k < j + 1 → (l[k]'h).pl.length ≤ 100) := fun h1 k h hk => by
          by_cases e : k = j
          · subst e; rw [← hp]; exact h1
          · exact hall.out k h (by omega)
        rw [← hp] at ha3 hsx HRU
        obtain ⟨d, hd⟩ : ∃ d, d = p.length := ⟨_, rfl⟩
        have HD := Lib.hid hd
        rw [← hd] at ha3 hsx HRU
        clear hall hp hru hd
        by_cases h3 : 100 < d
        · have t1 : decide ((100 : Int) < (d : Int)) = true := decide_eq_true (by omega)
          have t2 : decide (100 < d) = true := decide_eq_true h3
          go_wp2
          go_ret
          exact ⟨GrtO.yes, rfl⟩
        · have t1 : decide ((100 : Int) < (d : Int)) = false := decide_eq_false (by omega)
          have t2 : decide (100 < d) = false := decide_eq_false h3
          have HJB := Lib.hid (HJA.out (by rw [← HD.out]; omega))
          clear HJA
          go_wp2
          go_loop [5, 7] (fun s c => ∃ (k : Nat) (m : Int), k ≤ d ∧ c = .int .i64 (k : Int) ∧ s = .int .i64 m) (fun _ c => d - (intOf c).toNat)
          case atStart => exact ⟨0, _, by omega, rfl, rfl⟩
          case round =>
            obtain ⟨k, m, hk, rfl, rfl⟩ := hrel
            by_cases hkd : k < d
            · have c1 : decide (k < d) = true := by simpa using hkd
              have c2 : (0 : Int) ≤ (k : Int) := by omega
              have c3 : (k : Int) < (d : Int) := by omega
              obtain ⟨b2, o2, rfl, hb2, -, -, g2⟩ := HRU.out.at k (by rw [← HD.out]; exact hkd)
              go_wp2
              go_round
              case rel => exact ⟨k + 1, _, by omega, by go_num, rfl⟩
              case measure => simp [intOf]; omega
            · have c1 : decide (k < d) = false := by simpa using hkd
              go_wp2
              go_round
              case rel => exact ⟨j + 1, _, by omega, by omega, by go_num, rfl, HJB⟩
              case measure => simp [intOf]; omega
      · obtain rfl : j = 300 := by omega
        obtain ⟨b, hb⟩ : ∃ b, decide (many < (n : Int)) = b := ⟨_, rfl⟩
        have HB : Hid (b = false → (n : Int) ≤ many) := fun h => by rw [h] at hb; have := of_decide_eq_false hb; omega
        obtain ⟨c, hc⟩ : ∃ b, decide (3000 < m) = b := ⟨_, rfl⟩
        clear q1
        cases b
        · go_wp2
          go_ret
          refine ⟨⟨_, rfl, fun _ => ⟨?_, fun k h hk => hall.out k h hk⟩⟩, rfl⟩
          rw [← HN.out]; exact HB.out trivial
        · go_wp2
          go_ret
          exact ⟨GrtO.yes, rfl⟩
    · have q1 : decide (j < n) = false := by simpa using hjn
      obtain rfl : j = n := by omega
      obtain ⟨b, hb⟩ : ∃ b, decide (many < (j : Int)) = b := ⟨_, rfl⟩
      have HB : Hid (b = false → (j : Int) ≤ many) := fun h => by rw [h] at hb; have := of_decide_eq_false hb; omega
      obtain ⟨c, hc⟩ : ∃ b, decide (3000 < m) = b := ⟨_, rfl⟩
      cases b
      · go_wp2
        go_ret
        refine ⟨⟨_, rfl, fun _ => ⟨?_, fun k h _ => hall.out k h (by have := HN.out; omega)⟩⟩, rfl⟩
        rw [← HN.out]; exact HB.out trivial
      · go_wp2
        go_ret
        exact ⟨GrtO.yes, rfl⟩

set_option maxRecDepth 100000 in
set_option maxHeartbeats 4000000 in
theorem sameL_any {u v : Value} {l m : List Opn} {w : World} (hu : OpL w u l) (hv : OpL w v m) :
    Calls Try.prog 15 #[u, v] w fun e w' => e = .returned (.bool (decide (l = m))) ∧ Below w.heap.size w w' := by
  obtain ⟨ao, cap, rfl⟩ := hu.shape
  obtain ⟨bo, cab, rfl⟩ := hv.shape
  obtain ⟨n, hn⟩ : ∃ n, n = l.length := ⟨_, rfl⟩
  obtain ⟨n', hn'⟩ : ∃ n, n = m.length := ⟨_, rfl⟩
  have hm : n ≤ 9223372036854775807 := by rw [hn]; exact hu.max
  have hm' : n' ≤ 9223372036854775807 := by rw [hn']; exact hv.max
  have HU : Hid (∀ W : World, Below w.heap.size w W → OpL W (.slice ao l.length cap) l) := fun W h => hu.keeps h
  have HV : Hid (∀ W : World, Below w.heap.size w W → OpL W (.slice bo m.length cab) m) := fun W h => hv.keeps h
  have HN := Lib.hid hn
  have HN' := Lib.hid hn'
  obtain ⟨q, hq⟩ : ∃ q, decide (l = m) = q := ⟨_, rfl⟩
  have HQ := Lib.hid hq
  rw [hq, ← hn, ← hn']
  clear hu hv hn hn' hq
  go_enter Try.func15, Try.ntmps15
  by_cases he : n = n'
  rotate_left
  · have t1 : ((n : Int) != (n' : Int)) = true := by simp; omega
    have t2 : (n == n') = false := by simpa using he
    obtain rfl : q = false := by rw [← HQ.out]; exact decide_eq_false (fun h => he (by rw [HN.out, HN'.out, h]))
    go_wp2
    go_ret
    exact ⟨rfl, Below.refl _ _⟩
  subst he
  have t1 : ((n : Int) != (n : Int)) = false := by simp
  go_wp2
  go_loopw [5] (fun i wr => ∃ j : Nat, j ≤ n ∧ i = .int .i64 (j : Int) ∧ Hid (∀ k (h : k < l.length) (h' : k < m.length), k < j → l[k]'h = m[k]'h') ∧ Hid (Below w.heap.size w wr)) (fun i _ => n - (intOf i).toNat)
  case atStart => exact ⟨0, by omega, rfl, fun k h h' hk => by omega, Below.refl _ _⟩
  case round =>
    obtain ⟨j, hj, rfl, hall, hbel⟩ := hrel
    by_cases hjn : j < n
    · have q3 : decide (j < n) = true := by simpa using hjn
      have q4 : (0 : Int) ≤ (j : Int) := by omega
      have q5 : (j : Int) < (n : Int) := by omega
      have hjl : j < l.length := by rw [← HN.out]; exact hjn
      have hjm : j < m.length := by rw [← HN'.out]; exact hjn
      obtain ⟨bb, oo, u, rfl, hbb, hru, h0, h1, h2, h3, h4⟩ := opl_at (HU.out wr hbel.out) j hjl
      obtain ⟨bb', oo', u', rfl, hbb', hru', h0', h1', h2', h3', h4'⟩ := opl_at (HV.out wr hbel.out) j hjm
      obtain ⟨x, hx⟩ : ∃ x, x = l[j]'hjl := ⟨_, rfl⟩
      obtain ⟨y, hy⟩ : ∃ x, x = m[j]'hjm := ⟨_, rfl⟩
      rw [← hx] at hru h0 h1 h2 h4
      rw [← hy] at hru' h0' h1' h2' h4'
      have SM : Hid (∀ W : World, Below wr.heap.size wr W → Calls Try.prog 31 #[opv x u, opv y u'] W fun e w' => e = .returned (.bool (sameB x y)) ∧ Below W.heap.size W w') := fun W h => Ops.refSame_any (hru.keeps h) (hru'.keeps h)
      have HO : Hid (∀ v : Value, opv x v = .agg #[.int .u8 (x.k : Int), .int .u32 (x.t : Int), .int .u8 (x.r : Int), v, .int .i64 x.p]) := fun v => rfl
      have HO' : Hid (∀ v : Value, opv y v = .agg #[.int .u8 (y.k : Int), .int .u32 (y.t : Int), .int .u8 (y.r : Int), v, .int .i64 y.p]) := fun v => rfl
      have HNO : Hid (sameB x y = false → q = false) := fun h => by
        rw [← HQ.out]
        refine decide_eq_false (fun e => ?_)
        have : x = y := by rw [hx, hy]; subst e; rfl
        rw [(sameB_iff x y).2 this] at h; cases h
      have HYES : Hid (sameB x y = true → ∀ k (h : k < l.length) (h' : k < m.length), k < j + 1 → l[k]'h = m[k]'h') := fun e k h h' hk => by
        by_cases ek : k = j
        · subst ek; rw [← hx, ← hy]; exact (sameB_iff x y).1 e
        · exact hall.out k h h' (by omega)
      obtain ⟨k, hk⟩ : ∃ k, x.k = k := ⟨_, rfl⟩
      obtain ⟨t, ht⟩ : ∃ k, x.t = k := ⟨_, rfl⟩
      obtain ⟨r, hr⟩ : ∃ k, x.r = k := ⟨_, rfl⟩
      obtain ⟨p, hp⟩ : ∃ k, x.p = k := ⟨_, rfl⟩
      rw [hk, ht, hr, hp] at HO
      rw [hk] at h0
      rw [ht] at h1
      rw [hr] at h2
      rw [hp] at h4
      obtain ⟨k', hk'⟩ : ∃ k, y.k = k := ⟨_, rfl⟩
      obtain ⟨t', ht'⟩ : ∃ k, y.t = k := ⟨_, rfl⟩
      obtain ⟨r', hr'⟩ : ∃ k, y.r = k := ⟨_, rfl⟩
      obtain ⟨p', hp'⟩ : ∃ k, y.p = k := ⟨_, rfl⟩
      rw [hk', ht', hr', hp'] at HO'
      rw [hk'] at h0'
      rw [ht'] at h1'
      rw [hr'] at h2'
      rw [hp'] at h4'
      simp only [HO.out, HO'.out] at SM
      obtain ⟨my, hmy⟩ : ∃ b, sameB x y = b := ⟨_, rfl⟩
      rw [hmy] at SM HNO HYES
      have F1 : Hid (FiveAt wr bb (oo + j * 5) (.int .u8 (k : Int)) (.int .u32 (t : Int)) (.int .u8 (r : Int)) u (.int .i64 p)) := ⟨hbb, h0, h1, h2, h3, h4⟩
      have F2 : Hid (FiveAt wr bb' (oo' + j * 5) (.int .u8 (k' : Int)) (.int .u32 (t' : Int)) (.int .u8 (r' : Int)) u' (.int .i64 p')) := ⟨hbb', h0', h1', h2', h3', h4'⟩
      have SK : Hid (∀ w' : World, Below wr.heap.size wr w' → Below wr.heap.size wr w' ∧ w'.cell? ⟨bb, oo + j * 5, none⟩ = some (.int .u8 (k : Int)) ∧ w'.cell? ⟨bb, oo + j * 5 + 1, none⟩ = some (.int .u32 (t : Int)) ∧ w'.cell? ⟨bb, oo + j * 5 + 2, none⟩ = some (.int .u8 (r : Int)) ∧ w'.cell? ⟨bb, oo + j * 5 + 3, none⟩ = some (u) ∧ w'.cell? ⟨bb, oo + j * 5 + 4, none⟩ = some (.int .i64 p) ∧ w'.cell? ⟨bb', oo' + j * 5, none⟩ = some (.int .u8 (k' : Int)) ∧ w'.cell? ⟨bb', oo' + j * 5 + 1, none⟩ = some (.int .u32 (t' : Int)) ∧ w'.cell? ⟨bb', oo' + j * 5 + 2, none⟩ = some (.int .u8 (r' : Int)) ∧ w'.cell? ⟨bb', oo' + j * 5 + 3, none⟩ = some (u') ∧ w'.cell? ⟨bb', oo' + j * 5 + 4, none⟩ = some (.int .i64 p')) := fun W h => by
        have a1 := (F1.out.keeps h).2
        have a2 := (F2.out.keeps h).2
        exact ⟨h, a1.1, a1.2.1, a1.2.2.1, a1.2.2.2.1, a1.2.2.2.2, a2.1, a2.2.1, a2.2.2.1, a2.2.2.2.1, a2.2.2.2.2⟩
      clear hru hru' hx hy hk ht hr hp hk' ht' hr' hp' hmy hall HO HO' h0 h1 h2 h3 h4 h0' h1' h2' h3' h4' F1 F2
      cases my
      · obtain rfl := HNO.out rfl
        go_wp2
        go_region_held3 (fun w' => Below wr.heap.size wr w' ∧ w'.cell? ⟨bb, oo + j * 5, none⟩ = some (.int .u8 (k : Int)) ∧ w'.cell? ⟨bb, oo + j * 5 + 1, none⟩ = some (.int .u32 (t : Int)) ∧ w'.cell? ⟨bb, oo + j * 5 + 2, none⟩ = some (.int .u8 (r : Int)) ∧ w'.cell? ⟨bb, oo + j * 5 + 3, none⟩ = some (u) ∧ w'.cell? ⟨bb, oo + j * 5 + 4, none⟩ = some (.int .i64 p) ∧ w'.cell? ⟨bb', oo' + j * 5, none⟩ = some (.int .u8 (k' : Int)) ∧ w'.cell? ⟨bb', oo' + j * 5 + 1, none⟩ = some (.int .u32 (t' : Int)) ∧ w'.cell? ⟨bb', oo' + j * 5 + 2, none⟩ = some (.int .u8 (r' : Int)) ∧ w'.cell? ⟨bb', oo' + j * 5 + 3, none⟩ = some (u') ∧ w'.cell? ⟨bb', oo' + j * 5 + 4, none⟩ = some (.int .i64 p'))
          (first | exact SK.out _ (drew1 _) | (go_split_ands; exact SK.out _ (bt (by assumption) (by assumption))) | (go_split_ands; refine SK.out _ (bt ?_ ?_) <;> assumption))
          ((go_at_call 31; go_split_ands; (with_reducible refine (SM.out _ (by assumption)).mono ?_); rintro e w9 ⟨rfl, b9⟩))
        go_wp2
        go_ret
        go_split_ands
        exact ⟨rfl, bt hbel.out (by assumption)⟩
      · have HY := Lib.hid (HYES.out rfl)
        clear HYES HNO
        go_wp2
        go_region_held3 (fun w' => Below wr.heap.size wr w' ∧ w'.cell? ⟨bb, oo + j * 5, none⟩ = some (.int .u8 (k : Int)) ∧ w'.cell? ⟨bb, oo + j * 5 + 1, none⟩ = some (.int .u32 (t : Int)) ∧ w'.cell? ⟨bb, oo + j * 5 + 2, none⟩ = some (.int .u8 (r : Int)) ∧ w'.cell? ⟨bb, oo + j * 5 + 3, none⟩ = some (u) ∧ w'.cell? ⟨bb, oo + j * 5 + 4, none⟩ = some (.int .i64 p) ∧ w'.cell? ⟨bb', oo' + j * 5, none⟩ = some (.int .u8 (k' : Int)) ∧ w'.cell? ⟨bb', oo' + j * 5 + 1, none⟩ = some (.int .u32 (t' : Int)) ∧ w'.cell? ⟨bb', oo' + j * 5 + 2, none⟩ = some (.int .u8 (r' : Int)) ∧ w'.cell? ⟨bb', oo' + j * 5 + 3, none⟩ = some (u') ∧ w'.cell? ⟨bb', oo' + j * 5 + 4, none⟩ = some (.int .i64 p'))
          (first | exact SK.out _ (drew1 _) | (go_split_ands; exact SK.out _ (bt (by assumption) (by assumption))) | (go_split_ands; refine SK.out _ (bt ?_ ?_) <;> assumption))
          ((go_at_call 31; go_split_ands; (with_reducible refine (SM.out _ (by assumption)).mono ?_); rintro e w9 ⟨rfl, b9⟩))
        go_wp2
        go_split_ands
        go_roundw
        case rel => exact ⟨j + 1, by omega, by go_num, HY, Lib.hid (bt hbel.out (by assumption))⟩
        case measure => simp [intOf]; omega
    · have q3 : decide (j < n) = false := by simpa using hjn
      obtain rfl : q = true := by
        rw [← HQ.out]
        refine decide_eq_true (List.ext_getElem (by rw [← HN.out, ← HN'.out]) (fun k h h' => hall.out k h h' (by have := HN.out; omega)))
      go_wp2
      go_ret
      exact ⟨rfl, hbel.out⟩
end Go.Proofs.Ytocjkegkgnbboaa.Codes

/- octavoref10.Twin: what it answers. Conditions: the slice's cells are operations, not more than memory holds. -/
namespace Go.Proofs.Ytocjkegkgnbboaa.Codes
open Go.RowKit Go.WideShapes Go.Proofs.Ytocjkegkgnbboaa.Place Ops
attribute [local go_sem ↓] Go.wp_at_zero Go.wp_at_succ

set_option maxRecDepth 100000 in
set_option maxHeartbeats 4000000 in
theorem twinL_any {v : Value} {l : List Opn} {w : World} (hv : OpL w v l) (hl : l.length ≤ 1000000000) (hp : ∀ o ∈ l, o.pl.length ≤ 8796093022208) :
    Calls Try.prog 46 #[v] w fun e w' => ∃ v', e = .returned v' ∧ OwnL w' w.heap.size v' l ∧ Below w.heap.size w w' := by
  obtain ⟨ao, cap, rfl⟩ := hv.shape
  obtain ⟨n, hn⟩ : ∃ n, n = l.length := ⟨_, rfl⟩
  have HV : Hid (∀ W : World, Below w.heap.size w W → OpL W (.slice ao l.length cap) l) := fun W h => hv.keeps h
  have HN := Lib.hid hn
  have HP := Lib.hid hp
  rw [← hn] at hl ⊢
  have L0 : Hid (OwnL w w.heap.size (.slice none 0 0) (l.take 0)) := OwnL.nil _ _
  have B0 : Hid (Below w.heap.size w w) := Below.refl _ _
  clear hv hn hp
  go_enter Try.func46, Try.ntmps46
  go_wp2
  go_loopw [3, 4] (fun v i wr => ∃ j : Nat, j ≤ n ∧ i = .int .i64 (j : Int) ∧ (∃ ao cap, v = .slice ao j cap) ∧ Hid (OwnL wr w.heap.size v (l.take j)) ∧ Hid (Below w.heap.size w wr)) (fun _ i _ => n - (intOf i).toNat)
  case atStart => exact ⟨0, by omega, rfl, ⟨none, 0, rfl⟩, L0, B0⟩
  case round =>
    clear L0 B0
    obtain ⟨j, hj, rfl, ⟨aoL, capL, rfl⟩, hown, hbel⟩ := hrel
    by_cases hjn : j < n
    · have q3 : decide (j < n) = true := by simpa using hjn
      have q4 : (0 : Int) ≤ (j : Int) := by omega
      have q5 : (j : Int) < (n : Int) := by omega
      have hjl : j < l.length := by rw [← HN.out]; exact hjn
      obtain ⟨bb, oo, u, rfl, hbb, hru, h0, h1, h2, h3, h4⟩ := opl_at (HV.out wr hbel.out) j hjl
      obtain ⟨x, hx⟩ : ∃ x, x = l[j]'hjl := ⟨_, rfl⟩
      have hst : l.take (j + 1) = l.take j ++ [x] := by rw [List.take_succ_eq_append_getElem hjl, hx]
      have hpx : x.pl.length ≤ 8796093022208 := HP.out x (by rw [hx]; exact List.getElem_mem hjl)
      rw [← hx] at hru h0 h1 h2 h4
      have HST := Lib.hid hst
      have TW : Hid (Calls Try.prog 82 #[opv x u] wr fun e w' => ∃ ao cap, e = .returned (opv x (.slice ao x.pl.length cap)) ∧ w'.ownsRow wr.heap.size 71 3 (.slice ao x.pl.length cap) x.pl.length (runs x.pl) ∧ Below wr.heap.size wr w') := by
        refine (refTwin_any hru hpx).mono ?_
        rintro e w' ⟨v', rfl, ho, hb⟩
        obtain ⟨ao', cap', rfl⟩ : ∃ ao cap, v' = .slice ao x.pl.length cap := Sees.shape (Sees.own ho)
        exact ⟨ao', cap', rfl, ho, hb⟩
      have HO : Hid (∀ v : Value, opv x v = .agg #[.int .u8 (x.k : Int), .int .u32 (x.t : Int), .int .u8 (x.r : Int), v, .int .i64 x.p]) := fun v => rfl
      obtain ⟨k, hk⟩ : ∃ k, x.k = k := ⟨_, rfl⟩
      obtain ⟨t, ht⟩ : ∃ k, x.t = k := ⟨_, rfl⟩
      obtain ⟨r, hr⟩ : ∃ k, x.r = k := ⟨_, rfl⟩
      obtain ⟨p, hp⟩ : ∃ k, x.p = k := ⟨_, rfl⟩
      have HFV : Hid (∀ v : Value, [.int .u8 (k : Int), .int .u32 (t : Int), .int .u8 (r : Int), v, .int .i64 p] = [Value.int .u8 (x.k : Int), .int .u32 (x.t : Int), .int .u8 (x.r : Int), v, .int .i64 x.p]) := fun v => by rw [hk, ht, hr, hp]
      rw [hk, ht, hr, hp] at HO
      rw [hk] at h0
      rw [ht] at h1
      rw [hr] at h2
      rw [hp] at h4
      obtain ⟨no, hno⟩ : ∃ n, n = x.pl.length := ⟨_, rfl⟩
      have HNO := Lib.hid hno
      rw [← hno] at TW
      simp only [HO.out] at TW
      have HLT : Hid ((l.take j).length = j) := by unfold Hid; rw [List.length_take, ← HN.out]; omega
      have hsz : w.heap.size ≤ wr.heap.size := hbel.out.size
      have HSZ := Lib.hid hsz
      clear hru hx hk ht hr hp hno hst hpx hsz
      go_wp2_with fail
      refine TW.out.mono ?_
      rintro e w5 ⟨aoO, capO, rfl, o5, b5⟩
      have L5 := Lib.hid (hown.out.keeps b5)
      have B5 := Lib.hid (bt hbel.out b5)
      obtain ⟨cs, lo, lh⟩ := L5.out
      rw [HLT.out] at lo
      have LO := Lib.hid lo
      have LH := Lib.hid lh
      have PO : Hid (w5.ownsRow w.heap.size 71 3 (.slice aoO no capO) no (runs x.pl)) := op_base o5 HSZ.out
      have SE : Hid (Sees (w5.alloc (.cells #[.int .u8 (k : Int), .int .u32 (t : Int), .int .u8 (r : Int), .slice aoO no capO, .int .i64 p] 30)) (.slice (some ⟨w5.heap.size, 0, none⟩) 1 1) 5 1 [.int .u8 (k : Int), .int .u32 (t : Int), .int .u8 (r : Int), .slice aoO no capO, .int .i64 p]) := sees_new w5 [.int .u8 (k : Int), .int .u32 (t : Int), .int .u8 (r : Int), .slice aoO no capO, .int .i64 p] 5 1 rfl (by omega) 30 (0, 0)
      have OA : Hid ((w5.alloc (.cells #[.int .u8 (k : Int), .int .u32 (t : Int), .int .u8 (r : Int), .slice aoO no capO, .int .i64 p] 30)).ownsRow w.heap.size 30 5 (.slice aoL j capL) j cs) := own_stays LO.out ((Below.refl _ _).alloc (Nat.le_refl _) _)
      have FO : ∀ z ∈ [Value.int .u8 (k : Int), .int .u32 (t : Int), .int .u8 (r : Int), .slice aoO no capO, .int .i64 p], z.oneCell' = true := by rw [HFV.out]; exact five_one x _ ⟨_, _, _, rfl⟩
      have FO2 := Lib.hid FO
      have bz : w.heap.size ≤ (w5.alloc (.cells #[.int .u8 (k : Int), .int .u32 (t : Int), .int .u8 (r : Int), .slice aoO no capO, .int .i64 p] 30)).heap.size := by have := B5.out.size; simp; omega
      clear o5 b5 lo lh FO hown hbel L5
      go_wp2_with (at_builtin; refine wpList_append_sees rfl (.tmp 11) (.tmp 17) 22 30 rfl Try.underlying22 op_info rfl (by decide) w.heap.size _ j cs rfl OA.out _ 1 [.int .u8 (k : Int), .int .u32 (t : Int), .int .u8 (r : Int), .slice aoO no capO, .int .i64 p] rfl SE.out FO2.out ?k1 ?k2 ?k3 ?_)
      case k1 => omega
      case k2 => omega
      case k3 => exact bz
      rintro v6 w6 o6 g6 b6
      have L6 : Hid (OwnL w6 w.heap.size v6 (l.take (j + 1))) := by
        have lo2 := LO.out
        have o7 := o6
        rw [HFV.out] at o7
        have po := own_stays (PO.out) ((Below.refl _ _).alloc (Nat.le_refl _) (.cells #[.int .u8 (k : Int), .int .u32 (t : Int), .int .u8 (r : Int), .slice aoO no capO, .int .i64 p] 30))
        have gx := g6
        unfold Hid
        rw [HST.out]
        rw [← HLT.out] at lo2 gx
        rw [HNO.out] at po o7
        refine OwnL.snoc (W := w5) (W8 := w5.alloc (.cells #[.int .u8 (k : Int), .int .u32 (t : Int), .int .u8 (r : Int), .slice aoO no capO, .int .i64 p] 30)) (m := j + 1) lo2 LH.out ((Below.refl _ _).alloc (Nat.le_refl _) _) ?_ gx o7 (by rw [HLT.out])
        rw [HNO.out]
        exact po
      have B6 : Hid (Below w.heap.size w w6) := (B5.out.alloc B5.out.size _).trans b6
      obtain ⟨va, vc, rfl⟩ : ∃ ao cap, v6 = .slice ao (j + 1) cap := Sees.shape (Sees.own o6)
      clear o6 g6 b6 OA SE LO LH PO B5 bz
      go_wp2
      go_roundw
      case rel => exact ⟨j + 1, by omega, by go_num, ⟨va, vc, rfl⟩, L6, B6⟩
      case measure => simp [intOf]; omega
    · have q3 : decide (j < n) = false := by simpa using hjn
      have hkk : l.take j = l := List.take_of_length_le (by have := HN.out; omega)
      rw [hkk] at hown
      clear hkk
      go_wp2
      go_ret
      exact ⟨_, rfl, hown.out, hbel.out⟩
end Go.Proofs.Ytocjkegkgnbboaa.Codes

/- octavoref11.Find, Same, Twin: what each answers. Conditions: the slices' cells are operations; Twin's: not more than memory holds. -/
namespace Go.Proofs.Ytocjkegkgnbboaa.Bags
open Go.RowKit Go.WideShapes Stamp Go.Proofs.Ytocjkegkgnbboaa.Place Ops Codes
attribute [local go_sem ↓] Go.wp_at_zero Go.wp_at_succ
attribute [local go_sem] yielded_undef

def findL (l : List Opn) (a : Id) : Option Opn := if bagB l = true then findO l a else none

set_option maxRecDepth 100000 in
set_option maxHeartbeats 8000000 in
theorem refFindL_any {v : Value} {l : List Opn} (a : Id) {w : World} (hv : OpL w v l) :
    Calls Try.prog 28 #[v, .agg #[.int .u32 (a.t : Int), .int .u8 (a.r : Int)]] w (FoundO (findL l a) v l w) := by
  have ML : Hid (∀ W : World, Below w.heap.size w W → Calls Try.prog 47 #[v] W fun e w' => e = .returned (.bool (bagB l)) ∧ Below W.heap.size W w') := fun W h => refMayL_any (hv.keeps h)
  have OF : Hid (∀ W : World, Below w.heap.size w W → Calls Try.prog 54 #[v, .agg #[.int .u32 (a.t : Int), .int .u8 (a.r : Int)]] W (FoundO (findO l a) v l W)) := fun W h => refOfO_any a (hv.keeps h)
  have HVV : Hid (∀ W : World, Below w.heap.size w W → OpL W v l) := fun W h => hv.keeps h
  have HC : Hid ((bagB l = false → findL l a = none) ∧ (bagB l = true → findL l a = findO l a)) := by
    unfold findL
    exact ⟨fun h => by rw [h]; rfl, fun h => by rw [h]; rfl⟩
  obtain ⟨R, hR⟩ : ∃ z, findL l a = z := ⟨_, rfl⟩
  obtain ⟨Q, hQ⟩ : ∃ z, findO l a = z := ⟨_, rfl⟩
  obtain ⟨bl, hbl⟩ : ∃ z, bagB l = z := ⟨_, rfl⟩
  rw [hR, hQ, hbl] at HC
  rw [hR]
  rw [hQ] at OF
  rw [hbl] at ML
  obtain ⟨ta, ra, hta, hra⟩ := a
  simp only at OF ⊢
  have BL : Hid (Below w.heap.size w ((w.alloc (.cells #[.int .u32 (ta : Int), .int .u8 (ra : Int)] 27)).alloc (.cells #[.int .u8 0, .int .u32 0, .int .u8 0, .slice none 0 0, .int .i64 0] 30))) := ((Below.refl _ _).alloc (Nat.le_refl _) _).alloc (by simp) _
  have XO : Hid (((w.alloc (.cells #[.int .u32 (ta : Int), .int .u8 (ra : Int)] 27)).alloc (.cells #[.int .u8 0, .int .u32 0, .int .u8 0, .slice none 0 0, .int .i64 0] 30)).heap[w.heap.size + 1]? = some (.cells #[.int .u8 0, .int .u32 0, .int .u8 0, .slice none 0 0, .int .i64 0] 30)) := blk_new (by simp)
  have XI : Hid (((w.alloc (.cells #[.int .u32 (ta : Int), .int .u8 (ra : Int)] 27)).alloc (.cells #[.int .u8 0, .int .u32 0, .int .u8 0, .slice none 0 0, .int .i64 0] 30)).heap[w.heap.size]? = some (.cells #[.int .u32 (ta : Int), .int .u8 (ra : Int)] 27)) := blk_old (blk_new rfl)
  clear hv hR hQ hbl
  go_enter Try.func28, Try.ntmps28
  go_wp2_with fail
  refine (ML.out _ BL.out).mono ?_
  rintro e w1 ⟨rfl, b1⟩
  have B1 := Lib.hid (bt BL.out b1)
  have X1 := Lib.hid (blk_below b1 XO.out)
  have I1 := Lib.hid (blk_below b1 XI.out)
  clear b1 BL XO XI ML
  cases bl
  · obtain rfl := HC.out.1 rfl
    obtain ⟨x0, x1, x2, x3, x4⟩ := cells5 X1.out
    have f0 : ∀ o, w1.frozen? ⟨w.heap.size + 1, o, none⟩ = false := fun o => free5 X1.out o
    go_wp2_with fail
    obtain ⟨WF, hWF⟩ : ∃ WF, WF = put5 w1 (w.heap.size + 1) (.int .u8 0) (.int .u32 0) (.int .u8 0) (.slice none 0 0) (.int .i64 0) := ⟨_, rfl⟩
    have HF := put5_same (.int .u8 0) (.int .u32 0) (.int .u8 0) (.slice none 0 0) (.int .i64 0) X1.out
    have BF := put5_below (.int .u8 0) (.int .u32 0) (.int .u8 0) (.slice none 0 0) (.int .i64 0) (show w.heap.size ≤ w.heap.size + 1 by omega) B1.out
    rw [← hWF] at HF BF
    unfold put5 at hWF
    rw [← hWF]
    obtain ⟨e0, e1, e2, e3, e4⟩ := cells5 HF
    exact bodyPost_ret (v := .tuple #[.agg #[.int .u8 0, .int .u32 0, .int .u8 0, .slice none 0 0, .int .i64 0], .bool false]) (by simp [results, Try.results28, go_sem, e0, e1, e2, e3, e4]) rfl ⟨.slice none 0 0, rfl, fun _ _ _ => Runs.nil _, BF⟩
  obtain rfl := HC.out.2 rfl
  obtain ⟨z0, z1⟩ : w1.cell? ⟨w.heap.size, 0, none⟩ = some (.int .u32 (ta : Int)) ∧ w1.cell? ⟨w.heap.size, 1, none⟩ = some (.int .u8 (ra : Int)) := ⟨cell_of_row _ _ 0 _ _ _ I1.out, cell_of_row _ _ 1 _ _ _ I1.out⟩
  go_wp2_with fail
  refine (OF.out _ B1.out).mono ?_
  rintro e w2 ⟨v2, rfl, r2, b2⟩
  have B2 := Lib.hid (bt B1.out b2)
  have X2 := Lib.hid (blk_below b2 X1.out)
  obtain ⟨x, hx⟩ : ∃ x, x = R.getD zop := ⟨_, rfl⟩
  obtain ⟨some?, hs⟩ : ∃ b, b = R.isSome := ⟨_, rfl⟩
  rw [← hx] at r2
  rw [← hx, ← hs]
  have HX := Lib.hid hx
  have HS := Lib.hid hs
  obtain ⟨uo, uc, rfl⟩ := (r2 _ (Below.refl _ _) (HVV.out _ B1.out)).shape
  obtain ⟨nu, hnu⟩ : ∃ n, n = x.pl.length := ⟨_, rfl⟩
  rw [← hnu] at r2 ⊢
  have R2 := Lib.hid r2
  have HO : Hid (∀ v : Value, opv x v = .agg #[.int .u8 (x.k : Int), .int .u32 (x.t : Int), .int .u8 (x.r : Int), v, .int .i64 x.p]) := fun v => rfl
  obtain ⟨k, hk⟩ : ∃ z, x.k = z := ⟨_, rfl⟩
  obtain ⟨t, ht⟩ : ∃ z, x.t = z := ⟨_, rfl⟩
  obtain ⟨r, hr⟩ : ∃ z, x.r = z := ⟨_, rfl⟩
  obtain ⟨p, hp⟩ : ∃ z, x.p = z := ⟨_, rfl⟩
  rw [hk, ht, hr, hp] at HO
  simp only [HO.out]
  clear hx hs b2 r2 hnu hk ht hr hp z0 z1 I1 OF HC X1
  obtain ⟨x0, x1, x2, x3, x4⟩ := cells5 X2.out
  have f0 : ∀ o, w2.frozen? ⟨w.heap.size + 1, o, none⟩ = false := fun o => free5 X2.out o
  go_wp2_with fail
  obtain ⟨WF, hWF⟩ : ∃ WF, WF = put5 w2 (w.heap.size + 1) (.int .u8 (k : Int)) (.int .u32 (t : Int)) (.int .u8 (r : Int)) (.slice uo nu uc) (.int .i64 p) := ⟨_, rfl⟩
  have HF := put5_same (.int .u8 (k : Int)) (.int .u32 (t : Int)) (.int .u8 (r : Int)) (.slice uo nu uc) (.int .i64 p) X2.out
  have BF := put5_below (.int .u8 (k : Int)) (.int .u32 (t : Int)) (.int .u8 (r : Int)) (.slice uo nu uc) (.int .i64 p) (show w.heap.size ≤ w.heap.size + 1 by omega) B2.out
  rw [← hWF] at HF BF
  unfold put5 at hWF
  rw [← hWF]
  obtain ⟨e0, e1, e2, e3, e4⟩ := cells5 HF
  exact bodyPost_ret (v := .tuple #[.agg #[.int .u8 (k : Int), .int .u32 (t : Int), .int .u8 (r : Int), .slice uo nu uc, .int .i64 p], .bool some?]) (by simp [results, Try.results28, go_sem, e0, e1, e2, e3, e4]) rfl ⟨.slice uo nu uc, by rw [← HX.out, ← HS.out, HO.out], by rw [← HX.out]; exact fun W hb h => R2.out W (bt hb B1.out) h, BF⟩

theorem refSameL_any {u v : Value} {l m : List Opn} {w : World} (hu : OpL w u l) (hv : OpL w v m) :
    Calls Try.prog 25 #[u, v] w fun e w' => e = .returned (.bool (decide (l = m))) ∧ Below w.heap.size w w' := by
  have C := Lib.hid (sameL_any hu hv)
  obtain ⟨q, hq⟩ : ∃ q, decide (l = m) = q := ⟨_, rfl⟩
  rw [hq] at C ⊢
  clear hu hv hq
  go_enter Try.func25, Try.ntmps25
  go_wp2_with fail
  refine C.out.mono ?_
  rintro e w1 ⟨rfl, b1⟩
  have B1 := Lib.hid b1
  clear b1
  go_wp2
  go_ret
  exact ⟨rfl, B1.out⟩
theorem refTwinL_any {v : Value} {l : List Opn} {w : World} (hv : OpL w v l) (hl : l.length ≤ 1000000000) (hp : ∀ o ∈ l, o.pl.length ≤ 8796093022208) :
    Calls Try.prog 20 #[v] w fun e w' => ∃ v', e = .returned v' ∧ OwnL w' w.heap.size v' l ∧ Below w.heap.size w w' := by
  have C := Lib.hid (twinL_any hv hl hp)
  clear hv hl hp
  go_enter Try.func20, Try.ntmps20
  go_wp2_with fail
  refine C.out.mono ?_
  rintro e w1 ⟨v1, rfl, o1, b1⟩
  have B1 := Lib.hid b1
  have O1 := Lib.hid o1
  clear b1 o1
  go_wp2
  go_ret
  exact ⟨_, rfl, O1.out, B1.out⟩
end Go.Proofs.Ytocjkegkgnbboaa.Bags

/- What calls of bag answer, in shape: lists of the call's own; how long they can be. Conditions: none. -/
namespace Go.Proofs.Ytocjkegkgnbboaa.Bags
open Go.RowKit Go.WideShapes Stamp Go.Proofs.Ytocjkegkgnbboaa.Place Ops Codes

/-- Operations of the call's own, and an error. -/
def DoneN (L : List Opn) (x : Int) (w : World) (e : Ending) (w' : World) : Prop := ∃ v, e = .returned (.tuple #[v, .int .i64 x]) ∧ OwnL w' w.heap.size v L ∧ Below w.heap.size w w'
/-- An operation of the call's own, if it is there. -/
def FoundN (q : Option Opn) (w : World) (e : Ending) (w' : World) : Prop := ∃ v, e = .returned (.tuple #[opv (q.getD zop) v, .bool q.isSome]) ∧ w'.ownsRow w.heap.size 71 3 v (q.getD zop).pl.length (runs (q.getD zop).pl) ∧ Below w.heap.size w w'
theorem mayO_fits {o : Opn} (h : mayO o = true) : o.pl.length ≤ 64 := ((mayB_iff o.pl).1 (mayO_parts h).2.1).2.1
theorem bag_fits {l : List Opn} (h : Bag l) : l.length ≤ 1024 ∧ ∀ o ∈ l, o.pl.length ≤ 8796093022208 := ⟨h.1, fun o ho => by have := mayO_fits (h.2.1 o ho); omega⟩
theorem joinO_bag {a b : List Opn} (h : joinE a b = 0) : joinO a b = bothO a b ∧ Bag (joinO a b) := by
  have e : joinO a b = bothO a b := by unfold joinO; rw [if_pos h]
  rcases joinE_cases a b with ⟨h1, _⟩ | ⟨h1, _⟩ | ⟨_, h2, h3, h4⟩
  · rw [h] at h1; cases h1
  · rw [h] at h1; cases h1
  · rw [e]; exact ⟨rfl, bag_bothO h2 h3 h4⟩
theorem lessL_bag (l : List Opn) (c : List Clocks.Tm) : Bag (lessL l c) := by
  unfold lessL
  split
  · rename_i h; exact bag_leftO c ((bagB_iff l).1 h.1)
  · exact bag_nil
end Go.Proofs.Ytocjkegkgnbboaa.Bags
