/- ViewJoin answers true, and changes nothing that was there. Conditions: none. -/
import Derived.Test.YtohiidgdpecbdaaPk17
import Derived.Test.YtohiidgdpecbdaaPk19
import Derived.Test.YtohiidgdpecbdaaPk07
import Derived.Test.YtohiidgdpecbdaaPk13
import Derived.Test.YtohiidgdpecbdaaPk16
import Derived.Test.YtohiidgdpecbdaaPk06

namespace Go.Proofs.Ytohiidgdpecbdaa.Views
open Go.RowKit Go.WideShapes Stamp Go.Proofs.Ytohiidgdpecbdaa.Place Ops Codes Bags Marks Homes Covers
attribute [local go_sem ↓] Go.wp_at_zero Go.wp_at_succ
attribute [local go_sem] yielded_undef

set_option maxRecDepth 100000 in
set_option maxHeartbeats 16000000 in
theorem join_walk {l m : List Opn} {ao0 ao1 : Option Addr} {cap0 cap1 : Nat} {w : World} (hr0 : OpL w (.slice ao0 l.length cap0) l) (hr1 : OpL w (.slice ao1 m.length cap1) m) :
    Calls Try.prog 5 #[.slice ao0 l.length cap0, .slice ao1 m.length cap1] w fun e w' => e = .returned (.bool true) ∧ Below w.heap.size w w' := by
  have HV : Hid (∀ W : World, Below w.heap.size w W → OpL W (.slice ao0 l.length cap0) l) := fun W h => hr0.keeps h
  have HU : Hid (∀ W : World, Below w.heap.size w W → OpL W (.slice ao1 m.length cap1) m) := fun W h => hr1.keeps h
  have AV := Lib.hid alive15_any
  have GA : Hid (∀ W : World, Below w.heap.size w W → Calls Try.prog 11 #[.slice ao0 l.length cap0, .int .i64 30] W fun e w' => GrtO l 30 e ∧ W = w') := fun W h => greatO_any (HV.out W h)
  have GB : Hid (∀ W : World, Below w.heap.size w W → Calls Try.prog 11 #[.slice ao1 m.length cap1, .int .i64 30] W fun e w' => GrtO m 30 e ∧ W = w') := fun W h => greatO_any (HU.out W h)
  have hgr : ∀ {L : List Opn} {e : Ending}, GrtO L 30 e → ∃ g, e = .returned (.bool g) := fun ⟨g, h1, h2⟩ => ⟨g, h1⟩
  have AK : Hid (∀ W : World, Below w.heap.size w W → Calls Try.prog 16 #[.slice ao0 l.length cap0, .slice ao1 m.length cap1] W fun e w' => Alk l m e ∧ Below W.heap.size W w') := fun W h => alike_any (HV.out W h) (HU.out W h)
  have J1 : Hid (∀ W : World, Below w.heap.size w W → Calls Try.prog 17 #[.slice ao0 l.length cap0, .slice ao1 m.length cap1] W (DoneN (joinO l m) (joinE l m) W)) := fun W h => bJoin_any (HV.out W h) (HU.out W h)
  have J2 : Hid (Alike l m → ∀ W : World, Below w.heap.size w W → Calls Try.prog 17 #[.slice ao1 m.length cap1, .slice ao0 l.length cap0] W (DoneN (joinO l m) (joinE l m) W)) := fun hal W h => by
    have := bJoin_any (HU.out W h) (HV.out W h)
    rwa [← (join_alike hal).1, ← (join_alike hal).2] at this
  have JB : Hid (joinE l m = 0 → Bag (joinO l m)) := fun h => (joinO_bag h).2
  obtain ⟨J, hJ⟩ : ∃ z, joinO l m = z := ⟨_, rfl⟩
  obtain ⟨E1, hE1⟩ : ∃ z, joinE l m = z := ⟨_, rfl⟩
  rw [hJ, hE1] at J1 J2 JB
  have CA : Hid (∀ (W : World) (v : Value), OpL W v J → Calls Try.prog 12 #[v] W (AllI (allL J) (chkL J) W)) := fun W v h => hAll_any h
  have CT : Hid (∀ (W : World) (v : Value) (s : Id), OpL W v J → Calls Try.prog 9 #[v, .agg #[.int .u32 (s.t : Int), .int .u8 (s.r : Int)]] W fun e w' => e = .returned (.tuple #[.string (str (textL J s)), .int .i64 (spanE J s)]) ∧ Below W.heap.size W w') := fun W v s h => vText_any s h
  have XA : Hid (Bag J → chkL J = 0 ∧ allL J = sectsM (livesM J J) ∧ (livesM J J).length ≤ 1024 ∧ ∀ i, i < (livesM J J).length + 1 → spanE J ((sectsM (livesM J J)).getD i zid) = 0) := fun hb => ⟨chkL_yes hb, by unfold allL; rw [(bagB_iff J).2 hb]; rfl, (lives_fits hb).1, fun i hi => sect_where hb hi⟩
  obtain ⟨A, hA⟩ : ∃ z, allL J = z := ⟨_, rfl⟩
  obtain ⟨C, hC⟩ : ∃ z, chkL J = z := ⟨_, rfl⟩
  rw [hA, hC] at CA XA
  obtain ⟨n0, hn0⟩ : ∃ n, n = l.length := ⟨_, rfl⟩
  obtain ⟨n1, hn1⟩ : ∃ n, n = m.length := ⟨_, rfl⟩
  rw [← hn0] at GA AK J1 J2 ⊢
  rw [← hn1] at GB AK J1 J2 ⊢
  have B_0 : Hid (Below w.heap.size w w) := Below.refl _ _
  have e1 : (E1 == E1) = true := by simp
  clear hr0 hr1 hn0 hn1 hJ hE1 hA hC HV HU
  go_enter Try.func5, Try.ntmps5
  go_wp2_with fail
  refine (AV.out _).mono ?_
  rintro e w1 ⟨rfl, b1⟩
  have B_1 := Lib.hid (bt B_0.out b1)
  clear B_0
  clear b1
  clear AV
  go_wp2_with fail
  refine (GA.out _ B_1.out).mono ?_
  rintro e w2 ⟨hg, rfl⟩
  obtain ⟨g2, rfl⟩ := hgr hg
  clear hg GA
  cases g2
  rotate_left
  · go_wp2
    go_ret
    exact ⟨rfl, B_1.out⟩
  go_wp2_with fail
  refine (GB.out _ B_1.out).mono ?_
  rintro e w3 ⟨hg, rfl⟩
  obtain ⟨g3, rfl⟩ := hgr hg
  clear hg GB
  cases g3
  rotate_left
  · go_wp2
    go_ret
    exact ⟨rfl, B_1.out⟩
  go_wp2_with fail
  refine (AK.out _ B_1.out).mono ?_
  rintro e w4 ⟨⟨x4, rfl, hx4⟩, b4⟩
  have HA := Lib.hid hx4
  have B_2 := Lib.hid (bt B_1.out b4)
  clear B_1
  clear b4 hx4
  clear AK hgr
  cases x4
  · go_wp2
    go_ret
    exact ⟨rfl, B_2.out⟩
  have J3 := Lib.hid (J2.out (HA.out (by first | trivial | rfl)))
  clear HA J2
  go_wp2_with fail
  refine (J1.out _ B_2.out).mono ?_
  rintro e w5 ⟨vx, rfl, o5, b5⟩
  have B_3 := Lib.hid (bt B_2.out b5)
  clear B_2
  have X_4 := Lib.hid (o5.opl)
  clear b5 o5
  clear J1
  go_wp2_with fail
  refine (J3.out _ B_3.out).mono ?_
  rintro e w6 ⟨vy, rfl, o6, b6⟩
  have B_5 := Lib.hid (bt B_3.out b6)
  clear B_3
  have X_6 := Lib.hid (X_4.out.keeps b6)
  clear X_4
  have Y_7 := Lib.hid (o6.opl)
  clear b6 o6
  clear J3
  go_wp2_with fail
  refine (CA.out _ _ X_6.out).mono ?_
  rintro e w7 ⟨lo, lc, rfl, o7, b7⟩
  have B_8 := Lib.hid (bt B_5.out b7)
  clear B_5
  have X_9 := Lib.hid (X_6.out.keeps b7)
  clear X_6
  have Y_10 := Lib.hid (Y_7.out.keeps b7)
  clear Y_7
  have I_11 := Lib.hid (Go.Proofs.Ytohiidgdpecbdaa.Ids.own o7)
  clear b7 o7
  clear CA
  by_cases hE : E1 = 0
  rotate_left
  · have q1 : (E1 == 0) = false := by simpa using hE
    have q2 : decide (E1 = 0) = false := decide_eq_false hE
    clear JB XA CT X_9 Y_10 I_11
    go_wp2
    go_ret
    exact ⟨rfl, B_8.out⟩
  subst hE
  obtain ⟨rfl, hA, hVl, hS⟩ := XA.out (JB.out (by first | trivial | rfl))
  subst hA
  have XAT := Lib.hid hS
  have I4 : Hid (∀ W : World, Below w7.heap.size w7 W → Ids W (.slice lo (sectsM (livesM J J)).length lc) (sectsM (livesM J J))) := fun W h => I_11.out.keeps h
  have X4 : Hid (∀ W : World, Below w7.heap.size w7 W → OpL W vx J) := fun W h => X_9.out.keeps h
  have Y4 : Hid (∀ W : World, Below w7.heap.size w7 W → OpL W vy J) := fun W h => Y_10.out.keeps h
  have HNS := sectsM_len (livesM J J)
  obtain ⟨V, hV⟩ : ∃ z, livesM J J = z := ⟨_, rfl⟩
  rw [hV] at HNS hVl I4 XAT ⊢
  obtain ⟨L, hL⟩ : ∃ z, z = sectsM V := ⟨_, rfl⟩
  rw [← hL] at I4 XAT HNS ⊢
  obtain ⟨N, hN⟩ : ∃ z, z = L.length := ⟨_, rfl⟩
  rw [← hN] at I4 HNS ⊢
  have hNm : N ≤ 1025 := by omega
  have HNV := Lib.hid HNS
  have HLN := Lib.hid hN
  have Z3 : Hid (Below w7.heap.size w7 w7) := Below.refl _ _
  clear JB XA hS hV hL hN HNS X_9 Y_10 I_11 e1
  go_wp2
  go_loopw [12] (fun i wr => ∃ j : Nat, j ≤ N ∧ i = .int .i64 (j : Int) ∧ Hid (Below w7.heap.size w7 wr)) (fun i _ => N - (intOf i).toNat)
  case atStart => exact ⟨0, by omega, rfl, Z3⟩
  case round =>
    clear Z3
    obtain ⟨j, hj, rfl, hbel⟩ := hrel
    by_cases hjN : j < N
    rotate_left
    · have q3 : decide (j < N) = false := by simpa using hjN
      have BW := Lib.hid (bt B_8.out hbel.out)
      clear I4 X4 Y4 XAT CT hbel
      go_wp2
      go_ret
      exact ⟨rfl, BW.out⟩
    have q3 : decide (j < N) = true := by simpa using hjN
    have q4 : (0 : Int) ≤ (j : Int) := by omega
    have q5 : (j : Int) < (N : Int) := by omega
    have hjV : j < V.length + 1 := by have := HNV.out; omega
    have hjl : j < L.length := by have := HLN.out; omega
    obtain ⟨bb, oo, e, hbb, h0, h1⟩ := Ids.at (I4.out wr hbel.out) j hjl
    subst e
    have x3 := XAT.out j hjV
    have TX1 := CT.out wr _ (L.getD j zid) (X4.out wr hbel.out)
    have TY1 : Hid (∀ W : World, Below w7.heap.size w7 W → Calls Try.prog 9 #[vy, .agg #[.int .u32 ((L.getD j zid).t : Int), .int .u8 ((L.getD j zid).r : Int)]] W fun e w' => e = .returned (.tuple #[.string (str (textL J (L.getD j zid))), .int .i64 (spanE J (L.getD j zid))]) ∧ Below W.heap.size W w') := fun W h => CT.out W _ (L.getD j zid) (Y4.out W h)
    rw [x3] at TX1 TY1
    obtain ⟨⟨t0, r0, ht0, hr0⟩, hs⟩ : ∃ z, L.getD j zid = z := ⟨_, rfl⟩
    rw [hs] at h0 h1 TX1 TY1
    simp only at h0 h1 TX1 TY1
    obtain ⟨S, hS⟩ : ∃ z, str (textL J ⟨t0, r0, ht0, hr0⟩) = z := ⟨_, rfl⟩
    rw [hS] at TX1 TY1
    have e6 : (S.toList == S.toList) = true := by simp
    have ELT : Hid (∀ W : World, Below wr.heap.size wr W → W.cell? ⟨bb, oo + j * 2, none⟩ = some (.int .u32 (t0 : Int)) ∧ W.cell? ⟨bb, oo + j * 2 + 1, none⟩ = some (.int .u8 (r0 : Int))) := fun W h => ⟨(h.cell (p := ⟨bb, oo + j * 2, none⟩) hbb).trans h0, (h.cell (p := ⟨bb, oo + j * 2 + 1, none⟩) hbb).trans h1⟩
    have TX2 := Lib.hid TX1
    clear TX1 x3 hs hS hbb CT I4 X4 Y4 XAT
    go_wp2_with fail
    refine TX2.out.mono ?_
    rintro e wp ⟨rfl, bp⟩
    have BP := Lib.hid (bt hbel.out bp)
    obtain ⟨y0, y1⟩ := ELT.out _ bp
    clear bp h0 h1 TX2 hbel ELT
    go_wp2_with fail
    refine (TY1.out _ BP.out).mono ?_
    rintro e wq ⟨rfl, bq⟩
    have BQ := Lib.hid (bt BP.out bq)
    clear bq y0 y1 TY1 BP
    go_wp2
    go_roundw
    case rel => exact ⟨j + 1, by omega, by go_num, BQ⟩
    case measure => simp [intOf]; omega
end Go.Proofs.Ytohiidgdpecbdaa.Views
