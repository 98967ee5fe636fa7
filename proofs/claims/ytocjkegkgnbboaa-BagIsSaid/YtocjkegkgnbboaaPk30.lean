/- BagOrder answers true, and changes nothing that was there. Conditions: none. -/
import Derived.Deep.DeepCutAuto
import Derived.Test.YtocjkegkgnbboaaPk29
import Derived.Test.YtocjkegkgnbboaaPk13

namespace Go.Proofs.Ytocjkegkgnbboaa.Bags
open Go.RowKit Go.WideShapes Stamp Go.Proofs.Ytocjkegkgnbboaa.Place Ops Codes
attribute [local go_sem ↓] Go.wp_at_zero Go.wp_at_succ
attribute [local go_sem] yielded_undef

/-- A test, and what it tells where it fails. -/
def Tst (t : Value) (P : Prop) : Prop := ∃ q, t = .bool q ∧ (q = false → P)
theorem tst {P : Prop} (q : Bool) (h : q = false → P) : Tst (.bool q) P := ⟨q, rfl, h⟩
set_option maxRecDepth 100000 in
set_option maxHeartbeats 16000000 in
theorem order_walk {l : List Opn} {ao : Option Addr} {cap : Nat} {many : Int} {w : World} (hr0 : OpL w (.slice ao l.length cap) l) :
    Calls Try.prog 6 #[.slice ao l.length cap, .int .i64 many] w fun e w' => e = .returned (.bool true) ∧ Below w.heap.size w w' := by
  have HV : Hid (∀ W : World, Below w.heap.size w W → OpL W (.slice ao l.length cap) l) := fun W h => hr0.keeps h
  obtain ⟨n, hn⟩ : ∃ n, n = l.length := ⟨_, rfl⟩
  have HN := Lib.hid hn
  have hcap := Seq.cap hr0
  have hcap1 : n ≤ cap := by omega
  have hcap2 := hcap.2.2.1
  have HCN := Lib.hid hcap.2.2.2
  have AV := Lib.hid alive11_any
  have GR : Hid (∀ W : World, Below w.heap.size w W → Calls Try.prog 18 #[.slice ao l.length cap, .int .i64 40] W fun e w' => GrtO l 40 e ∧ W = w') := fun W h => greatO_any (HV.out W h)
  have UN : Hid (∀ W : World, Below w.heap.size w W → Calls Try.prog 34 #[.slice ao l.length cap] W fun e w' => Unl l e ∧ Below W.heap.size W w') := fun W h => unlike_any (HV.out W h)
  have PU : Hid (∀ (W : World) (v : Value) (m : List Opn), OpL W v m → Calls Try.prog 9 #[.slice none 0 0, v] W fun e w' => ∃ v, e = .returned (.tuple #[v, .bool (putL [] m).2]) ∧ OpL w' v (putL [] m).1 ∧ Below W.heap.size W w') := fun W v m h => put_any (Seq.nil opE W) h
  have SL : Hid (∀ (W : World) (u v : Value) (a b : List Opn), OpL W u a → OpL W v b → a = b → Calls Try.prog 33 #[u, v] W fun e w' => e = .returned (.bool true) ∧ Below W.heap.size W w') := fun W u v a b h h2 e => by
    have := bSame_any h h2
    rwa [decide_eq_true e] at this
  have JO : Hid (∀ (W : World) (u v : Value) (a b : List Opn), OpL W u a → OpL W v b → joinE a b = 0 → Calls Try.prog 22 #[u, v] W (DoneN (joinO a b) 0 W)) := fun W u v a b h h2 e => by
    have := bJoin_any h h2
    rwa [e] at this
  have CK : Hid (∀ (W : World) (u : Value) (a : List Opn), OpL W u a → chkL a = 0 → Calls Try.prog 17 #[u] W fun e w' => e = .returned (.int .i64 0) ∧ Below W.heap.size W w') := fun W u a h e => by
    have := bCheck_any h
    rwa [e] at this
  have hge : ∀ {m : Int} {e : Ending}, GrtO l m e → ∃ g, e = .returned (.bool g) ∧ Hid (g = false → (n : Int) ≤ m) := fun ⟨g, h1, h2⟩ => ⟨g, h1, fun h => by have := (h2 h).1; omega⟩
  rw [← hn] at GR UN HV ⊢
  clear hr0 hn hcap
  go_enter Try.func6, Try.ntmps6
  go_wp2_with fail
  refine (AV.out _).mono ?_
  rintro e w1 ⟨rfl, b1⟩
  have B1 := Lib.hid b1
  clear b1 AV
  go_upto_region 2 with fail
  go_cut [40] (fun t wx => Below w1.heap.size w1 wx ∧ Tst t (n ≤ 40 ∧ 0 ≤ many ∧ many ≤ (n : Int) ∧ Once l))
  case first =>
    have GR2 := Lib.hid (GR.out _ B1.out)
    have UN2 := Lib.hid (UN.out _ B1.out)
    clear GR UN PU SL JO CK
    go_wp2_with fail
    refine GR2.out.mono ?_
    rintro e w2 ⟨hg, rfl⟩
    obtain ⟨g, rfl, hgg⟩ := hge hg
    clear hg hge
    cases g
    rotate_left
    · go_wp2
      all_goals go_meet
      all_goals exact ⟨Below.refl _ _, tst _ (fun h => by cases h)⟩
    go_wp2_with fail
    refine UN2.out.mono ?_
    rintro e w2 ⟨⟨q, rfl, hq⟩, b2⟩
    have B2 := Lib.hid b2
    have HQ := Lib.hid hq
    clear b2 hq
    cases q
    rotate_left
    · go_wp2
      all_goals go_meet
      all_goals exact ⟨B2.out, tst _ (fun h => by cases h)⟩
    obtain ⟨q2, hq2⟩ : ∃ q, decide (many < 0) = q := ⟨_, rfl⟩
    obtain ⟨q3, hq3⟩ : ∃ q, decide ((n : Int) < many) = q := ⟨_, rfl⟩
    have HA : Hid (q2 = false → q3 = false → n ≤ 40 ∧ 0 ≤ many ∧ many ≤ (n : Int) ∧ Once l) := fun h1 h2 => by
      rw [h1] at hq2; rw [h2] at hq3
      have := of_decide_eq_false hq2
      have := of_decide_eq_false hq3
      have := hgg.out (by trivial)
      exact ⟨by omega, by omega, by omega, once_at (HQ.out (by trivial))⟩
    cases q2
    rotate_left
    · go_wp2
      all_goals go_meet
      all_goals exact ⟨B2.out, tst _ (fun h => by cases h)⟩
    cases q3
    rotate_left
    · go_wp2
      all_goals go_meet
      all_goals exact ⟨B2.out, tst _ (fun h => by cases h)⟩
    have HB := Lib.hid (HA.out rfl rfl)
    go_wp2
    all_goals go_meet
    all_goals exact ⟨B2.out, tst _ (fun _ => HB.out)⟩
  case rest =>
    obtain ⟨bw, q, rfl, hq⟩ := hcut
    obtain ⟨w2, rfl⟩ : ∃ w2 : World, w2 = wc := ⟨_, rfl⟩
    have B2 := Lib.hid (bt B1.out bw)
    clear bw GR UN hge B1
    cases q
    rotate_left
    · go_wp2
      go_ret
      exact ⟨rfl, B2.out⟩
    obtain ⟨h40, hm0, hm1, honce⟩ := hq rfl
    have HO := Lib.hid honce
    clear hq honce
    obtain ⟨m, rfl⟩ := Int.eq_ofNat_of_zero_le hm0
    have hmn : m ≤ n := by omega
    have OL := Lib.hid (HV.out _ B2.out)
    go_wp2_with fail
    refine (PU.out _ _ _ OL.out).mono ?_
    rintro e w3 ⟨va, rfl, oa, b3⟩
    have A3 := Lib.hid oa
    have B3 := Lib.hid (bt B2.out b3)
    obtain ⟨ok, hok⟩ : ∃ q, (putL [] l).2 = q := ⟨_, rfl⟩
    have HOK := Lib.hid hok
    rw [hok]
    clear oa b3 hok OL B2
    cases ok
    · go_wp2
      go_ret
      exact ⟨rfl, B3.out⟩
    have ALL := Lib.hid (order_all (m := m) HO.out (by have := HN.out; omega) HOK.out)
    have HNR : Hid (n = l.reverse.length) := by unfold Hid; rw [List.length_reverse]; exact HN.out
    have S0 : Hid (ShrO w3 w3 (.slice none 0 0) (l.reverse.take 0)) := Shr.nil _ _ _ _
    have e0 : IntKind.i64.wrap ((n : Int) - 1) = (n : Int) - 1 := IntWalk.i64_in _ (by omega)
    have BB : Hid (Below w3.heap.size w3 w3) := Below.refl _ _
    go_wp2
    go_loopw [8, 9] (fun v i wr => ∃ j : Nat, j ≤ n ∧ i = .int .i64 ((n : Int) - 1 - (j : Int)) ∧ (∃ ao cap, v = .slice ao j cap) ∧ Hid (ShrO w3 wr v (l.reverse.take j)) ∧ Hid (Below w3.heap.size w3 wr)) (fun _ i _ => (intOf i + 1).toNat)
    case atStart => exact ⟨0, by omega, by simp, ⟨none, 0, rfl⟩, S0, BB⟩
    case round =>
      clear S0 BB
      obtain ⟨j, hj, rfl, ⟨aoL, capL, rfl⟩, hshr, hbel⟩ := hrel
      have BW := Lib.hid (bt B3.out hbel.out)
      by_cases hjn : j < n
      · obtain ⟨i, hi⟩ : ∃ i : Nat, i = n - 1 - j := ⟨_, rfl⟩
        have ei : (n : Int) - 1 - (j : Int) = (i : Int) := by omega
        have en : (n : Int) - 1 - ((j + 1 : Nat) : Int) = (i : Int) - 1 := by omega
        have ew : IntKind.i64.wrap ((i : Int) - 1) = (i : Int) - 1 := IntWalk.i64_in _ (by omega)
        rw [ei]
        have EN := Lib.hid en
        have hin : i < n := by omega
        have q3 : decide ((0 : Int) ≤ (i : Int)) = true := decide_eq_true (by omega)
        have q4 : (0 : Int) ≤ (i : Int) := by omega
        have q5 : (i : Int) < (n : Int) := by omega
        have hil : i < l.length := by rw [← HN.out]; exact hin
        have hrev : l.reverse[j]'(by rw [← HNR.out]; exact hjn) = l[i]'hil := by rw [List.getElem_reverse]; congr 1; (try (have := HN.out; omega))
        obtain ⟨bb, oo, u, e, hbb, hru, h0, h1, h2, h3, h4⟩ := opl_at (HV.out w3 B3.out) i hil
        subst e
        obtain ⟨x, hx⟩ : ∃ x, x = l[i]'hil := ⟨_, rfl⟩
        rw [← hx] at hru h0 h1 h2 h4
        have HO : Hid (∀ v : Value, opv x v = .agg #[.int .u8 (x.k : Int), .int .u32 (x.t : Int), .int .u8 (x.r : Int), v, .int .i64 x.p]) := fun v => rfl
        obtain ⟨uo, uc, rfl⟩ := hru.shape
        obtain ⟨nu, hnu⟩ : ∃ n, n = x.pl.length := ⟨_, rfl⟩
        have HNU := Lib.hid hnu
        rw [← hnu] at hru h3
        clear hnu
        replace h0 := ((hbel.out).cell (p := ⟨bb, oo + i * 5, none⟩) hbb).trans h0
        replace h1 := ((hbel.out).cell (p := ⟨bb, oo + i * 5 + 1, none⟩) hbb).trans h1
        replace h2 := ((hbel.out).cell (p := ⟨bb, oo + i * 5 + 2, none⟩) hbb).trans h2
        replace h3 := ((hbel.out).cell (p := ⟨bb, oo + i * 5 + 3, none⟩) hbb).trans h3
        replace h4 := ((hbel.out).cell (p := ⟨bb, oo + i * 5 + 4, none⟩) hbb).trans h4
        have hbo := hbb
        replace hbb := Nat.lt_of_lt_of_le hbb (hbel.out).size
        have INN : Hid (opE.inn w3 [.int .u8 (x.k : Int), .int .u32 (x.t : Int), .int .u8 (x.r : Int), .slice uo nu uc, .int .i64 x.p] x) := ⟨_, rfl, hru⟩
        have FT : Hid (l.reverse.take (j + 1) = l.reverse.take j ++ [x]) := by unfold Hid; rw [List.take_succ_eq_append_getElem (by rw [← HNR.out]; exact hjn), hrev, hx]
        have HM : Hid (j = (l.reverse.take j).length) := by unfold Hid; rw [List.length_take, ← HNR.out]; omega
        have HZ := Lib.hid hbel.out.size
        clear hx hru hrev en ei hi
        obtain ⟨k, hk⟩ : ∃ z, x.k = z := ⟨_, rfl⟩
        obtain ⟨t, ht⟩ : ∃ z, x.t = z := ⟨_, rfl⟩
        obtain ⟨r, hr⟩ : ∃ z, x.r = z := ⟨_, rfl⟩
        obtain ⟨p, hp⟩ : ∃ z, x.p = z := ⟨_, rfl⟩
        rw [hk, ht, hr, hp] at HO
        rw [hk] at h0
        rw [ht] at h1
        rw [hr] at h2
        rw [hp] at h4
        rw [hk, ht, hr, hp] at INN
        clear hk ht hr hp
        go_wp2_with (at_builtin; refine wpList_append_enc (E := opE) Try.underlying22 op_info rfl (w0 := w3) (wp := wr) (by rfl) (.tmp 56) (.tmp 61) (by rfl) (by rfl) hshr.out (G := wr.heap.size) (by rfl) rfl (c := #[.int .u8 (k : Int), .int .u32 (t : Int), .int .u8 (r : Int), .slice uo nu uc, .int .i64 p]) INN.out HM.out (by omega) (by omega) HZ.out ?_)
        rintro v6 w6 s6 va6 vc6 rfl b6
        have S6 := Lib.hid s6
        rw [← FT.out] at S6
        have B6 := Lib.hid (hbel.out.trans b6)
        clear s6 b6 hshr
        go_wp2
        go_roundw
        case rel => exact ⟨j + 1, by omega, by rw [EN.out], ⟨va6, vc6, rfl⟩, S6, B6⟩
        case measure => simp [intOf] <;> omega
      · obtain rfl : j = n := by omega
        have q3 : decide ((0 : Int) ≤ (j : Int) - 1 - (j : Int)) = false := decide_eq_false (by omega)
        have q4 : ((j : Int) - 1 - (j : Int)) = -1 := by omega
        rw [q4]
        clear q3 q4
        have OB : Hid (OpL wr (.slice aoL j capL) l.reverse) := by
          have h := hshr.out.seq hbel.out
          rwa [List.take_of_length_le (by rw [← HNR.out]; exact Nat.le_refl _)] at h
        have A4 := Lib.hid (A3.out.keeps hbel.out)
        clear hshr A3
        go_wp2_with fail
        refine (PU.out _ _ _ OB.out).mono ?_
        rintro e w5 ⟨vb, rfl, ob, b5⟩
        have A5 := Lib.hid (A4.out.keeps b5)
        have Q5 := Lib.hid ob
        have B5 := Lib.hid (bt BW.out b5)
        rw [ALL.out.1]
        clear ob b5 A4 OB
        have OT := Lib.hid ((HV.out _ B5.out).take (m := m) (by have := HN.out; omega))
        have k1 : (0 : Int) ≤ (m : Int) := by omega
        have k2 : (m : Int) ≤ (cap : Int) := by omega
        have k3 : m ≤ cap := by omega
        obtain ⟨okx, hokx⟩ : ∃ q, (putL [] (l.take m)).2 = q := ⟨_, rfl⟩
        have PX := Lib.hid (PU.out w5 _ _ OT.out)
        rw [hokx] at PX
        go_wp2_with fail
        refine PX.out.mono ?_
        rintro e w6 ⟨vx, rfl, ox, b6⟩
        have A6 := Lib.hid (A5.out.keeps b6)
        have Q6 := Lib.hid (Q5.out.keeps b6)
        have X6 := Lib.hid ox
        have B6 := Lib.hid (bt B5.out b6)
        clear ox b6 A5 Q5 OT B5 hokx PX
        go_upto_region 14 with fail
        go_cut [14, 15] (fun y ok wx => Hid (OpL wx y (putL [] (l.drop m)).1) ∧ Hid (Below w6.heap.size w6 wx))
        case first =>
          have OL6 := Lib.hid (HV.out _ B6.out)
          by_cases hz : l = []
          · obtain rfl : j = 0 := by have := HN.out; rw [hz] at this; simpa using this
            obtain rfl : m = 0 := by omega
            cases ao with
            | none =>
              obtain rfl : cap = 0 := HCN.out rfl
              have PY := Lib.hid (PU.out w6 _ _ (seq_none opE w6 (ao := none) (cap := 0) (by omega) (fun _ => rfl)))
              go_wp2_with fail
              refine PY.out.mono ?_
              rintro e w7 ⟨vy, rfl, oy, b7⟩
              go_wp2
              go_meet
              exact ⟨by rw [hz]; exact oy, b7⟩
            | some a =>
              obtain ⟨b, off, spot⟩ := a
              have PY : Hid (∀ ao' cap', (ao' = none → cap' = 0) → cap' ≤ 9223372036854775807 → Calls Try.prog 9 #[.slice none 0 0, .slice ao' 0 cap'] w6 fun e w' => ∃ v, e = .returned (.tuple #[v, .bool (putL [] []).2]) ∧ OpL w' v (putL [] []).1 ∧ Below w6.heap.size w6 w') := fun ao' cap' h1 h2 => PU.out w6 _ _ (seq_none opE w6 h2 h1)
              go_wp2_with fail
              refine (PY.out _ _ (fun h => by cases h) hcap2).mono ?_
              rintro e w7 ⟨vy, rfl, oy, b7⟩
              go_wp2
              go_meet
              exact ⟨by rw [hz]; exact oy, b7⟩
          · obtain ⟨b, off, o', rfl, hif, hpart⟩ := seq_part OL6.out hmn hz
            have hif2 : (if cap = m then (some ⟨b, off, none⟩ : Option Addr) else some ⟨b, off + m * 5, none⟩) = some ⟨b, o', none⟩ := hif
            clear hif
            have PY := Lib.hid (PU.out w6 _ _ hpart)
            have k4 : (m : Int) ≤ (j : Int) := by omega
            go_wp2_with fail
            refine PY.out.mono ?_
            rintro e w7 ⟨vy, rfl, oy, b7⟩
            go_wp2
            go_meet
            exact ⟨oy, b7⟩
        case rest =>
          obtain ⟨y7, b7⟩ := hcut
          obtain ⟨w7, rfl⟩ : ∃ w7 : World, w7 = wc := ⟨_, rfl⟩
          have A7 := Lib.hid (A6.out.keeps b7.out)
          have Q7 := Lib.hid (Q6.out.keeps b7.out)
          have X7 := Lib.hid (X6.out.keeps b7.out)
          have B7 := Lib.hid (bt B6.out b7.out)
          clear b7 A6 Q6 X6 B6
          have PJ := Lib.hid (JO.out w7 _ _ _ _ X7.out y7.out ALL.out.2.2.1)
          rw [ALL.out.2.2.2.1] at PJ
          go_wp2_with fail
          refine PJ.out.mono ?_
          rintro e w8 ⟨vc, rfl, oc, b8⟩
          have A8 := Lib.hid (A7.out.keeps b8)
          have Q8 := Lib.hid (Q7.out.keeps b8)
          have X8 := Lib.hid (X7.out.keeps b8)
          have Y8 := Lib.hid (y7.out.keeps b8)
          have C8 := Lib.hid oc.opl
          have B8 := Lib.hid (bt B7.out b8)
          clear b8 oc A7 Q7 X7 B7 PJ y7
          have PJ := Lib.hid (JO.out w8 _ _ _ _ Y8.out X8.out ALL.out.2.2.2.2.1)
          rw [ALL.out.2.2.2.2.2.1] at PJ
          go_wp2_with fail
          refine PJ.out.mono ?_
          rintro e w9 ⟨vd, rfl, od, b9⟩
          have A9 := Lib.hid (A8.out.keeps b9)
          have Q9 := Lib.hid (Q8.out.keeps b9)
          have C9 := Lib.hid (C8.out.keeps b9)
          have D9 := Lib.hid od.opl
          have B9 := Lib.hid (bt B8.out b9)
          clear b9 od A8 Q8 X8 Y8 C8 B8 PJ
          go_wp2_with fail
          refine (SL.out _ _ _ _ _ A9.out Q9.out ALL.out.2.1.symm).mono ?_
          rintro e w10 ⟨rfl, b10⟩
          have A10 := Lib.hid (A9.out.keeps b10)
          have C10 := Lib.hid (C9.out.keeps b10)
          have D10 := Lib.hid (D9.out.keeps b10)
          have B10 := Lib.hid (bt B9.out b10)
          clear b10 A9 Q9 C9 D9 B9
          go_wp2_with fail
          refine (SL.out _ _ _ _ _ A10.out C10.out rfl).mono ?_
          rintro e w11 ⟨rfl, b11⟩
          have A11 := Lib.hid (A10.out.keeps b11)
          have D11 := Lib.hid (D10.out.keeps b11)
          have B11 := Lib.hid (bt B10.out b11)
          clear b11 A10 C10 D10 B10
          go_wp2_with fail
          refine (SL.out _ _ _ _ _ A11.out D11.out rfl).mono ?_
          rintro e w12 ⟨rfl, b12⟩
          have A12 := Lib.hid (A11.out.keeps b12)
          have B12 := Lib.hid (bt B11.out b12)
          clear b12 A11 D11 B11
          go_wp2_with fail
          refine (CK.out _ _ _ A12.out ALL.out.2.2.2.2.2.2).mono ?_
          rintro e w13 ⟨rfl, b13⟩
          have B13 := Lib.hid (bt B12.out b13)
          clear b13 A12 B12
          go_wp2
          go_ret
          exact ⟨rfl, B13.out⟩
end Go.Proofs.Ytocjkegkgnbboaa.Bags
