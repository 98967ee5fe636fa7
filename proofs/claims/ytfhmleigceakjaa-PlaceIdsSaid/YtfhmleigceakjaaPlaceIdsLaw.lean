/- The law PlaceIds: a place made of its stamps again; the walk. Conditions: the slice's cells are runs. -/
import Derived.Test.YtfhmleigceakjaaPlaceOrder
import Derived.Test.YtfhmleigceakjaaPlaceMath4
namespace Go.Proofs.Ytfhmleigceakjaa.Place
open Go.RowKit Stamp
attribute [local go_sem ↓] Go.wp_at_zero Go.wp_at_succ
attribute [local go_sem] yielded_undef

theorem getLast_take {l : List Id} {i : Nat} (h1 : 1 ≤ i) (h2 : i ≤ l.length) : (l.take i).getLast? = some (l.getD (i - 1) zid) := by
  obtain ⟨k, rfl⟩ : ∃ k, i = k + 1 := ⟨i - 1, by omega⟩
  rw [List.take_succ_eq_append_getElem (by omega), List.getLast?_append]
  simp [List.getD, List.getElem?_eq_getElem (show k < l.length by omega)]
/-- Each stamp of a place goes under the ones ahead of it. -/
theorem step_ok {p q : List Run} {i : Nat} (hp : mayB p = true) (hq : anyB q = true) (hi : i < (all p).length) (hall : all q = (all p).take i) :
    ∃ q', und q ((all p).getD i zid) = (q', 0) ∧ anyB q' = true ∧ all q' = (all p).take (i + 1) := by
  have hM := (mayB_iff p).1 hp
  have hc := hM.2.2.1
  have hcq := ((anyB_iff q).1 hq).chain
  obtain ⟨a, ha⟩ : ∃ a, a = (all p).getD i zid := ⟨_, rfl⟩
  have hmem : a ∈ all p := by
    rw [ha, List.getD, List.getElem?_eq_getElem hi]
    exact List.getElem_mem hi
  have hmay := chain_may hc a hmem
  have hl : ¬ (0 < q.length ∧ (a.t : Int) ≤ fin (q.getD (q.length - 1) zrun)) := by
    rintro ⟨h0, h1⟩
    have hla := last_all hcq h0
    have hi1 : 1 ≤ i := by
      cases i with
      | zero =>
        rw [List.take_zero] at hall
        have := (all_nil hcq).1 hall
        subst this
        simp at h0
      | succ i => omega
    rw [hall, getLast_take hi1 (by omega)] at hla
    have ho := chain_one hcq (k := q.length - 1) (by omega)
    obtain ⟨n, hn, n1, n2, n3, n4⟩ := ho.nat
    have hid := Id.eq_iff.1 (Option.some.inj hla)
    rw [mk_t (by omega)] at hid
    have hr := rises_get (k := i - 1) (chain_rises hc) (by omega)
    rw [show i - 1 + 1 = i by omega, ← ha, hid.1] at hr
    unfold fin at h1
    omega
  have hmore := more_all (a := a) hcq
  have htake : all (more q a) = (all p).take (i + 1) := by
    rw [hmore, hall, List.take_succ_eq_append_getElem hi, ha]
    simp [List.getD, List.getElem?_eq_getElem hi]
  have hlq := long_len hcq
  have hlp := long_len hc
  have hml := more_long (a := a) hcq
  have hlen : (all q).length = i := by rw [hall, List.length_take]; omega
  have h4 : long (more q a) ≤ 4096 := by have := hM.2.2.2; omega
  have hch := more_chain hcq hmay hl h4
  have h64 : (more q a).length ≤ p.length := front_len (m := (all p).drop (i + 1)) hch hc (by rw [htake, List.take_append_drop])
  have hmb : mayB (more q a) = true := (mayB_iff _).2 ⟨more_pos q a, by have := hM.2.1; omega, hch, h4⟩
  refine ⟨more q a, ?_, anyB_may hmb, htake⟩
  rw [← ha, und_may hq hmay hl, if_pos hmb]

set_option maxRecDepth 100000 in
set_option maxHeartbeats 8000000 in
theorem ids_walk (ao0 : Option Addr) (cap0 : Nat) (l0 : List Run) (w : World) (hr0 : Runs w (.slice ao0 l0.length cap0) l0) :
    Calls Try.prog 8 #[.slice ao0 l0.length cap0] w fun e w' => e = .returned (.bool true) ∧ Below w.heap.size w w' := by
  obtain ⟨n0, hn0⟩ : ∃ n, n = l0.length := ⟨_, rfl⟩
  rw [← hn0] at hr0
  rw [← hn0]
  have H0 := Lib.hid hr0
  have N0 := Lib.hid hn0
  have AL := Lib.hid (alive_any w)
  have ID := Lib.hid (fun (W : World) (v : Value) (h : Runs W v l0) => pIds_any h)
  clear hr0 hn0
  cases hm : mayB l0
  · have h1 : idsOf l0 = [] := by unfold idsOf; rw [hm]; rfl
    have h2 : idsE l0 = 8 := by unfold idsE; rw [hm]; rfl
    rw [h1, h2] at ID
    clear h1 h2 hm
    go_enter Try.func8, Try.ntmps8
    go_wp2_with fail
    refine AL.out.mono ?_
    rintro e w1 ⟨rfl, b1⟩
    have B1 := Lib.hid b1
    clear b1
    go_wp2_with fail
    refine (ID.out _ _ (H0.out.keeps B1.out)).mono ?_
    rintro e w2 ⟨aoL, capL, rfl, il, b2⟩
    have B2 := Lib.hid (bt B1.out b2)
    clear il b2
    go_wp2
    go_ret
    exact ⟨rfl, B2.out⟩
  have hio := idsOf_may hm
  rw [hio.1, hio.2] at ID
  have hM := (mayB_iff l0).1 hm
  have hll := long_len hM.2.2.1
  have hcb : (all l0).length ≤ 4096 := by have := hM.2.2.2; omega
  obtain ⟨I, hI⟩ : ∃ I, I = all l0 := ⟨_, rfl⟩
  have HI := Lib.hid hI
  rw [← hI] at ID hll hcb
  obtain ⟨Ln, hLn⟩ : ∃ Ln, Ln = I.length := ⟨_, rfl⟩
  have HLn := Lib.hid hLn
  rw [← hLn] at ID hll hcb
  have HM := Lib.hid (And.intro hm hM)
  have HLL := Lib.hid hll
  have hn64 : n0 ≤ 64 := by have := hM.2.1; have := N0.out; omega
  have hn1 : 1 ≤ n0 := by have := hM.1; have := N0.out; omega
  clear hio hM hll hI hLn hm
  by_cases g0 : 300 < Ln
  · have t0 : decide ((300 : Int) < (Ln : Int)) = true := decide_eq_true (by omega)
    have u0 : decide (300 < Ln) = true := decide_eq_true g0
    go_enter Try.func8, Try.ntmps8
    go_wp2_with fail
    refine AL.out.mono ?_
    rintro e w1 ⟨rfl, b1⟩
    have B1 := Lib.hid b1
    clear b1
    go_wp2_with fail
    refine (ID.out _ _ (H0.out.keeps B1.out)).mono ?_
    rintro e w2 ⟨aoL, capL, rfl, il, b2⟩
    have B2 := Lib.hid (bt B1.out b2)
    clear il b2
    go_wp2
    go_ret
    exact ⟨rfl, B2.out⟩
  have t0 : decide ((300 : Int) < (Ln : Int)) = false := decide_eq_false (by omega)
  have u0 : decide (300 < Ln) = false := decide_eq_false g0
  go_enter Try.func8, Try.ntmps8
  go_wp2_with fail
  refine AL.out.mono ?_
  rintro e w1 ⟨rfl, b1⟩
  have B1 := Lib.hid b1
  clear b1
  go_wp2_with fail
  refine (ID.out _ _ (H0.out.keeps B1.out)).mono ?_
  rintro e w2 ⟨aoL, capL, rfl, il, b2⟩
  have B2 := Lib.hid (bt B1.out b2)
  have IL := Lib.hid il
  clear il b2 AL ID
  have RP := Lib.hid (H0.out.keeps B2.out)
  go_wp2
  go_loop [7, 8] (fun s i => ∃ (k : Nat) (L : Int), k ≤ n0 ∧ i = .int .i64 (k : Int) ∧ s = .int .i64 L ∧ (0 ≤ L ∧ L ≤ 4096 * (k : Int)) ∧ Hid (L = long (l0.take k))) (fun _ i => n0 - (intOf i).toNat)
  case atStart => exact ⟨0, 0, by omega, rfl, rfl, by omega, Lib.hid (by simp [long])⟩
  case round =>
    obtain ⟨k, L, hk, rfl, rfl, hLb, hlong⟩ := hrel
    by_cases hkn : k < n0
    · have q1 : decide (k < n0) = true := by simpa using hkn
      obtain ⟨b, off, rfl, hb, hx0, hx1, hx2⟩ := RP.out.at k (by rw [← N0.out]; exact hkn)
      have hlt := long_take l0 k (by rw [← N0.out]; exact hkn)
      rw [← hlong.out] at hlt
      have hone := chain_one HM.out.2.2.2.1 (k := k) (by rw [← N0.out]; exact hkn)
      obtain ⟨m, hm⟩ : ∃ m, m = (l0.getD k zrun).m := ⟨_, rfl⟩
      have hmb : 1 ≤ m ∧ m ≤ 4096 := by rw [hm]; exact ⟨hone.2.2.2.1, hone.2.2.2.2.1⟩
      rw [← hm] at hx2 hlt
      have HL2 : Hid (L + m = long (l0.take (k + 1))) := hlt.symm
      have q2 : (0 : Int) ≤ (k : Int) := by omega
      have q3 : (k : Int) < (n0 : Int) := by omega
      clear hx0 hx1 hlt hone hm
      go_wp2
      go_round
      case rel => exact ⟨k + 1, L + m, by omega, by go_num, rfl, by omega, HL2⟩
      case measure => simp [intOf]; omega
    · have q1 : decide (k < n0) = false := by simpa using hkn
      have hkk : l0.take k = l0 := List.take_of_length_le (by have := N0.out; omega)
      have hLL : L = (Ln : Int) := by have := hlong.out; rw [hkk] at this; rw [this]; exact HLL.out.symm
      subst hLL
      clear hkk hlong
      go_wp2
      go_loopw [6, 9] (fun qv i wr => ∃ (j : Nat) (aoQ : Option Addr) (nq capQ : Nat) (q : List Run), j ≤ Ln ∧ i = .int .i64 (j : Int) ∧ qv = .slice aoQ nq capQ ∧ Hid (Runs wr (.slice aoQ nq capQ) q ∧ anyB q = true ∧ all q = I.take j) ∧ Hid (Below w2.heap.size w2 wr)) (fun _ i _ => Ln - (intOf i).toNat)
      case atStart => exact ⟨0, none, 0, 0, [], by omega, rfl, rfl, Lib.hid ⟨Runs.nil _, rfl, by simp [all]⟩, Lib.hid (Below.refl _ _)⟩
      case round =>
        obtain ⟨j, aoQ, nq, capQ, q, hj, rfl, rfl, hq, hbel⟩ := hrel
        by_cases hjn : j < Ln
        · have p1 : decide (j < Ln) = true := by simpa using hjn
          have hst := step_ok (q := q) (i := j) HM.out.1 hq.out.2.1 (by rw [← HI.out, ← HLn.out]; exact hjn) (by rw [← HI.out]; exact hq.out.2.2)
          rw [← HI.out] at hst
          obtain ⟨q', hund, hq1, hq2⟩ := hst
          obtain ⟨b, off, rfl, hb, hy0, hy1⟩ := (IL.out.keeps hbel.out).at j (by rw [← HLn.out]; exact hjn)
          obtain ⟨a, ha⟩ : ∃ a, a = I.getD j zid := ⟨_, rfl⟩
          rw [← ha] at hund hy0 hy1
          have hrises := chain_rises HM.out.2.2.2.1
          rw [← HI.out] at hrises
          have U := Lib.hid (pUnder_any (a := a) hq.out.1)
          rw [hund] at U
          simp only at U
          have HQ := Lib.hid (And.intro hq1 hq2)
          have r0 : (0 : Int) ≤ (j : Int) := by omega
          have r1 : (j : Int) < (Ln : Int) := by omega
          by_cases hj0 : j = 0
          · have g1 : decide ((0 : Int) < (j : Int)) = false := decide_eq_false (by omega)
            have g2 : decide (0 < j) = false := decide_eq_false (by omega)
            obtain ⟨ta, ra, hta, hra⟩ := a
            simp only at hy0 hy1 U
            clear hund hq1 hq2 ha hrises hj0
            go_wp2_with fail
            refine U.out.mono ?_
            rintro e w4 ⟨aoX, capX, rfl, ox, b4⟩
            have RX := Lib.hid (Runs.own ox)
            have B4 := Lib.hid (bt hbel.out b4)
            clear ox b4 hy0 hy1
            go_wp2
            go_quiet (fail)
            go_wp2
            go_roundw
            case rel => exact ⟨j + 1, aoX, _, capX, q', by omega, by go_num, rfl, Lib.hid ⟨RX.out.keeps (below_draw (Below.refl _ _) _), HQ.out.1, HQ.out.2⟩, Lib.hid (below_draw B4.out _)⟩
            case measure => simp [intOf]; omega
          · obtain ⟨i, hi⟩ : ∃ i, j = i + 1 := ⟨j - 1, by omega⟩
            obtain ⟨b', off', he, _, hz0, hz1⟩ := (IL.out.keeps hbel.out).at i (by rw [← HLn.out]; omega)
            obtain ⟨rfl, rfl⟩ : b = b' ∧ off = off' := by simpa using he
            have hlt := rises_get (k := i) hrises (by rw [← HLn.out]; omega)
            rw [← hi, ← ha] at hlt
            obtain ⟨p, hp⟩ : ∃ p, p = I.getD i zid := ⟨_, rfl⟩
            rw [← hp] at hz0 hz1 hlt
            have g1 : decide ((0 : Int) < (j : Int)) = true := decide_eq_true (by omega)
            have g2 : decide (0 < j) = true := decide_eq_true (by omega)
            have i1 : (j : Int) - 1 = (i : Int) := by omega
            have i2 : IntKind.i64.wrap (i : Int) = (i : Int) := IntWalk.i64_in _ (by omega)
            have i3 : (0 : Int) ≤ (i : Int) := by omega
            have i4 : (i : Int) < (Ln : Int) := by omega
            obtain ⟨ta, ra, hta, hra⟩ := a
            obtain ⟨tp, rp, htp, hrp⟩ := p
            simp only at hy0 hy1 U hz0 hz1 hlt
            have g3 : decide ((ta : Int) ≤ (tp : Int)) = false := decide_eq_false (by omega)
            have g4 : decide (ta ≤ tp) = false := decide_eq_false (by omega)
            have BW := Lib.hid (And.intro hb (And.intro hy0 hz0))
            clear hund hq1 hq2 ha hrises hj0 hi hp hlt he hz1 hz0
            go_wp2_with fail
            refine U.out.mono ?_
            rintro e w4 ⟨aoX, capX, rfl, ox, b4⟩
            have RX := Lib.hid (Runs.own ox)
            have B4 := Lib.hid (bt hbel.out b4)
            have v0 : w4.cell? ⟨b, off + j * 2, none⟩ = some (.int .u32 (ta : Int)) := (b4.cell (p := ⟨b, off + j * 2, none⟩) BW.out.1).trans BW.out.2.1
            have v1 : w4.cell? ⟨b, off + i * 2, none⟩ = some (.int .u32 (tp : Int)) := (b4.cell (p := ⟨b, off + i * 2, none⟩) BW.out.1).trans BW.out.2.2
            clear ox b4 hy0 hy1
            go_wp2
            go_quiet (fail)
            go_wp2
            go_roundw
            case rel => exact ⟨j + 1, aoX, _, capX, q', by omega, by go_num, rfl, Lib.hid ⟨RX.out.keeps (below_draw (Below.refl _ _) _), HQ.out.1, HQ.out.2⟩, Lib.hid (below_draw B4.out _)⟩
            case measure => simp [intOf]; omega
        · have p1 : decide (j < Ln) = false := by simpa using hjn
          have hjj : I.take j = I := List.take_of_length_le (by have := HLn.out; omega)
          have hqp : q = l0 := by
            refine all_inj ((anyB_iff q).1 hq.out.2.1).chain HM.out.2.2.2.1 ?_
            rw [hq.out.2.2, hjj, HI.out]
          have hLn1 : 1 ≤ Ln := by
            have h1 := HM.out.2.1
            cases hl0 : l0 with
            | nil => rw [hl0] at h1; simp at h1
            | cons x l =>
              obtain ⟨m, hm⟩ := all_cons (p := l) (x := x) (by have := HM.out.2.2.2.1; rw [hl0] at this; exact this.head)
              rw [HLn.out, HI.out, hl0, hm]; simp
          obtain ⟨i, hi⟩ : ∃ i, Ln = i + 1 := ⟨Ln - 1, by omega⟩
          obtain ⟨b, off, hao, hb, hz0, hz1⟩ := (IL.out.keeps hbel.out).at i (by rw [← HLn.out]; omega)
          obtain ⟨p, hp⟩ : ∃ p, p = I.getD i zid := ⟨_, rfl⟩
          rw [← hp] at hz0 hz1
          have hsplit : all l0 = I.take i ++ [p] := by
            have h2 : I.take (i + 1) = I := List.take_of_length_le (by have := HLn.out; omega)
            rw [List.take_succ_eq_append_getElem (by rw [← HLn.out]; omega)] at h2
            rw [hp, ← HI.out]
            simp only [List.getD, List.getElem?_eq_getElem (show i < I.length by rw [← HLn.out]; omega), Option.getD_some]
            exact h2.symm
          have hlast := lastV_of HM.out.1 hsplit
          have SM : Hid (∀ W : World, Below wr.heap.size wr W → Calls Try.prog 23 #[.slice ao0 n0 cap0, .slice aoQ nq capQ] W fun e w' => e = .returned (.bool true) ∧ Below W.heap.size W w') := fun W hW => psame_is (by rw [hqp]; simp) _ _ _ ((RP.out.keeps hbel.out).keeps hW) (hq.out.1.keeps hW)
          have LA : Hid (∀ W : World, Below wr.heap.size wr W → Calls Try.prog 17 #[.slice ao0 n0 cap0] W fun e w' => e = .returned (.agg #[.int .u32 (p.t : Int), .int .u8 (p.r : Int)]) ∧ Below W.heap.size W w') := fun W hW => by
            have := pLast_any ((RP.out.keeps hbel.out).keeps hW)
            rwa [hlast] at this
          obtain ⟨tp, rp, htp, hrp⟩ := p
          simp only at hz0 hz1 LA
          subst hao
          have i1 : (Ln : Int) - 1 = (i : Int) := by omega
          have i2 : IntKind.i64.wrap (i : Int) = (i : Int) := IntWalk.i64_in _ (by omega)
          have i3 : (0 : Int) ≤ (i : Int) := by omega
          have i4 : (i : Int) < (Ln : Int) := by omega
          have e1 : ((Ln : Int) == (Ln : Int)) = true := by simp
          have XB := Lib.hid (And.intro hb (And.intro hz0 hz1))
          clear hjj hqp hi hp hsplit hlast hz0 hz1 hLn1
          go_wp2
          go_region_held3 (fun w' => Below wr.heap.size wr w' ∧ w'.cell? ⟨b, off + i * 2, none⟩ = some (.int .u32 (tp : Int)) ∧ w'.cell? ⟨b, off + i * 2 + 1, none⟩ = some (.int .u8 (rp : Int)))
            (first | exact keepB XB.out (drew1 _) | (go_split_ands; exact keepB XB.out (bt (by assumption) (drew1 _))) | (go_split_ands; exact keepB XB.out (bt (by assumption) (by assumption))))
            ((first | (go_at_call 23; go_split_ands; (with_reducible refine (SM.out _ ?hb).mono ?_); (case hb => first | assumption | exact Below.drew (by assumption)); rintro e y1 ⟨rfl, b1⟩) | (go_at_call 17; go_split_ands; (with_reducible refine (LA.out _ ?hb).mono ?_); (case hb => first | assumption | exact Below.drew (by assumption)); rintro e y2 ⟨rfl, b2⟩)))
          go_wp2
          go_ret
          go_split_ands
          exact ⟨rfl, bt (bt B2.out hbel.out) (by assumption)⟩
end Go.Proofs.Ytfhmleigceakjaa.Place
