/- CodeBack answers true, and changes nothing that was there. Conditions: none. -/
import Derived.BigQuiet
import Derived.Deep.QuietTactic
import Derived.Test.YtelilmhnfmojkaaPk17
import Derived.Test.YtelilmhnfmojkaaPk14

namespace Go.Proofs.Ytelilmhnfmojkaa.Codes
open Go.RowKit Go.WideShapes Num Go.Proofs.Ytelilmhnfmojkaa.Place Ops
attribute [local go_sem ↓] Go.wp_at_zero Go.wp_at_succ

theorem isList_self {l : List Opn} (h1 : l.length ≤ 1024) (hm : allM l = true) (t : List UInt8) : IsList (listB l ++ t) l := ⟨h1, (allM_iff l).1 hm, t, rfl⟩
theorem ansL_cases (xs : List UInt8) : ansL xs = ([], 0, 8) ∨ ∃ L, ansL xs = (L, (listB L).length, 0) ∧ allC L = 0 ∧ allB L = listB L ∧ (listB L).length ≤ xs.length ∧ xs.take (listB L).length = listB L := by
  by_cases h : ∃ L, IsList xs L
  · obtain ⟨L, h⟩ := h
    refine .inr ⟨L, ansL_yes h, ?_⟩
    obtain ⟨h1, h2, t, h3⟩ := h
    have hm := (allM_iff L).2 h2
    have hn : ¬ 1024 < L.length := by omega
    refine ⟨by unfold allC; rw [if_neg hn, if_pos hm], by unfold allB; rw [if_neg hn, if_pos hm], by rw [h3, List.length_append]; omega, ?_⟩
    conv => lhs; rw [h3]
    rw [List.take_left]
  · exact .inl (ansL_no (fun L hL => h ⟨L, hL⟩))
theorem allC_cases (l : List Opn) : (allC l = 0 ∧ allB l = listB l ∧ allM l = true ∧ l.length ≤ 1024) ∨ ((allC l == 0) = false) := by
  unfold allC allB
  by_cases h : 1024 < l.length
  · right; rw [if_pos h]; rfl
  · rw [if_neg h, if_neg h]
    cases hm : allM l
    · right; rfl
    · left; exact ⟨rfl, rfl, rfl, by omega⟩

set_option maxRecDepth 100000 in
set_option maxHeartbeats 16000000 in
theorem back_walk {l : List Opn} {ao0 : Option Addr} {cap0 : Nat} {ao1 : Option Addr} {cap1 : Nat} {xs : List UInt8} {w : World} (hr0 : OpL w (.slice ao0 l.length cap0) l) (hr1 : Reads w (.slice ao1 xs.length cap1) xs) :
    Calls Try.prog 6 #[.slice ao0 l.length cap0, .slice ao1 xs.length cap1] w fun e w' => e = .returned (.bool true) ∧ Below w.heap.size w w' := by
  have HR0 := Lib.hid hr0
  have HR1 := Lib.hid hr1
  obtain ⟨n0, hn0⟩ : ∃ n, n = l.length := ⟨_, rfl⟩
  obtain ⟨n1, hn1⟩ : ∃ n, n = xs.length := ⟨_, rfl⟩
  have HN0 := Lib.hid hn0
  have HN1 := Lib.hid hn1
  have hcap1 : n1 ≤ cap1 := by have := (Reads.cap hr1).2.1; omega
  obtain ⟨C, hC⟩ : ∃ c, allC l = c := ⟨_, rfl⟩
  obtain ⟨P, hP⟩ : ∃ c, allB l = c := ⟨_, rfl⟩
  have HC := Lib.hid hC
  have HP := Lib.hid hP
  have AV := Lib.hid alive10_any
  have GR : Hid (∀ W : World, OpL W (.slice ao0 l.length cap0) l → Calls Try.prog 18 #[.slice ao0 l.length cap0, .int .i64 60] W fun e w' => GrtO l 60 e ∧ W = w') := fun W h => greatO_any h
  have CA : Hid (∀ (W : World) (v : Value), OpL W v l → Calls Try.prog 8 #[v] W (Put2 C P W)) := fun W v h => by rw [← hC, ← hP]; exact cAll_any h
  have CG : Hid (∀ (W : World) (v : Value) (L : List Opn), OpL W v L → Calls Try.prog 8 #[v] W (Put2 (allC L) (allB L) W)) := fun W v L h => cAll_any h
  have CR : Hid (∀ (W : World) (v : Value) (ys : List UInt8), Reads W v ys → ys.length ≤ 1000000 → Calls Try.prog 9 #[v] W (ReadOut (ansL ys).1 (ansL ys).2.1 (ansL ys).2.2 W)) := fun W v ys h hl => by
    obtain ⟨ao, cap, rfl⟩ := h.shape
    exact cRead_any rfl hl h
  have SL : Hid (∀ (W : World) (u v : Value) (m : List Opn), OpL W u m → OpL W v m → Calls Try.prog 22 #[u, v] W fun e w' => e = .returned (.bool true) ∧ Below W.heap.size W w') := fun W u v m h h2 => by
    have := sameL_any h h2
    rwa [decide_eq_true rfl] at this
  have hge : ∀ {m : Int} {e : Ending}, GrtO l m e → ∃ g, e = .returned (.bool g) ∧ Hid (g = false → (n0 : Int) ≤ m) := fun ⟨g, h1, h2⟩ => ⟨g, h1, fun h => by have := (h2 h).1; omega⟩
  rw [← hn0] at GR HR0 ⊢
  rw [← hn1] at HR1 ⊢
  clear hr0 hr1 hn0 hn1 hC hP
  have B0 : Hid (Below w.heap.size w w) := Below.refl _ _
  go_enter Try.func6, Try.ntmps6
  go_wp2_with fail
  refine (AV.out _).mono ?_
  rintro e w1 ⟨rfl, b1⟩
  have B1 := Lib.hid b1
  have R0 := Lib.hid (HR0.out.keeps b1)
  have R1 := Lib.hid (HR1.out.keeps b1)
  clear b1 HR0 HR1 B0
  go_upto_region 2 with fail
  go_cut [27] (fun t wx => w1 = wx ∧ Tst t (n0 ≤ 60 ∧ n1 ≤ 10000))
  case first =>
    go_wp2_with fail
    refine (GR.out _ R0.out).mono ?_
    rintro e w2 ⟨hg, rfl⟩
    obtain ⟨g, rfl, hgg⟩ := hge hg
    clear hg
    obtain ⟨q2, hq2⟩ : ∃ q, decide (10000 < n1) = q := ⟨_, rfl⟩
    have hq2' : decide ((10000 : Int) < (n1 : Int)) = q2 := by rw [← hq2]; exact decide_eq_decide.2 (by omega)
    have HA : Hid (g = false → q2 = false → n0 ≤ 60 ∧ n1 ≤ 10000) := fun h1 h2 => by
      rw [h2] at hq2
      have := of_decide_eq_false hq2
      have := hgg.out h1
      omega
    clear GR hge
    cases g
    · cases q2
      · have HB := Lib.hid (HA.out rfl rfl)
        go_wp2
        all_goals go_meet
        all_goals exact ⟨rfl, tst _ (fun _ => HB.out)⟩
      · go_wp2
        all_goals go_meet
        all_goals exact ⟨rfl, tst _ (fun h => by cases h)⟩
    · go_wp2
      all_goals go_meet
      all_goals exact ⟨rfl, tst _ (fun h => by cases h)⟩
  case rest =>
    obtain ⟨rfl, q, rfl, hq⟩ := hcut
    cases q
    rotate_left
    · go_wp2
      go_ret
      exact ⟨rfl, B1.out⟩
    obtain ⟨h60, h10⟩ := hq rfl
    clear GR hge
    go_wp2_with fail
    refine (CA.out _ _ R0.out).mono ?_
    rintro e w2 ⟨vx, rfl, o2, b2⟩
    have B_1 := Lib.hid (bt B1.out b2)
    clear B1
    have R0_2 := Lib.hid (R0.out.keeps b2)
    clear R0
    have R1_3 := Lib.hid (R1.out.keeps b2)
    clear R1
    obtain ⟨aoX, capX, rfl⟩ := own_shape o2
    have RX2 := Lib.hid (Reads.own o2)
    obtain ⟨pl, hpl⟩ : ∃ n, n = P.length := ⟨_, rfl⟩
    have HPL := Lib.hid hpl
    rw [← hpl] at RX2 ⊢
    clear hpl o2 b2
    go_upto_if 35 with fail
    go_cut [] (fun wx => Below w2.heap.size w2 wx)
    case first =>
      rcases allC_cases l with ⟨c0, c1, c2, c3⟩ | c0
      rotate_left
      · rw [HC.out] at c0
        go_wp2_with fail
        go_meet
        exact Below.refl _ _
      rw [HC.out] at c0
      rw [HP.out] at c1
      have t5 : (C == 0) = true := by rw [c0]; rfl
      have PLEN : Hid (P.length ≤ 80000) := by
        unfold Hid
        rw [c1, listB_nums, List.length_append]
        have e1 := nums_len [l.length]
        have e2 := bytesL_len ((allM_iff l).1 c2)
        have := HN0.out
        simp only [List.length_cons, List.length_nil] at e1
        omega
      have RD2 : Hid (∀ (W : World) (v : Value), Reads W v (P ++ xs) → (P ++ xs).length ≤ 1000000 → Calls Try.prog 9 #[v] W (ReadOut l pl 0 W)) := fun W v h hl => by
        have := CR.out W v _ h hl
        have e := ansL_yes (isList_self c3 c2 xs)
        rw [← c1] at e
        rw [e, ← HPL.out] at this
        exact this
      clear c0 c1 c2 c3
      have bo := (Below.refl w2.heap.size w2).alloc (Nat.le_refl _) (.cells #[] 5)
      have BC0 := Lib.hid (Below.refl w2.heap.size w2)
      have pl1 := PLEN.out
      rw [← HPL.out] at pl1
      have own0 := own_new w2 w2.heap.size (Nat.le_refl _)
      have RXa := Lib.hid (RX2.out.keeps bo)
      have BO := Lib.hid bo
      clear bo
      go_wp2_with (at_builtin; refine wpList_append_bytes rfl (.tmp 37) (.tmp 38) rfl w2.heap.size _ [] rfl own0 _ P rfl RXa.out ?k1 ?k2 ?_)
      case k1 => rw [← HPL.out]; simp; omega
      case k2 => simp
      rintro v3 w3 own3 b3
      have OW3 : Hid (w3.ownsRow w2.heap.size 5 1 v3 P.length (bs P)) := own3
      clear own3
      have b3' := BO.out.trans b3
      have RBa := Lib.hid (R1_3.out.keeps b3')
      have BO3 := Lib.hid b3'
      go_wp2_with (at_builtin; refine wpList_append_bytes rfl (.tmp 39) (.tmp 40) rfl w2.heap.size _ P rfl OW3.out _ xs rfl RBa.out ?k1 ?k2 ?_)
      case k1 => have hx9 := HN1.out; rw [← HPL.out]; omega
      case k2 => exact BO3.out.size
      rintro v4 w4 own4 b4
      have b4' := BO3.out.trans b4
      have R4 : Hid (Reads w4 v4 (P ++ xs)) := Reads.own (by rw [List.length_append]; exact own4)
      have B_4 := Lib.hid (bt B_1.out b4')
      clear B_1
      have R0_5 := Lib.hid (R0_2.out.keeps b4')
      clear R0_2
      have R1_6 := Lib.hid (R1_3.out.keeps b4')
      clear R1_3
      have RX_7 := Lib.hid (RX2.out.keeps b4')
      clear RX2
      have BC_8 := Lib.hid (bt BC0.out b4')
      clear BC0
      clear own0 OW3 own4 b3 b3' b4 b4' RXa RBa BO BO3
      go_wp2_with fail
      refine (RD2.out _ _ R4.out (by rw [List.length_append, ← HPL.out, ← HN1.out]; omega)).mono ?_
      rintro e w5 ⟨vl, rfl, o5, b5⟩
      have B_9 := Lib.hid (bt B_4.out b5)
      clear B_4
      have R0_10 := Lib.hid (R0_5.out.keeps b5)
      clear R0_5
      have R1_11 := Lib.hid (R1_6.out.keeps b5)
      clear R1_6
      have RX_12 := Lib.hid (RX_7.out.keeps b5)
      clear RX_7
      have BC_13 := Lib.hid (bt BC_8.out b5)
      clear BC_8
      have RL_14 := Lib.hid (o5.opl)
      clear o5 b5 R4
      go_wp2_with fail
      refine (SL.out _ _ _ _ RL_14.out R0_10.out).mono ?_
      rintro e w7 ⟨rfl, b7⟩
      have B_15 := Lib.hid (bt B_9.out b7)
      clear B_9
      have R0_16 := Lib.hid (R0_10.out.keeps b7)
      clear R0_10
      have R1_17 := Lib.hid (R1_11.out.keeps b7)
      clear R1_11
      have RX_18 := Lib.hid (RX_12.out.keeps b7)
      clear RX_12
      have BC_19 := Lib.hid (bt BC_13.out b7)
      clear BC_13
      have RL_20 := Lib.hid (RL_14.out.keeps b7)
      clear RL_14
      clear b7
      go_wp2_with fail
      go_meet
      exact BC_19.out
    case rest =>
      have hcut2 := Lib.hid hcut
      have B_901 := Lib.hid (bt B_1.out hcut2.out)
      clear B_1
      have R0_902 := Lib.hid (R0_2.out.keeps hcut2.out)
      clear R0_2
      have R1_903 := Lib.hid (R1_3.out.keeps hcut2.out)
      clear R1_3
      clear hcut hcut2 RX2 HC HP CA
      have GX := Lib.hid (CR.out wc _ xs (R1_903.out) (by rw [← HN1.out]; omega))
      rcases ansL_cases xs with hno | ⟨L, hya, hL0, hL1, hle, htk⟩
      · rw [hno] at GX
        clear hno
        go_wp2_with fail
        refine GX.out.mono ?_
        rintro e w9 ⟨v9, rfl, o9, b9⟩
        obtain ⟨ao9, cap9, rfl⟩ : ∃ ao cap, v9 = .slice ao 0 cap := o9.opl.shape
        have B9 := Lib.hid (bt B_901.out b9)
        clear o9 b9
        go_wp2
        go_ret
        exact ⟨rfl, B9.out⟩
      · rw [hya] at GX
        have PA : Hid (∀ (W : World) (v : Value), OpL W v L → Calls Try.prog 8 #[v] W (Put2 0 (listB L) W)) := fun W v h => by
          have := CG.out W v L h
          rw [hL0, hL1] at this
          exact this
        obtain ⟨E, hE⟩ : ∃ E, listB L = E := ⟨_, rfl⟩
        rw [hE] at GX PA hle htk
        obtain ⟨el, hel⟩ : ∃ n, n = E.length := ⟨_, rfl⟩
        rw [← hel] at GX hle htk
        rw [← HN1.out] at hle
        have HTK := Lib.hid htk
        have v1 : decide (el ≤ n1) = true := decide_eq_true hle
        have v2 : decide ((el : Int) ≤ (n1 : Int)) = true := decide_eq_true (by omega)
        have hec : el ≤ cap1 := by omega
        clear hE hel hya htk hL0 hL1
        go_wp2_with fail
        refine GX.out.mono ?_
        rintro e w9 ⟨v9, rfl, o9, b9⟩
        have R9 := Lib.hid o9.opl
        have B10 := Lib.hid (bt B_901.out b9)
        have RB10 := Lib.hid (R1_903.out.keeps b9)
        clear o9 b9
        go_wp2_with fail
        refine (PA.out _ _ R9.out).mono ?_
        rintro e w11 ⟨vy, rfl, o11, b11⟩
        have B11 := Lib.hid (bt B10.out b11)
        have RY : Reads w11 vy E := Reads.own o11
        have RB11 := RB10.out.keeps b11
        have RT : Reads w11 (.slice ao1 el cap1) E := by
          have h := RB11
          rw [HN1.out] at h
          have h2 := h.take (k := el) (by rw [← HN1.out]; exact hle)
          rwa [HTK.out] at h2
        have s3 : ∀ nq, (convert 22 9 vy).run Try.prog (w11.drewN nq) = .ok (.string (str E)) (w11.drewN nq) := fun nq => run_string (w := w11.drewN nq) RY
        have s4 : ∀ nq, (convert 22 9 (.slice ao1 el cap1)).run Try.prog (w11.drewN nq) = .ok (.string (str E)) (w11.drewN nq) := fun nq => run_string (w := w11.drewN nq) RT
        clear o11 b11 RY RB11 RT
        go_wp2
        go_quiet (fail)
        go_wp2
        go_ret
        exact ⟨rfl, below_draw B11.out _⟩
end Go.Proofs.Ytelilmhnfmojkaa.Codes
