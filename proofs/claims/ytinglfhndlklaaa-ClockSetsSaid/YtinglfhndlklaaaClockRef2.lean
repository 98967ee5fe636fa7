/- octavoref08: Check, Spans, In, Has, Many, Count, Top: what each answers. Conditions: the slices' cells are replicas' spans. -/
import Derived.Test.YtinglfhndlklaaaClockRef1
namespace Go.Proofs.Ytinglfhndlklaaa.Clocks
open Go.RowKit Go.Proofs.Ytinglfhndlklaaa.Spans
attribute [local go_sem ↓] Go.wp_at_zero Go.wp_at_succ

theorem refCheckC_any {v : Value} {c : List Tm} {w : World} (hv : Tms w v c) :
    Calls Try.prog 31 #[v] w fun e w' => e = .returned (.int .i64 (chkC c)) ∧ Below w.heap.size w w' := by
  unfold chkC
  cases hb : mayC c
  all_goals
    have M := Lib.hid (refMayC_is hv hb)
    clear hb hv
    go_enter Try.func31, Try.ntmps31
    go_wp2_with fail
    refine M.out.mono ?_
    rintro e w1 ⟨rfl, b1⟩
    go_wp2
    go_ret
    exact ⟨rfl, b1⟩

/-- The first one of a replica, or none. -/
theorem spn_find (c : List Tm) (r : Nat) : (∃ k, k < c.length ∧ (∀ j, j < k → (c.getD j ztm).1 ≠ r) ∧ (c.getD k ztm).1 = r) ∨ ∀ j, j < c.length → (c.getD j ztm).1 ≠ r := by
  have go : ∀ n, n ≤ c.length → (∃ k, k < n ∧ (∀ j, j < k → (c.getD j ztm).1 ≠ r) ∧ (c.getD k ztm).1 = r) ∨ ∀ j, j < n → (c.getD j ztm).1 ≠ r := by
    intro n
    induction n with
    | zero => intro _; exact .inr (fun j hj => by omega)
    | succ n ih =>
      intro h
      rcases ih (by omega) with ⟨k, h1, h2, h3⟩ | h1
      · exact .inl ⟨k, by omega, h2, h3⟩
      · by_cases q : (c.getD n ztm).1 = r
        · exact .inl ⟨n, by omega, h1, q⟩
        · refine .inr (fun j hj => ?_)
          by_cases e : j = n
          · rw [e]; exact q
          · exact h1 j (by omega)
  exact go c.length (Nat.le_refl _)

set_option maxRecDepth 100000 in
set_option maxHeartbeats 1000000 in
theorem refSpans_at {v : Value} {c : List Tm} {w : World} (hv : Tms w v c) (r : Nat) :
    ∃ u, Sps w u (spn c r) ∧ ∀ W, Below w.heap.size w W → Calls Try.prog 74 #[v, .int .u8 (r : Int)] W fun e w' => e = .returned u ∧ w' = W := by
  obtain ⟨ao, cap, rfl⟩ := hv.shape
  rcases spn_find c r with ⟨K, hK, hmin, hr⟩ | hmiss
  · obtain ⟨b1, o1, u, rfl, hb1, ha0, ha1, _, hsp⟩ := hv.at K hK
    refine ⟨u, by rw [spn_hit hmin hK hr]; exact hsp, fun W hW => ?_⟩
    have hW1 := (hW.cell (p := ⟨b1, o1 + K * 2 + 1, none⟩) hb1).trans ha1
    obtain ⟨so, sc, rfl⟩ := hsp.shape
    have HV := Lib.hid (hv.keeps hW)
    obtain ⟨n, hn⟩ : ∃ n, n = c.length := ⟨_, rfl⟩
    have hm : n ≤ 9223372036854775807 := by rw [hn]; exact Tms.max hv
    have HN := Lib.hid hn
    have HMin := Lib.hid hmin
    have HR := Lib.hid hr
    obtain ⟨sl, hsl⟩ : ∃ sl, sl = (c.getD K (0, [])).2.length := ⟨_, rfl⟩
    rw [← hsl] at hW1 ⊢
    rw [← hn] at hK ⊢
    clear hv hn hW ha0 ha1 hsp hmin hr hsl
    go_enter Try.func74, Try.ntmps74
    go_wp2
    go_loop [5] (fun i => ∃ k : Nat, k ≤ n ∧ i = .int .i64 (k : Int) ∧ Hid (∀ j, j < k → (c.getD j ztm).1 ≠ r)) (fun i => n - (intOf i).toNat)
    case atStart => exact ⟨0, by omega, rfl, Lib.hid (fun j hj => by omega)⟩
    case round =>
      obtain ⟨k, hk, rfl, hno⟩ := hrel
      have hkK : k ≤ K := by
        by_cases q : k ≤ K
        · exact q
        · exact absurd HR.out (hno.out K (by omega))
      have hkn : k < n := by omega
      have q1 : decide (k < n) = true := by simpa using hkn
      have q2 : (0 : Int) ≤ (k : Int) := by omega
      have q3 : (k : Int) < (n : Int) := by omega
      obtain ⟨b2, o2, u2, he, -, hx0, -, -, -⟩ := HV.out.at k (by rw [← HN.out]; exact hkn)
      obtain ⟨rfl, rfl⟩ : b1 = b2 ∧ o1 = o2 := by simpa using he
      obtain ⟨x, hx⟩ : ∃ x, x = (c.getD k ztm).1 := ⟨_, rfl⟩
      have hx' : (c.getD k (0, [])).1 = x := hx.symm
      rw [hx'] at hx0
      by_cases e : x = r
      · obtain rfl : k = K := by
          by_cases q : k = K
          · exact q
          · exact absurd (hx.symm.trans e) (HMin.out k (by omega))
        subst e
        clear hx hx' he hkK
        have t1 : ((x : Int) == (x : Int)) = true := by simp
        go_wp2
        go_ret
        exact ⟨rfl, rfl⟩
      · have t1 : ((x : Int) == (r : Int)) = false := by rw [beq_eq_false_iff_ne]; omega
        have t2 : decide (x = r) = false := decide_eq_false e
        have HNo : Hid (∀ j, j < k + 1 → (c.getD j ztm).1 ≠ r) := fun j hj => by
          by_cases q : j = k
          · rw [q, ← hx]; exact e
          · exact hno.out j (by omega)
        clear hx hx' he hkK
        go_wp2
        go_round
        case rel => exact ⟨k + 1, by omega, by go_num, HNo⟩
        case measure => simp [intOf]; omega
  · refine ⟨.slice none 0 0, by rw [spn_miss hmiss]; exact Sps.nil w, fun W hW => ?_⟩
    have HV := Lib.hid (hv.keeps hW)
    obtain ⟨n, hn⟩ : ∃ n, n = c.length := ⟨_, rfl⟩
    have hm : n ≤ 9223372036854775807 := by rw [hn]; exact Tms.max hv
    have HN := Lib.hid hn
    have HMiss := Lib.hid hmiss
    rw [← hn]
    clear hv hn hW hmiss
    go_enter Try.func74, Try.ntmps74
    go_wp2
    go_loop [5] (fun i => ∃ k : Nat, k ≤ n ∧ i = .int .i64 (k : Int)) (fun i => n - (intOf i).toNat)
    case atStart => exact ⟨0, by omega, rfl⟩
    case round =>
      obtain ⟨k, hk, rfl⟩ := hrel
      by_cases hkn : k < n
      · have q1 : decide (k < n) = true := by simpa using hkn
        have q2 : (0 : Int) ≤ (k : Int) := by omega
        have q3 : (k : Int) < (n : Int) := by omega
        obtain ⟨b1, o1, u2, rfl, _, hx0, _, _, _⟩ := HV.out.at k (by rw [← HN.out]; exact hkn)
        have e := HMiss.out k (by rw [← HN.out]; exact hkn)
        obtain ⟨x, hx⟩ : ∃ x, x = (c.getD k ztm).1 := ⟨_, rfl⟩
        have hx' : (c.getD k (0, [])).1 = x := hx.symm
        rw [hx'] at hx0
        rw [← hx] at e
        have t1 : ((x : Int) == (r : Int)) = false := by rw [beq_eq_false_iff_ne]; omega
        have t2 : decide (x = r) = false := decide_eq_false e
        clear hx hx'
        go_wp2
        go_round
        case rel => exact ⟨k + 1, by omega, by go_num⟩
        case measure => simp [intOf]; omega
      · have q1 : decide (k < n) = false := by simpa using hkn
        go_wp2
        go_ret
        exact ⟨rfl, rfl⟩

set_option maxHeartbeats 1000000 in
theorem refInC_any {v : Value} {c : List Tm} (a : Id) {w : World} (hv : Tms w v c) :
    Calls Try.prog 61 #[v, .agg #[.int .u32 (a.t : Int), .int .u8 (a.r : Int)]] w fun e w' => e = .returned (.bool (inB (spn c a.r) a.t)) ∧ Below w.heap.size w w' := by
  obtain ⟨u, hu, hc⟩ := refSpans_at hv a.r
  obtain ⟨t, r, ht, hr⟩ := a
  simp only at hu hc ⊢
  obtain ⟨X, hX⟩ : ∃ X, X = w.alloc (.cells #[.int .u32 (t : Int), .int .u8 (r : Int)] 34) := ⟨_, rfl⟩
  have BX : Hid (Below w.heap.size w X) := by rw [hX]; exact (Below.refl _ _).alloc (Nat.le_refl _) _
  have CS : Hid (∀ n, Calls Try.prog 74 #[v, .int .u8 (r : Int)] (X.drewN n) fun e w' => e = .returned u ∧ w' = X.drewN n) := fun n => hc _ (below_draw BX.out n)
  have CI : Hid (∀ n, Calls Try.prog 80 #[u, .int .u32 (t : Int)] (X.drewN n) fun e w' => e = .returned (.bool (inB (spn c r) t)) ∧ w' = X.drewN n) := fun n =>
    (refIn_any t (hu.keeps (below_draw BX.out n))).mono fun _ _ ⟨h1, h2⟩ => ⟨h1, h2.symm⟩
  obtain ⟨q, hq⟩ : ∃ q, inB (spn c r) t = q := ⟨_, rfl⟩
  rw [hq] at CI ⊢
  obtain ⟨so, sc, rfl⟩ := hu.shape
  rw [hX] at CS CI BX
  clear hu hc hX hv hq
  go_enter Try.func61, Try.ntmps61
  go_wp2
  go_quiet (first | (go_at_call 74; exact Calls.quiet_of_same (CS.out _)) | (go_at_call 80; exact Calls.quiet_of_same (CI.out _)))
  go_wp2
  go_ret
  exact ⟨rfl, below_draw BX.out _⟩
set_option maxHeartbeats 1000000 in
theorem refHasC_any {v : Value} {c : List Tm} (a : Id) {w : World} (hv : Tms w v c) :
    Calls Try.prog 33 #[v, .agg #[.int .u32 (a.t : Int), .int .u8 (a.r : Int)]] w fun e w' => e = .returned (.bool (hasC c a)) ∧ Below w.heap.size w w' := by
  have BX := Lib.hid ((Below.refl w.heap.size w).alloc (Nat.le_refl _) (.cells #[.int .u32 (a.t : Int), .int .u8 (a.r : Int)] 34))
  have HV := Lib.hid (hv.keeps BX.out)
  have PX : Hid (((w.alloc (.cells #[.int .u32 (a.t : Int), .int .u8 (a.r : Int)] 34)).heap[w.heap.size]? = some (.cells #[.int .u32 (a.t : Int), .int .u8 (a.r : Int)] 34))) := heap_alloc_new w _
  unfold hasC
  cases hb : mayC c
  · have M := Lib.hid (refMayC_is HV.out hb)
    rw [Bool.false_and]
    clear hb hv
    go_enter Try.func33, Try.ntmps33
    go_wp2_with fail
    refine M.out.mono ?_
    rintro e w1 ⟨rfl, b1⟩
    have B1 := Lib.hid (bt BX.out b1)
    clear b1
    go_wp2
    go_ret
    exact ⟨rfl, B1.out⟩
  · have M := Lib.hid (refMayC_is HV.out hb)
    rw [Bool.true_and]
    obtain ⟨q, hq⟩ : ∃ q, inB (spn c a.r) a.t = q := ⟨_, rfl⟩
    have CI : Hid (∀ W : World, Tms W v c → Calls Try.prog 61 #[v, .agg #[.int .u32 (a.t : Int), .int .u8 (a.r : Int)]] W fun e w' => e = .returned (.bool q) ∧ Below W.heap.size W w') := fun W h => by
      rw [← hq]; exact refInC_any a h
    rw [hq]
    obtain ⟨t, r, _, _⟩ := a
    simp only at *
    clear hb hv hq
    go_enter Try.func33, Try.ntmps33
    go_wp2_with fail
    refine M.out.mono ?_
    rintro e w1 ⟨rfl, b1⟩
    have B1 := Lib.hid (bt BX.out b1)
    have T1 := Lib.hid (HV.out.keeps b1)
    have hc := (b1.block w.heap.size (by simp)).trans PX.out
    have c0 := cell_of_row _ w.heap.size 0 _ _ _ hc
    have c1 := cell_of_row _ w.heap.size 1 _ _ _ hc
    simp only [List.getElem?_toArray, List.getElem?_cons_zero, List.getElem?_cons_succ] at c0 c1
    clear b1 hc
    go_wp2_with fail
    refine (CI.out _ T1.out).mono ?_
    rintro e w2 ⟨rfl, b2⟩
    have B2 := Lib.hid (bt B1.out b2)
    clear b2
    go_wp2
    go_ret
    exact ⟨rfl, B2.out⟩
end Go.Proofs.Ytinglfhndlklaaa.Clocks
