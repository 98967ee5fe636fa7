/- octavo/clock: Count, Top, Ids: what each answers. Conditions: the slices' cells are replicas' spans. -/
import Derived.Test.YtinglfhndlklaaaClockCode1
namespace Go.Proofs.Ytinglfhndlklaaa.Clocks
open Go.RowKit Go.Proofs.Ytinglfhndlklaaa.Spans
attribute [local go_sem ↓] Go.wp_at_zero Go.wp_at_succ

set_option maxRecDepth 100000 in
set_option maxHeartbeats 2000000 in
theorem cCount_any {v : Value} {c : List Tm} {w : World} (hv : Tms w v c) :
    Calls Try.prog 19 #[v] w fun e w' => e = .returned (.int .i64 (countC c : Int)) ∧ Below w.heap.size w w' := by
  obtain ⟨ao, cap, rfl⟩ := hv.shape
  obtain ⟨n, hn⟩ : ∃ n, n = c.length := ⟨_, rfl⟩
  have hm : n ≤ 9223372036854775807 := by rw [hn]; exact Tms.max hv
  have M := Lib.hid (cCheck_any hv)
  have HV := Lib.hid hv
  have HN := Lib.hid hn
  unfold countC
  unfold chkC at M
  cases hb : mayC c
  · rw [hb, if_neg (by simp)] at M
    rw [if_neg (by simp)]
    clear hb hv hn
    go_enter Try.func19, Try.ntmps19
    go_wp2_with fail
    refine M.out.mono ?_
    rintro e w1 ⟨rfl, b1⟩
    go_wp2
    go_ret
    exact ⟨rfl, b1⟩
  rw [hb, if_pos rfl] at M
  rw [if_pos rfl]
  have HC := Lib.hid ((mayC_iff c).1 hb)
  obtain ⟨R, hR⟩ : ∃ R, R = manyC c := ⟨_, rfl⟩
  have HR := Lib.hid hR
  rw [← hR]
  rw [← hn] at M ⊢
  clear hb hv hn hR
  go_enter Try.func19, Try.ntmps19
  go_wp2_with fail
  refine M.out.mono ?_
  rintro e w1 ⟨rfl, b1⟩
  have B0 := Lib.hid b1
  clear b1
  go_wp2
  go_loopw [3, 11] (fun s i wr => ∃ k m : Nat, k ≤ n ∧ i = .int .i64 (k : Int) ∧ s = .int .i64 (m : Int) ∧ Hid (m = manyC (c.take k)) ∧ Hid (Below w.heap.size w wr)) (fun _ i _ => n - (intOf i).toNat)
  case atStart => exact ⟨0, 0, by omega, rfl, rfl, Lib.hid rfl, B0⟩
  case round =>
    clear B0
    obtain ⟨k, m, hk, rfl, rfl, hmany, hbel⟩ := hrel
    by_cases hkn : k < n
    · have q1 : decide (k < n) = true := by simpa using hkn
      have q2 : (0 : Int) ≤ (k : Int) := by omega
      have q3 : (k : Int) < (n : Int) := by omega
      have hkl : k < c.length := by rw [← HN.out]; exact hkn
      obtain ⟨b1, o1, u, rfl, hb1, ha0, ha1, -, hsp⟩ := (HV.out.keeps hbel.out).at k hkl
      have hok := up_all HC.out (c.getD k ztm) (tm_mem hkl)
      have hs := tm_take_snoc c k hkl
      have hms := manyC_snoc (c.take k) (c.getD k ztm)
      rw [← hs] at hms
      have hle := manyC_le (up_take HC.out (k + 1))
      obtain ⟨x, hx⟩ : ∃ x, x = c.getD k ztm := ⟨_, rfl⟩
      have hx' : c.getD k (0, []) = x := hx.symm
      rw [hx'] at ha0 hsp
      rw [← hx] at hok hms
      obtain ⟨wo, rfl⟩ : ∃ wo : World, wo = wr := ⟨_, rfl⟩
      have BA : Hid (∀ o : Obj, Below wo.heap.size wo (wo.alloc o)) := fun o => (Below.refl _ _).alloc (Nat.le_refl _) o
      have C : Hid (∀ o : Obj, Calls Try.prog 45 #[u] (wo.alloc o) fun e w' => e = .returned (.int .i64 (many x.2 : Int)) ∧ Below (wo.alloc o).heap.size (wo.alloc o) w') := fun o => by
        have h := pCount_any (hsp.keeps (BA.out o))
        unfold count at h
        rwa [if_pos hok.2.2.2] at h
      obtain ⟨so, sc, rfl⟩ := hsp.shape
      obtain ⟨d, hd⟩ : ∃ d, d = many x.2 := ⟨_, rfl⟩
      rw [← hd] at C hms
      have HM2 : Hid (m + d = manyC (c.take (k + 1))) := by show _ = _; rw [hms, hmany.out]
      have hb2 : m + d ≤ 8589934600 := by rw [HM2.out]; omega
      have e5 : IntKind.i64.wrap ((m : Int) + (d : Int)) = (m : Int) + (d : Int) := IntWalk.i64_in _ (by omega)
      obtain ⟨xr, xs⟩ := x
      simp only at ha0 ha1 C
      obtain ⟨sl, hsl⟩ : ∃ sl, sl = xs.length := ⟨_, rfl⟩
      rw [← hsl] at C ha1
      clear hx hx' hs hms hle hok hsp hd hsl
      go_wp2_with fail
      refine (C.out _).mono ?_
      rintro e w1 ⟨rfl, b1⟩
      have B1 := Lib.hid (bt (bt hbel.out (BA.out _)) b1)
      clear b1
      go_wp2
      go_roundw
      case rel => exact ⟨k + 1, m + d, by omega, by go_num, by go_num, HM2, B1⟩
      case measure => simp [intOf]; omega
    · have q1 : decide (k < n) = false := by simpa using hkn
      have hkk : c.take k = c := List.take_of_length_le (by have := HN.out; omega)
      have hf : m = R := by have := hmany.out; rw [hkk] at this; rw [HR.out]; exact this
      subst hf
      clear hkk
      go_wp2
      go_ret
      exact ⟨rfl, hbel.out⟩

theorem top_last {l : List Sp} (h : Fine l) (hne : l ≠ []) : top l = (l.getD (l.length - 1) zsp).t := by
  have hpos : 0 < l.length := List.length_pos_iff.2 hne
  have h1 : ∀ m : List Sp, (∀ a ∈ m, a.t ≤ (l.getD (l.length - 1) zsp).t) → top m ≤ (l.getD (l.length - 1) zsp).t := by
    intro m
    induction m with
    | nil => intro _; simp [top]
    | cons x m ih =>
      intro hm
      have := hm x (by simp)
      have := ih (fun a ha => hm a (by simp [ha]))
      unfold top
      omega
  have h2 := h1 l (fine_most h)
  have h3 : ∀ m : List Sp, ∀ a ∈ m, a.t ≤ top m := by
    intro m
    induction m with
    | nil => intro a ha; simp at ha
    | cons x m ih =>
      intro a ha
      rcases List.mem_cons.1 ha with rfl | ha
      · unfold top; omega
      · have := ih a ha; unfold top; omega
  have h4 := h3 l (l.getD (l.length - 1) zsp) (by rw [List.getD, List.getElem?_eq_getElem (by omega)]; exact List.getElem_mem _)
  omega
set_option maxRecDepth 100000 in
set_option maxHeartbeats 2000000 in
theorem cTop_any {v : Value} {c : List Tm} {w : World} (hv : Tms w v c) :
    Calls Try.prog 18 #[v] w fun e w' => e = .returned (.int .u32 (topCC c : Int)) ∧ Below w.heap.size w w' := by
  obtain ⟨ao, cap, rfl⟩ := hv.shape
  obtain ⟨n, hn⟩ : ∃ n, n = c.length := ⟨_, rfl⟩
  have hm : n ≤ 9223372036854775807 := by rw [hn]; exact Tms.max hv
  have M := Lib.hid (cCheck_any hv)
  have HV := Lib.hid hv
  have HN := Lib.hid hn
  unfold topCC
  unfold chkC at M
  cases hb : mayC c
  · rw [hb, if_neg (by simp)] at M
    rw [if_neg (by simp)]
    clear hb hv hn
    go_enter Try.func18, Try.ntmps18
    go_wp2_with fail
    refine M.out.mono ?_
    rintro e w1 ⟨rfl, b1⟩
    go_wp2
    go_ret
    exact ⟨rfl, b1⟩
  rw [hb, if_pos rfl] at M
  rw [if_pos rfl]
  have HC := Lib.hid ((mayC_iff c).1 hb)
  obtain ⟨R, hR⟩ : ∃ R, R = topC c := ⟨_, rfl⟩
  have HR := Lib.hid hR
  rw [← hR]
  rw [← hn] at M ⊢
  clear hb hv hn hR
  go_enter Try.func18, Try.ntmps18
  go_wp2_with fail
  refine M.out.mono ?_
  rintro e w1 ⟨rfl, b1⟩
  have B0 := Lib.hid b1
  clear b1
  go_wp2
  go_loopw [3, 11] (fun s i wr => ∃ k m : Nat, k ≤ n ∧ i = .int .i64 (k : Int) ∧ s = .int .u32 (m : Int) ∧ Hid (m = topC (c.take k)) ∧ Hid (Below w.heap.size w wr)) (fun _ i _ => n - (intOf i).toNat)
  case atStart => exact ⟨0, 0, by omega, rfl, rfl, Lib.hid rfl, B0⟩
  case round =>
    clear B0
    obtain ⟨k, m, hk, rfl, rfl, hmt, hbel⟩ := hrel
    by_cases hkn : k < n
    · have q1 : decide (k < n) = true := by simpa using hkn
      have q2 : (0 : Int) ≤ (k : Int) := by omega
      have q3 : (k : Int) < (n : Int) := by omega
      have hkl : k < c.length := by rw [← HN.out]; exact hkn
      obtain ⟨b1, o1, u, rfl, hb1, ha0, ha1, -, hsp⟩ := (HV.out.keeps hbel.out).at k hkl
      have hok := up_all HC.out (c.getD k ztm) (tm_mem hkl)
      have hs := tm_take_snoc c k hkl
      have hts := topC_snoc (c.take k) (c.getD k ztm)
      rw [← hs] at hts
      obtain ⟨x, hx⟩ : ∃ x, x = c.getD k ztm := ⟨_, rfl⟩
      have hx' : c.getD k (0, []) = x := hx.symm
      rw [hx'] at ha0 hsp
      rw [← hx] at hok hts
      obtain ⟨xr, xs⟩ := x
      simp only at ha0 ha1 hsp hts hok
      have hfin := ((mayB_iff _).1 hok.2.2.2).1
      have hsl := ((mayB_iff _).1 hok.2.2.2).2
      have hpos : 0 < xs.length := List.length_pos_iff.2 hok.2.2.1
      obtain ⟨j, hj⟩ : ∃ j, j = xs.length - 1 := ⟨_, rfl⟩
      rw [top_last hfin hok.2.2.1, ← hj] at hts
      obtain ⟨wo, rfl⟩ : ∃ wo : World, wo = wr := ⟨_, rfl⟩
      have BA : Hid (∀ o : Obj, Below wo.heap.size wo (wo.alloc o)) := fun o => (Below.refl _ _).alloc (Nat.le_refl _) o
      obtain ⟨so, sc, rfl⟩ := hsp.shape
      obtain ⟨b2, o2, rfl, hb2, -, hc1⟩ := hsp.at j (by omega)
      obtain ⟨z, hz⟩ : ∃ z, z = (xs.getD j zsp).t := ⟨_, rfl⟩
      rw [← hz] at hc1 hts
      obtain ⟨sl, hsl'⟩ : ∃ sl, sl = xs.length := ⟨_, rfl⟩
      rw [← hsl'] at hsl hpos hj ha1
      have HC1 : Hid (∀ o : Obj, (wo.alloc o).cell? ⟨b2, o2 + j * 2 + 1, none⟩ = some (.int .u32 (z : Int))) := fun o => ((BA.out o).cell (p := ⟨b2, o2 + j * 2 + 1, none⟩) hb2).trans hc1
      have i1 : (sl : Int) - 1 = (j : Int) := by omega
      have i2 : IntKind.i64.wrap (j : Int) = (j : Int) := IntWalk.i64_in _ (by omega)
      have i3 : (0 : Int) ≤ (j : Int) := by omega
      have i4 : (j : Int) < (sl : Int) := by omega
      have HM2 : Hid (max m z = topC (c.take (k + 1))) := by show _ = _; rw [hts, hmt.out]
      have hc1 := HC1.out (.cells #[.int .u8 (xr : Int), .slice (some ⟨b2, o2, none⟩) sl sc] 28)
      have BX : Hid (∀ o : Obj, Below w.heap.size w (wo.alloc o)) := fun o => hbel.out.alloc hbel.out.size o
      clear hx hx' hs hts hok hsp hz hfin hsl' hj HC1 BA
      have hcase : (z < m ∧ max m z = m) ∨ (m = z ∧ max m z = m) ∨ (m < z ∧ max m z = z) := by omega
      rcases hcase with ⟨g1, g2⟩ | ⟨g1, g2⟩ | ⟨g1, g2⟩
      · rw [g2] at HM2
        have g3 : ¬ m < z := by omega
        have g4 : ¬ m ≤ z := by omega
        clear g2
        go_wp2
        go_roundw
        case rel => exact ⟨k + 1, m, by omega, by go_num, by go_num, HM2, BX.out _⟩
        case measure => simp [intOf]; omega
      · rw [g2] at HM2
        subst g1
        clear g2
        go_wp2
        go_roundw
        case rel => exact ⟨k + 1, m, by omega, by go_num, by go_num, HM2, BX.out _⟩
        case measure => simp [intOf]; omega
      · rw [g2] at HM2
        have g3 : ¬ z < m := by omega
        have g4 : ¬ z ≤ m := by omega
        clear g2
        go_wp2
        go_roundw
        case rel => exact ⟨k + 1, z, by omega, by go_num, by go_num, HM2, BX.out _⟩
        case measure => simp [intOf]; omega
    · have q1 : decide (k < n) = false := by simpa using hkn
      have hkk : c.take k = c := List.take_of_length_le (by have := HN.out; omega)
      have hf : m = R := by have := hmt.out; rw [hkk] at this; rw [HR.out]; exact this
      subst hf
      clear hkk
      go_wp2
      go_ret
      exact ⟨rfl, hbel.out⟩
end Go.Proofs.Ytinglfhndlklaaa.Clocks
