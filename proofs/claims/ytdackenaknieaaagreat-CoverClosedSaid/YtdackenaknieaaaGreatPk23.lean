/- octavo/clock: Count, Top, Ids: what each answers. Conditions: the slices' cells are replicas' spans. -/
import Derived.Test.YtdackenaknieaaaGreatPk13

namespace Go.Proofs.YtdackenaknieaaaGreat.Clocks
open Go.RowKit Go.Proofs.YtdackenaknieaaaGreat.Spans
attribute [local go_sem ↓] Go.wp_at_zero Go.wp_at_succ

set_option maxRecDepth 100000 in
set_option maxHeartbeats 2000000 in
theorem cCount_any {v : Value} {c : List Tm} {w : World} (hv : Tms w v c) :
    Calls Tryz.prog 14 #[v] w fun e w' => e = .returned (.int .i64 (countC c : Int)) ∧ Below w.heap.size w w' := by
  obtain ⟨ao, cap, rfl⟩ := hv.shape
  obtain ⟨n, hn⟩ : ∃ n, n = c.length := ⟨_, rfl⟩
  have hm : n ≤ 9223372036854775807 := by rw [hn]; exact Tms.max hv
  have M := Lib.hid (cCheck_any hv)
  have HV := Lib.hid hv
  have HN := Lib.hid hn
  unfold countC
  unfold chkC at M
  cases hb : mayC c
  · rw [hb, if_neg (by simp)] at M
    rw [if_neg (by simp)]
    clear hb hv hn
    go_enter Tryz.func14, Tryz.ntmps14
    go_wp2_with fail
    refine M.out.mono ?_
    rintro e w1 ⟨rfl, b1⟩
    go_wp2
    go_ret
    exact ⟨rfl, b1⟩
  rw [hb, if_pos rfl] at M
  rw [if_pos rfl]
  have HC := Lib.hid ((mayC_iff c).1 hb)
  obtain ⟨R, hR⟩ : ∃ R, R = manyC c := ⟨_, rfl⟩
  have HR := Lib.hid hR
  rw [← hR]
  rw [← hn] at M ⊢
  clear hb hv hn hR
  go_enter Tryz.func14, Tryz.ntmps14
  go_wp2_with fail
  refine M.out.mono ?_
  rintro e w1 ⟨rfl, b1⟩
  have B0 := Lib.hid b1
  clear b1
  go_wp2
  go_loopw [3, 11] (fun s i wr => ∃ k m : Nat, k ≤ n ∧ i = .int .i64 (k : Int) ∧ s = .int .i64 (m : Int) ∧ Hid (m = manyC (c.take k)) ∧ Hid (Below w.heap.size w wr)) (fun _ i _ => n - (intOf i).toNat)
  case atStart => exact ⟨0, 0, by omega, rfl, rfl, Lib.hid rfl, B0⟩
  case round =>
    clear B0
    obtain ⟨k, m, hk, rfl, rfl, hmany, hbel⟩ := hrel
    by_cases hkn : k < n
    · have q1 : decide (k < n) = true := by simpa using hkn
      have q2 : (0 : Int) ≤ (k : Int) := by omega
      have q3 : (k : Int) < (n : Int) := by omega
      have hkl : k < c.length := by rw [← HN.out]; exact hkn
      obtain ⟨b1, o1, u, rfl, hb1, ha0, ha1, -, hsp⟩ := (HV.out.keeps hbel.out).at k hkl
      have hok := up_all HC.out (c.getD k ztm) (tm_mem hkl)
      have hs := tm_take_snoc c k hkl
      have hms := manyC_snoc (c.take k) (c.getD k ztm)
      rw [← hs] at hms
      have hle := manyC_le (up_take HC.out (k + 1))
      obtain ⟨x, hx⟩ : ∃ x, x = c.getD k ztm := ⟨_, rfl⟩
      have hx' : c.getD k (0, []) = x := hx.symm
      rw [hx'] at ha0 hsp
      rw [← hx] at hok hms
      obtain ⟨wo, rfl⟩ : ∃ wo : World, wo = wr := ⟨_, rfl⟩
      have BA : Hid (∀ o : Obj, Below wo.heap.size wo (wo.alloc o)) := fun o => (Below.refl _ _).alloc (Nat.le_refl _) o
      have C : Hid (∀ o : Obj, Calls Tryz.prog 35 #[u] (wo.alloc o) fun e w' => e = .returned (.int .i64 (many x.2 : Int)) ∧ Below (wo.alloc o).heap.size (wo.alloc o) w') := fun o => by
        have h := pCount_any (hsp.keeps (BA.out o))
        unfold count at h
        rwa [if_pos hok.2.2.2] at h
      obtain ⟨so, sc, rfl⟩ := hsp.shape
      obtain ⟨d, hd⟩ : ∃ d, d = many x.2 := ⟨_, rfl⟩
      rw [← hd] at C hms
      have HM2 : Hid (m + d = manyC (c.take (k + 1))) := by show _ = _; rw [hms, hmany.out]
      have hb2 : m + d ≤ 8589934600 := by rw [HM2.out]; omega
      have e5 : IntKind.i64.wrap ((m : Int) + (d : Int)) = (m : Int) + (d : Int) := IntWalk.i64_in _ (by omega)
      obtain ⟨xr, xs⟩ := x
      simp only at ha0 ha1 C
      obtain ⟨sl, hsl⟩ : ∃ sl, sl = xs.length := ⟨_, rfl⟩
      rw [← hsl] at C ha1
      clear hx hx' hs hms hle hok hsp hd hsl
      go_wp2_with fail
      refine (C.out _).mono ?_
      rintro e w1 ⟨rfl, b1⟩
      have B1 := Lib.hid (bt (bt hbel.out (BA.out _)) b1)
      clear b1
      go_wp2
      go_roundw
      case rel => exact ⟨k + 1, m + d, by omega, by go_num, by go_num, HM2, B1⟩
      case measure => simp [intOf]; omega
    · have q1 : decide (k < n) = false := by simpa using hkn
      have hkk : c.take k = c := List.take_of_length_le (by have := HN.out; omega)
      have hf : m = R := by have := hmany.out; rw [hkk] at this; rw [HR.out]; exact this
      subst hf
      clear hkk
      go_wp2
      go_ret
      exact ⟨rfl, hbel.out⟩

end Go.Proofs.YtdackenaknieaaaGreat.Clocks
