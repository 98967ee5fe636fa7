/- num.Get answers the number that bytes begin with, as Num.get says; it changes nothing. Conditions: the slice's cells are the bytes. -/
import Derived.Test.YtmjdpmkkcakbdaaChecked
import Derived.WalkKit
import Derived.WalkSpells
import Derived.WalkLawsBesides
import Derived.ScopeJumps
import Derived.Lib.Hide
import Derived.BigQuiet
import Derived.Deep.QuietTactic
import Derived.Test.YtmjdpmkkcakbdaaFlo
import Derived.Test.YtmjdpmkkcakbdaaNumMath
namespace Go.Proofs.Ytmjdpmkkcakbdaa.Num
open Go.RowKit Flo

set_option maxHeartbeats 400000 in
theorem shortest_any (k : Nat) (c : Nat) (w : World) :
    Calls Try.prog 26 #[.int .i64 (k : Int), .int .u8 (c : Int)] w fun e w' => e = .returned (.bool (decide (k = 1) || decide (c ≠ 0))) ∧ w = w' := by
  by_cases h1 : k = 1
  · subst h1
    go_enter Try.func26, Try.ntmps26
    go_wp2
    go_ret
    simp
  · have hb : ((k : Int) == 1) = false := by simp; omega
    by_cases h2 : c = 0
    · subst h2
      go_enter Try.func26, Try.ntmps26
      go_wp2
      go_ret
      simp [h1]
    · have hb2 : ((c : Int) != 0) = true := by simp; omega
      go_enter Try.func26, Try.ntmps26
      go_wp2
      go_ret
      simp [h1, h2]

set_option maxHeartbeats 400000 in
theorem get_nil (ao : Option Addr) (cap : Nat) (w : World) :
    Calls Try.prog 23 #[.slice ao 0 cap] w fun e w' => e = .returned (ans (get [])) ∧ w = w' := by
  go_enter Try.func23, Try.ntmps23
  go_wp2
  refine wp_scope_jumps 0 (fun a' w' => False) (fun a' _ => 0) rfl ?_ ?_
  · go_wp2
    go_step3
    go_wp2
    simp only [Exit.jump]
    first | go_ret3 | (rw [Exit.noGoto_ret]; go_ret3)
    exact ⟨rfl, rfl⟩
  · rintro a' w' hh
    exact hh.elim

/-- Where the reading stands, at the label. -/
def At (b off : Nat) (cap : Nat) (xs : List UInt8) (w : World) (a' : Act) (w' : World) : Prop :=
  w' = w ∧ ∃ (k n u : Nat) (u1 u6 u7 u8 u9 u10 u11 u12 u13 u14 u15 u16 u17 u18 u19 u20 u21 u22 u23 u24 u25 u26 u27 u28 u29 u30 u31 u32 u33 u34 u35 u36 u37 u38 u39 u40 u41 u42 u43 u44 u45 u46 u47 u48 : Value),
    a' = { tmps := #[.slice (some ⟨b, off, none⟩) xs.length cap, u1, .int .i64 0, .int .i64 (k : Int), .int .i64 0, .complex .f64 (fl n) (fl u), u6, u7, u8, u9, u10, u11, u12, u13, u14, u15, u16, u17, u18, u19, u20, u21, u22, u23, u24, u25, u26, u27, u28, u29, u30, u31, u32, u33, u34, u35, u36, u37, u38, u39, u40, u41, u42, u43, u44, u45, u46, u47, u48], defers := [] } ∧
    k ≤ 6 ∧ k ≤ xs.length ∧ n < 128 ^ k ∧ u = 128 ^ k ∧ dec (6 - k) (xs.drop k) n u k = get xs

set_option maxHeartbeats 400000 in
theorem get_some (b off cap : Nat) (xs : List UInt8) (hpos : 0 < xs.length) (hlen : xs.length ≤ 9223372036854775807) (w : World)
    (hc : ∀ j, j < xs.length → w.cell? ⟨b, off + j, none⟩ = some (.int .u8 ((xs.getD j 0).toNat : Int))) :
    Calls Try.prog 23 #[.slice (some ⟨b, off, none⟩) xs.length cap] w fun e w' => e = .returned (ans (get xs)) ∧ w = w' := by
  go_enter Try.func23, Try.ntmps23
  go_wp2
  refine wp_scope_jumps 0 (At b off cap xs w) (fun a' _ => 6 - (intOf (a'.tmps.getD 3 undef)).toNat) rfl ?_ ?_
  · obtain ⟨c, hcd⟩ : ∃ c : Nat, c = (xs.getD 0 0).toNat := ⟨_, rfl⟩
    have hcell : w.cell? ⟨b, off, none⟩ = some (.int .u8 (c : Int)) := by rw [hcd]; exact hc 0 hpos
    have hc256 : c < 256 := by rw [hcd]; exact UInt8.toNat_lt _
    have hdrop : xs = UInt8.ofNat c :: xs.drop 1 := by
      have h := List.drop_eq_getElem_cons hpos
      rw [List.drop_zero] at h
      rw [hcd]
      simpa [List.getD, List.getElem?_eq_getElem hpos] using h
    have hcn : (UInt8.ofNat c).toNat = c := toNat_ofNat c hc256
    have HDrop : Hid (get xs = dec (5 + 1) (UInt8.ofNat c :: xs.drop 1) 0 1 0) := by
      have : get xs = get (UInt8.ofNat c :: xs.drop 1) := by rw [← hdrop]
      exact this
    have p53 : (2 : Nat) ^ 53 = 9007199254740992 := by decide
    have t1 : ((0 : Int) == (xs.length : Int)) = false := by simp; omega
    have f1 : floatOfInt .f64 ((c : Int) % 128) = fl (c % 128) := by
      rw [← ofInt_fl, Int.natCast_emod]; rfl
    have f2 : ∀ (t : TypeId) (w : World), (binOp .mul t (.float .f64 (fl (c % 128))) (.float .f64 4607182418800017408)).run Try.prog w = .ok (.float .f64 (fl (c % 128))) w := fun t w => by
      have h := mul_fl (c % 128) 1 (by omega) (by omega) (by omega)
      rw [Nat.mul_one, fl_1] at h
      exact run_float_arith w .mul t .f64 _ _ _ h
    have f3 : ∀ (t : TypeId) (w : World), (binOp .add t (.float .f64 0) (.float .f64 (fl (c % 128)))).run Try.prog w = .ok (.float .f64 (fl (c % 128))) w := fun t w => by
      have h := add_fl 0 (c % 128) (by omega) (by omega) (by omega)
      rw [Nat.zero_add, fl_0] at h
      exact run_float_arith w .add t .f64 _ _ _ h
    have f4 : ∀ (t : TypeId) (w : World), (binOp .mul t (.float .f64 4607182418800017408) (.float .f64 4638707616191610880)).run Try.prog w = .ok (.float .f64 (fl 128)) w := fun t w => by
      have h := mul_fl 1 128 (by omega) (by omega) (by omega)
      rw [Nat.one_mul, fl_1, fl_128] at h
      rw [fl_128]
      exact run_float_arith w .mul t .f64 _ _ _ h
    have f5 : ∀ (w : World), (convert 51 3 (.float .f64 (fl (c % 128)))).run Try.prog w = .ok (.int .i64 ((c % 128 : Nat) : Int)) w := fun w =>
      run_convert_float_int w _ _ .f64 .i64 _ _ (by rw [Try.underlying51]; rfl) Try.underlying3 (intVal_fl _ (by omega))
    have Hcn := Lib.hid hcn
    have Hlen := Lib.hid hpos
    clear hcn hcd hdrop p53 hc hlen
    by_cases hbig : 128 ≤ c
    · have t3 : decide (128 ≤ (c : Int)) = true := by simp; omega
      go_wp2
      go_step3
      go_wp2
      go_step3
      have e1 : dec (6 - 1) (xs.drop 1) (c % 128) 128 1 = get xs := by
        rw [HDrop.out, dec_on _ _ _ _ _ _ (by rw [Hcn.out]; omega), Hcn.out]
        simp
      have := Hlen.out
      exact ⟨rfl, rfl, 1, c % 128, 128, _, _, _, _, _, _, _, _, _, _, _, _, _, _, _, _, _, _, _, _, _, _, _, _, _, _, _, _, _, _, _, _, _, _, _, _, _, _, _, _, _, _, _, _, rfl, by omega, by omega, by omega, by omega, e1⟩
    · have t3 : decide (128 ≤ (c : Int)) = false := by simp; omega
      have t4 : decide (1099511627776 < (c : Int) % 128) = false := by simp; omega
      have hfin : get xs = (c % 128, 1, 0) := by
        rw [HDrop.out, dec_last _ _ _ _ _ _ (by rw [Hcn.out]; omega), Hcn.out, if_neg (by unfold most; omega)]
        simp
      have HF := Lib.hid hfin
      clear hfin HDrop
      go_wp2
      go_step3
      go_wp2
      simp only [Exit.jump]
      first | go_ret3 | (rw [Exit.noGoto_ret]; go_ret3)
      rw [HF.out]
      exact ⟨by simp [ans], rfl⟩
  · rintro a' w' ⟨rfl, k, n, u, u1, u6, u7, u8, u9, u10, u11, u12, u13, u14, u15, u16, u17, u18, u19, u20, u21, u22, u23, u24, u25, u26, u27, u28, u29, u30, u31, u32, u33, u34, u35, u36, u37, u38, u39, u40, u41, u42, u43, u44, u45, u46, u47, u48, rfl, hk6, hkl, hn, hu, hdec⟩
    have HU : Hid (u = 128 ^ k) := hu
    have HD : Hid (dec (6 - k) (xs.drop k) n u k = get xs) := hdec
    clear hu hdec
    by_cases hl : k = xs.length
    · have t1 : ((k : Int) == (xs.length : Int)) = true := by simp; omega
      have hfin : get xs = (0, 0, 8) := by
        rw [← HD.out, hl, List.drop_length, dec_end]
      have HF := Lib.hid hfin
      clear hl hc hfin
      go_wp2
      simp only [Exit.jump]
      go_ret3
      rw [HF.out]
      exact ⟨rfl, rfl⟩
    have t1 : ((k : Int) == (xs.length : Int)) = false := by simp; omega
    by_cases h6 : k = 6
    · have hfin : get xs = (0, 0, 8) := by
        rw [← HD.out, h6]; rfl
      have HF := Lib.hid hfin
      have t2 : ((k : Int) == 6) = true := by simp; omega
      clear hl hc hfin h6
      go_wp2
      simp only [Exit.jump]
      go_ret3
      rw [HF.out]
      exact ⟨rfl, rfl⟩
    have t2 : ((k : Int) == 6) = false := by simp; omega
    have hlt : k < xs.length := by omega
    obtain ⟨c, hcd⟩ : ∃ c : Nat, c = (xs.getD k 0).toNat := ⟨_, rfl⟩
    have hcell : w'.cell? ⟨b, off + k, none⟩ = some (.int .u8 (c : Int)) := by rw [hcd]; exact hc k hlt
    have hc256 : c < 256 := by rw [hcd]; exact UInt8.toNat_lt _
    have hdrop : xs.drop k = UInt8.ofNat c :: xs.drop (k + 1) := by
      rw [List.drop_eq_getElem_cons hlt, hcd]
      simp [List.getD, List.getElem?_eq_getElem hlt]
    have HD2 := HD.out
    rw [hdrop, show 6 - k = (6 - (k + 1)) + 1 by omega] at HD2
    have hcn : (UInt8.ofNat c).toNat = c := toNat_ofNat c hc256
    have hu0 := HU.out
    have hun : u ≤ 128 ^ 5 := by rw [hu0]; exact Nat.pow_le_pow_right (by omega) (by omega)
    have hu1 : 1 ≤ u := by rw [hu0]; exact Nat.one_le_pow _ _ (by omega)
    have hnu : n < u := by rw [hu0]; exact hn
    have hmu : c % 128 * u ≤ 127 * u := Nat.mul_le_mul_right _ (by omega)
    have p5 : (128 : Nat) ^ 5 = 34359738368 := by decide
    have p53 : (2 : Nat) ^ 53 = 9007199254740992 := by decide
    have f1 : floatOfInt .f64 ((c : Int) % 128) = fl (c % 128) := by
      rw [← ofInt_fl, Int.natCast_emod]; rfl
    have f2 : ∀ (t : TypeId) (w : World), (binOp .mul t (.float .f64 (fl (c % 128))) (.float .f64 (fl u))).run Try.prog w = .ok (.float .f64 (fl (c % 128 * u))) w := fun t w =>
      run_float_arith w .mul t .f64 _ _ _ (mul_fl _ _ (by omega) (by omega) (by omega))
    have f3 : ∀ (t : TypeId) (w : World), (binOp .add t (.float .f64 (fl n)) (.float .f64 (fl (c % 128 * u)))).run Try.prog w = .ok (.float .f64 (fl (n + c % 128 * u))) w := fun t w =>
      run_float_arith w .add t .f64 _ _ _ (add_fl _ _ (by omega) (by omega) (by omega))
    have f4 : ∀ (t : TypeId) (w : World), (binOp .mul t (.float .f64 (fl u)) (.float .f64 4638707616191610880)).run Try.prog w = .ok (.float .f64 (fl (u * 128))) w := fun t w => by
      rw [← fl_128]
      exact run_float_arith w .mul t .f64 _ _ _ (mul_fl _ _ (by omega) (by omega) (by omega))
    have f5 : ∀ (w : World), (convert 51 3 (.float .f64 (fl (n + c % 128 * u)))).run Try.prog w = .ok (.int .i64 ((n + c % 128 * u : Nat) : Int)) w := fun w =>
      run_convert_float_int w _ _ .f64 .i64 _ _ (by rw [Try.underlying51]; rfl) Try.underlying3 (intVal_fl _ (by omega))
    clear hdrop hu0 hc p5 p53 hmu
    have HDrop := Lib.hid HD2
    clear HD2 HD
    have Hcn := Lib.hid hcn
    have Hcd := Lib.hid hcd
    clear hcn hcd
    have hk100 : k + 1 ≤ 6 := by omega
    clear hl h6 hpos hlen
    by_cases hbig : 128 ≤ c
    · have t3 : decide (128 ≤ (c : Int)) = true := by simp; omega
      go_wp2
      go_step3
      have e1 : dec (6 - (k + 1)) (xs.drop (k + 1)) (n + c % 128 * u) (u * 128) (k + 1) = get xs := by
        have h := HDrop.out
        rw [dec_on _ _ _ _ _ _ (by rw [Hcn.out]; omega), Hcn.out] at h
        exact h
      have e2 : n + c % 128 * u < 128 ^ (k + 1) ∧ u * 128 = 128 ^ (k + 1) := by
        have h : c % 128 * u ≤ 127 * u := Nat.mul_le_mul_right _ (by omega)
        rw [Nat.pow_succ, ← HU.out]
        omega
      refine ⟨rfl, ⟨rfl, k + 1, n + c % 128 * u, u * 128, _, _, _, _, _, _, _, _, _, _, _, _, _, _, _, _, _, _, _, _, _, _, _, _, _, _, _, _, _, _, _, _, _, _, _, _, _, _, _, _, _, _, _, _, rfl, by omega, by omega, e2.1, e2.2, e1⟩, ?_⟩
      simp [intOf]
      omega
    · have t3 : decide (128 ≤ (c : Int)) = false := by simp; omega
      have hlast := HDrop.out
      rw [dec_last _ _ _ _ _ _ (by rw [Hcn.out]; omega), Hcn.out] at hlast
      have hz : (UInt8.ofNat c = 0) ↔ c = 0 := by
        constructor
        · intro h; have := Hcn.out; rw [h] at this; simpa using this.symm
        · rintro rfl; rfl
      have hmod : ((c : Int) % 128 * (u : Int)) = ((c % 128 * u : Nat) : Int) := by rw [Int.natCast_mul, Int.natCast_emod]; rfl
      by_cases hov : most < n + c % 128 * u
      · have t4 : decide (1099511627776 < (n : Int) + (c : Int) % 128 * (u : Int)) = true := by
          rw [hmod]; simp only [decide_eq_true_eq]; unfold most at hov; omega
        rw [if_pos (.inl hov)] at hlast
        have HF := Lib.hid hlast
        clear hlast hz hmod hov
        go_wp2
        simp only [Exit.jump]
        go_ret3
        rw [← HF.out]
        exact ⟨rfl, rfl⟩
      · have t4 : decide (1099511627776 < (n : Int) + (c : Int) % 128 * (u : Int)) = false := by
          rw [hmod]; simp only [decide_eq_false_iff_not]; unfold most at hov; omega
        by_cases hk0 : k = 0
        · have t5 : ((k : Int) + 1 == 1) = true := by simp; omega
          rw [if_neg (by rintro (h | h); exact hov h; exact h.1 hk0)] at hlast
          have HF := Lib.hid hlast
          clear hlast hz hmod hov hk0
          go_wp2
          simp only [Exit.jump]
          go_ret3
          rw [← HF.out]
          exact ⟨by simp [ans], rfl⟩
        · have t5 : ((k : Int) + 1 == 1) = false := by simp; omega
          by_cases hc0 : c = 0
          · have t6 : ((c : Int) != 0) = false := by simp; omega
            rw [if_pos (.inr ⟨hk0, hz.2 hc0⟩)] at hlast
            have HF := Lib.hid hlast
            clear hlast hz hmod hov hk0 hc0
            go_wp2
            simp only [Exit.jump]
            go_ret3
            rw [← HF.out]
            exact ⟨rfl, rfl⟩
          · have t6 : ((c : Int) != 0) = true := by simp; omega
            rw [if_neg (by rintro (h | h); exact hov h; exact hc0 (hz.1 h.2))] at hlast
            have HF := Lib.hid hlast
            clear hlast hz hmod hov hk0 hc0
            go_wp2
            simp only [Exit.jump]
            go_ret3
            rw [← HF.out]
            exact ⟨by simp [ans], rfl⟩

end Go.Proofs.Ytmjdpmkkcakbdaa.Num
