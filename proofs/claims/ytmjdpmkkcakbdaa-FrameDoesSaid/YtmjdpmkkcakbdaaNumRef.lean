/- The document's own answers of layer 1: Bytes, Put and Get answer as Num.enc and Num.get say. Conditions: none. -/
import Derived.Test.YtmjdpmkkcakbdaaNumPut
namespace Go.Proofs.Ytmjdpmkkcakbdaa.Num
open Go.RowKit

set_option maxHeartbeats 400000 in
theorem refBytes_any (n : Nat) (h : n ≤ most) (w : World) :
    Calls Try.prog 24 #[.int .i64 (n : Int)] w fun e w' => ∃ v, e = .returned v ∧ w'.ownsRow w.heap.size 5 1 v (enc n).length (bs (enc n)) ∧ Below w.heap.size w w' := by
  have hn : (n : Int) ≤ 1099511627776 := by unfold most at h; omega
  have h0 := Nat.lt_of_le_of_lt h most_lt
  obtain ⟨i0, hi, hz0, hz1, hz2⟩ := info_parts info_u8
  obtain ⟨B, hB⟩ : ∃ B, B = w.heap.size := ⟨_, rfl⟩
  rw [← hB]
  have HB := Lib.hid hB
  clear hB h
  go_enter Try.func24, Try.ntmps24
  go_wp2
  go_loopw [0, 3] (fun m v wr => ∃ (f k : Nat) (acc : List UInt8), m = .int .i64 (k : Int) ∧ k ≤ 1099511627776 ∧ k < 128 ^ (f + 1) ∧ f ≤ 5 ∧ acc.length + f ≤ 5 ∧ acc ++ encF f k = enc n ∧ wr.ownsRow B 5 1 v acc.length (bs acc) ∧ Below B w wr) (fun m _ _ => (intOf m).toNat)
  case atStart => exact ⟨5, n, [], rfl, by omega, h0, by omega, by simp, rfl, World.ownsRow_nil _ _ _ _, Below.refl _ _⟩
  case round =>
    obtain ⟨f, k, acc, rfl, hk, hkf, hf5, hacc, henc, hown, hbel⟩ := hrel
    have HE := Lib.hid henc
    clear henc
    by_cases hbig : 128 ≤ k
    · have t3 : decide ((128 : Int) ≤ (k : Int)) = true := by simp; omega
      go_wp2_with (at_builtin; refine wpList_append_own _ rfl _ _ 23 rfl B 5 i0 (.int .u8 0) 1 1 Try.underlying23 hi hz0 hz1 hz2 rfl (by decide) _ _ _ rfl (hown.alloc _) ⟨wr.heap.size, 0, none⟩ 1 1 [.int .u8 ((k : Int) % 128 + 128)] rfl rfl ?c1 ?c2 ?c3 ?c4 ?c5 ?_)
      case c1 =>
        intro j u hj
        match j, hj with
        | 0, hj => simp at hj; subst hj; simp [Addr.add]
      case c2 => intro u hu; simp at hu; subst hu; rfl
      case c3 => unfold maxLen; omega
      case c4 => omega
      case c5 => have := hbel.size; have := HB.out; simp; omega
      intro v' w1 hown' hgrow _
      obtain ⟨g, rfl, hk2⟩ := step_lt k f hkf hbig
      have e1 : acc ++ [UInt8.ofNat (k % 128 + 128)] ++ encF g (k / 128) = enc n := by
        rw [← HE.out, encF_big g k (by omega), List.append_assoc]; rfl
      have e2 : bs (acc ++ [UInt8.ofNat (k % 128 + 128)]) = bs acc ++ [.int .u8 ((k : Int) % 128 + 128)] := by
        rw [bs_append, bs_one _ (by omega)]
        rfl
      have e3 : Below B w w1 := (hbel.alloc (by have := hbel.size; have := HB.out; omega) _).grown hgrow (by have := hbel.size; have := HB.out; simp; omega) (fun j hj => (hown.lt j hj).1)
      have E1 := Lib.hid e1
      have E2 := Lib.hid e2
      clear e1 e2 hown hgrow hbel HE
      go_wp2
      go_roundw
      case rel => exact ⟨g, k / 128, acc ++ [UInt8.ofNat (k % 128 + 128)], by go_num, by omega, hk2, by omega, by simp; omega, E1.out, by rw [E2.out]; simpa using hown', e3⟩
      case measure => simp [intOf]; omega
    · have t3 : decide ((128 : Int) ≤ (k : Int)) = false := by simp; omega
      go_wp2_with (at_builtin; refine wpList_append_own _ rfl _ _ 23 rfl B 5 i0 (.int .u8 0) 1 1 Try.underlying23 hi hz0 hz1 hz2 rfl (by decide) _ _ _ rfl (hown.alloc _) ⟨wr.heap.size, 0, none⟩ 1 1 [.int .u8 (k : Int)] rfl rfl ?d1 ?d2 ?d3 ?d4 ?d5 ?_)
      case d1 =>
        intro j u hj
        match j, hj with
        | 0, hj => simp at hj; subst hj; simp [Addr.add]
      case d2 => intro u hu; simp at hu; subst hu; rfl
      case d3 => unfold maxLen; omega
      case d4 => omega
      case d5 => have := hbel.size; have := HB.out; simp; omega
      intro v' w1 hown' hgrow _
      have e1 : enc n = acc ++ [UInt8.ofNat k] := by
        rw [← HE.out, encF_small f k (by omega)]
      have e2 : bs (acc ++ [UInt8.ofNat k]) = bs acc ++ [.int .u8 (k : Int)] := by
        rw [bs_append, bs_one _ (by omega)]
      have e3 : Below B w w1 := (hbel.alloc (by have := hbel.size; have := HB.out; omega) _).grown hgrow (by have := hbel.size; have := HB.out; simp; omega) (fun j hj => (hown.lt j hj).1)
      have E1 := Lib.hid e1
      have E2 := Lib.hid e2
      clear e1 e2 hown hgrow hbel HE
      go_wp2
      go_ret
      exact ⟨_, rfl, by rw [E1.out, E2.out]; simpa using hown', e3⟩



set_option maxHeartbeats 400000 in
theorem refGet_nil (ao : Option Addr) (cap : Nat) (w : World) :
    Calls Try.prog 20 #[.slice ao 0 cap] w fun e w' => e = .returned (ans (get [])) ∧ w = w' := by
  go_enter Try.func20, Try.ntmps20
  go_wp2
  refine wp_loop_rounds 1 ?_
  rw [rounds_succ]
  go_wp2
  go_ret3
  exact ⟨rfl, rfl⟩

set_option maxHeartbeats 400000 in
theorem refGet_some (b off cap : Nat) (xs : List UInt8) (hpos : 0 < xs.length) (hlen : xs.length ≤ 9223372036854775807) (w : World)
    (hc : ∀ j, j < xs.length → w.cell? ⟨b, off + j, none⟩ = some (.int .u8 ((xs.getD j 0).toNat : Int))) :
    Calls Try.prog 20 #[.slice (some ⟨b, off, none⟩) xs.length cap] w fun e w' => e = .returned (ans (get xs)) ∧ w = w' := by
  go_enter Try.func20, Try.ntmps20
  go_wp2
  go_loop [5, 6, 7] (fun vn vu vk => ∃ (k n u : Nat), vn = .int .i64 (n : Int) ∧ vu = .int .i64 (u : Int) ∧ vk = .int .i64 (k : Int) ∧ k ≤ 6 ∧ k ≤ xs.length ∧ n < 128 ^ k ∧ u = 128 ^ k ∧ dec (6 - k) (xs.drop k) n u k = get xs) (fun _ _ vk => 6 - (intOf vk).toNat)
  case atStart => exact ⟨0, 0, 1, rfl, rfl, rfl, by omega, by omega, by decide, rfl, rfl⟩
  case round =>
    obtain ⟨k, n, u, rfl, rfl, rfl, hk6, hkl, hn, hu, hdec⟩ := hrel
    have HU : Hid (u = 128 ^ k) := hu
    have HD : Hid (dec (6 - k) (xs.drop k) n u k = get xs) := hdec
    clear hu hdec
    by_cases hl : k = xs.length
    · have t1 : decide (k < xs.length) = false := by simp; omega
      have hfin : get xs = (0, 0, 8) := by
        rw [← HD.out, hl, List.drop_length, dec_end]
      have HF := Lib.hid hfin
      clear hl hc hfin
      go_wp2
      go_ret3
      rw [HF.out]
      exact ⟨rfl, rfl⟩
    have t1 : decide (k < xs.length) = true := by simp; omega
    by_cases h6 : k = 6
    · have hfin : get xs = (0, 0, 8) := by
        rw [← HD.out, h6]; rfl
      have HF := Lib.hid hfin
      have t2 : decide ((k : Int) < 6) = false := by simp; omega
      clear hl hc hfin h6
      go_wp2
      go_ret3
      rw [HF.out]
      exact ⟨rfl, rfl⟩
    have t2 : decide ((k : Int) < 6) = true := by simp; omega
    have hlt : k < xs.length := by omega
    obtain ⟨c, hcd⟩ : ∃ c : Nat, c = (xs.getD k 0).toNat := ⟨_, rfl⟩
    have hcell : w.cell? ⟨b, off + k, none⟩ = some (.int .u8 (c : Int)) := by rw [hcd]; exact hc k hlt
    have hc256 : c < 256 := by rw [hcd]; exact UInt8.toNat_lt _
    have hdrop : xs.drop k = UInt8.ofNat c :: xs.drop (k + 1) := by
      rw [List.drop_eq_getElem_cons hlt, hcd]
      simp [List.getD, List.getElem?_eq_getElem hlt]
    have HD2 := HD.out
    rw [hdrop, show 6 - k = (6 - (k + 1)) + 1 by omega] at HD2
    have hcn : (UInt8.ofNat c).toNat = c := toNat_ofNat c hc256
    have hu0 := HU.out
    have hun : u ≤ 34359738368 := by
      have : u ≤ 128 ^ 5 := by rw [hu0]; exact Nat.pow_le_pow_right (by omega) (by omega)
      exact this
    have hnu : n < u := by rw [hu0]; exact hn
    have hmu : c % 128 * u ≤ 127 * u := Nat.mul_le_mul_right _ (by omega)
    have hmi : ((c : Int) % 128 * (u : Int)) = ((c % 128 * u : Nat) : Int) := by rw [Int.natCast_mul, Int.natCast_emod]; rfl
    have hm0 : 0 ≤ ((c : Int) % 128 * (u : Int)) := by omega
    have hm1 : ((c : Int) % 128 * (u : Int)) ≤ 4363686772736 := by omega
    have hk100 : k + 1 ≤ 6 := by omega
    have HMI := Lib.hid hmi
    have HDrop := Lib.hid HD2
    have Hcn := Lib.hid hcn
    clear hdrop hu0 hc hmu hmi HD2 HD hcn hcd hl h6 hpos hlen
    by_cases hbig : 128 ≤ c
    · have t3 : decide ((c : Int) < 128) = false := by simp; omega
      have e1 : dec (6 - (k + 1)) (xs.drop (k + 1)) (n + c % 128 * u) (u * 128) (k + 1) = get xs := by
        have h := HDrop.out
        rw [dec_on _ _ _ _ _ _ (by rw [Hcn.out]; omega), Hcn.out] at h
        exact h
      have e2 : n + c % 128 * u < 128 ^ (k + 1) ∧ u * 128 = 128 ^ (k + 1) := by
        have h : c % 128 * u ≤ 127 * u := Nat.mul_le_mul_right _ (by omega)
        rw [Nat.pow_succ, ← HU.out]
        omega
      have E1 := Lib.hid e1
      have E2 := Lib.hid e2
      have e4 : Value.int .i64 ((n : Int) + (c : Int) % 128 * (u : Int)) = .int .i64 ((n + c % 128 * u : Nat) : Int) := by
        rw [HMI.out]; simp
      have e5 : Value.int .i64 ((u : Int) * 128) = .int .i64 ((u * 128 : Nat) : Int) := by simp
      have E4 := Lib.hid e4
      have E5 := Lib.hid e5
      clear e1 e2 e4 e5
      go_wp2
      go_round
      case rel => exact ⟨k + 1, n + c % 128 * u, u * 128, E4.out, E5.out, by go_num, by omega, by omega, E2.out.1, E2.out.2, E1.out⟩
      case measure => simp [intOf]; omega
    · have t3 : decide ((c : Int) < 128) = true := by simp; omega
      have hlast := HDrop.out
      rw [dec_last _ _ _ _ _ _ (by rw [Hcn.out]; omega), Hcn.out] at hlast
      have hz : (UInt8.ofNat c = 0) ↔ c = 0 := by
        constructor
        · intro h; have := Hcn.out; rw [h] at this; simpa using this.symm
        · rintro rfl; rfl
      by_cases hov : most < n + c % 128 * u
      · have t4 : decide (1099511627776 < (n : Int) + (c : Int) % 128 * (u : Int)) = true := by
          rw [HMI.out]; simp only [decide_eq_true_eq]; unfold most at hov; omega
        rw [if_pos (.inl hov)] at hlast
        have HF := Lib.hid hlast
        clear hlast hz hov
        go_wp2
        go_ret3
        rw [← HF.out]
        exact ⟨rfl, rfl⟩
      · have t4 : decide (1099511627776 < (n : Int) + (c : Int) % 128 * (u : Int)) = false := by
          rw [HMI.out]; simp only [decide_eq_false_iff_not]; unfold most at hov; omega
        have e4 : ans (n + c % 128 * u, k + 1, 0) = .tuple #[.int .i64 ((n : Int) + (c : Int) % 128 * (u : Int)), .int .i64 ((k : Int) + 1), .int .i64 0] := by
          rw [HMI.out]; simp [ans]
        have E4 := Lib.hid e4
        clear e4
        by_cases hk0 : k = 0
        · have t5 : decide (0 < k) = false := decide_eq_false (by omega)
          rw [if_neg (by rintro (h | h); exact hov h; exact h.1 hk0)] at hlast
          have HF := Lib.hid hlast
          clear hlast hz hov hk0
          go_wp2
          go_ret3
          rw [← HF.out, E4.out]
          exact ⟨rfl, rfl⟩
        · have t5 : decide (0 < k) = true := decide_eq_true (by omega)
          by_cases hc0 : c = 0
          · have t6 : ((c : Int) == 0) = true := by simp; omega
            rw [if_pos (.inr ⟨hk0, hz.2 hc0⟩)] at hlast
            have HF := Lib.hid hlast
            clear hlast hz hov hk0 hc0
            go_wp2
            go_ret3
            rw [← HF.out]
            exact ⟨rfl, rfl⟩
          · have t6 : ((c : Int) == 0) = false := by simp; omega
            rw [if_neg (by rintro (h | h); exact hov h; exact hc0 (hz.1 h.2))] at hlast
            have HF := Lib.hid hlast
            clear hlast hz hov hk0 hc0
            go_wp2
            go_ret3
            rw [← HF.out, E4.out]
            exact ⟨rfl, rfl⟩

end Go.Proofs.Ytmjdpmkkcakbdaa.Num
