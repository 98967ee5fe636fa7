/- StampTells answers true, and changes nothing that was there. Conditions: the slice's cells are stamps. -/
import Derived.Test.YtpoheimcbfbkdaaStampLaws
import Derived.Test.YtpoheimcbfbkdaaStampRefNext
import Derived.Deep.QuietTactic
import Derived.BigQuiet
namespace Go.Proofs.Ytpoheimcbfbkdaa.Stamp
open Go.RowKit Flo
attribute [local go_sem ↓] Go.wp_at_zero Go.wp_at_succ

set_option maxHeartbeats 4000000 in
theorem tells_walk (a b : Id) (r : Nat) (hr : r < 256) (ao : Option Addr) (cap : Nat) (l : List Id) (w : World) (hv : Ids w (.slice ao l.length cap) l) :
    Calls Try.prog 4 #[.agg #[.int .u32 (a.t : Int), .int .u8 (a.r : Int)], .agg #[.int .u32 (b.t : Int), .int .u8 (b.r : Int)], .int .u8 (r : Int), .slice ao l.length cap] w fun e w' => e = .returned (.bool true) ∧ Below w.heap.size w w' := by
  obtain ⟨t, s, ht, hs⟩ := a
  obtain ⟨u, q, hu, hq⟩ := b
  simp only
  obtain ⟨n, hn⟩ : ∃ n, n = l.length := ⟨_, rfl⟩
  have HV := Lib.hid hv
  have HN := Lib.hid hn
  rw [← hn]
  clear hv hn
  by_cases h1 : 2000 < n
  · have t1 : decide ((2000 : Int) < (n : Int)) = true := decide_eq_true (by omega)
    have t2 : decide (2000 < n) = true := decide_eq_true h1
    go_enter Try.func4, Try.ntmps4
    go_wp2
    go_ret
    exact ⟨rfl, ((Below.refl _ _).alloc (Nat.le_refl _) _).alloc (by simp) _⟩
  have t1 : decide ((2000 : Int) < (n : Int)) = false := decide_eq_false (by omega)
  have t2 : decide (2000 < n) = false := decide_eq_false h1
  -- the callees
  obtain ⟨ck, hck⟩ : ∃ x, x = chk t s := ⟨_, rfl⟩
  obtain ⟨lt, hlt⟩ : ∃ x, x = less t s u q := ⟨_, rfl⟩
  obtain ⟨x, y, c, hnx⟩ : ∃ x y c, next r l = (x, y, c) := ⟨_, _, _, rfl⟩
  have K1 : Hid (∀ W : World, Calls Try.prog 10 #[.agg #[.int .u32 (t : Int), .int .u8 (s : Int)]] W fun e w' => e = .returned (.int .i64 ck) ∧ Below W.heap.size W w') := by rw [hck]; exact check_any t s
  have K2 : Hid (∀ W : World, Calls Try.prog 12 #[.agg #[.int .u32 (t : Int), .int .u8 (s : Int)]] W fun e w' => e = .returned (.int .i64 ck) ∧ Below W.heap.size W w') := by rw [hck]; exact refCheck_any t s
  have K3 : Hid (∀ W : World, Calls Try.prog 13 #[.agg #[.int .u32 (t : Int), .int .u8 (s : Int)], .agg #[.int .u32 (u : Int), .int .u8 (q : Int)]] W fun e w' => e = .returned (.bool lt) ∧ Below W.heap.size W w') := by rw [hlt]; exact less_any t s u q ht hs hu hq
  have K4 : Hid (∀ W : World, Calls Try.prog 14 #[.agg #[.int .u32 (t : Int), .int .u8 (s : Int)], .agg #[.int .u32 (u : Int), .int .u8 (q : Int)]] W fun e w' => e = .returned (.bool lt) ∧ Below W.heap.size W w') := by rw [hlt]; exact refLess_any t s u q
  have K5 : Hid (∀ (W : World) (v : Value), Ids W v l → Calls Try.prog 7 #[.int .u8 (r : Int), v] W fun e w' => e = .returned (.tuple #[.agg #[.int .u32 (x : Int), .int .u8 (y : Int)], .int .i64 c]) ∧ Below W.heap.size W w') := fun W v h => by
    have := next_any hr h
    unfold nextv at this
    rwa [hnx] at this
  have K6 : Hid (∀ (W : World) (v : Value), Ids W v l → Calls Try.prog 11 #[.int .u8 (r : Int), v] W fun e w' => e = .returned (.tuple #[.agg #[.int .u32 (x : Int), .int .u8 (y : Int)], .int .i64 c]) ∧ Below W.heap.size W w') := fun W v h => by
    have := refNext_any (r := r) h
    unfold nextv at this
    rwa [hnx] at this
  clear hck hlt hnx ht hs hu hq hr
  have e1 : (ck == ck) = true := by simp
  have e2 : (lt == lt) = true := by simp
  have e3 : (c == c) = true := by simp
  have P0 : Hid (Pair ((w.alloc (.cells #[.int .u32 (t : Int), .int .u8 (s : Int)] 24)).alloc (.cells #[.int .u32 (u : Int), .int .u8 (q : Int)] 24)) w.heap.size (.int .u32 (t : Int)) (.int .u8 (s : Int))) := (pair_new _ _ _ _).alloc _
  have R0 : Hid (Pair ((w.alloc (.cells #[.int .u32 (t : Int), .int .u8 (s : Int)] 24)).alloc (.cells #[.int .u32 (u : Int), .int .u8 (q : Int)] 24)) (w.heap.size + 1) (.int .u32 (u : Int)) (.int .u8 (q : Int))) := by
    have := pair_new (w.alloc (.cells #[.int .u32 (t : Int), .int .u8 (s : Int)] 24)) (.int .u32 (u : Int)) (.int .u8 (q : Int)) 24
    show Pair _ _ _ _
    simpa using this
  have B0 : Hid (Below w.heap.size w ((w.alloc (.cells #[.int .u32 (t : Int), .int .u8 (s : Int)] 24)).alloc (.cells #[.int .u32 (u : Int), .int .u8 (q : Int)] 24))) := ((Below.refl _ _).alloc (Nat.le_refl _) _).alloc (by simp) _
  obtain ⟨w0, hw0⟩ : ∃ w0, w0 = (w.alloc (.cells #[.int .u32 (t : Int), .int .u8 (s : Int)] 24)).alloc (.cells #[.int .u32 (u : Int), .int .u8 (q : Int)] 24) := ⟨_, rfl⟩
  have hz0 : w0.heap.size = w.heap.size + 1 + 1 := by rw [hw0]; simp
  have O0 : Hid ((((w.alloc (.cells #[.int .u32 (t : Int), .int .u8 (s : Int)] 24)).alloc (.cells #[.int .u32 (u : Int), .int .u8 (q : Int)] 24)).alloc (.cells #[] 24)).ownsRow (w.heap.size + 1 + 1) 24 2 (.slice (some ⟨w.heap.size + 1 + 1, 0, none⟩) 0 0) 0 []) := by
    have := own_none w0 w0.heap.size (Nat.le_refl _) 24 2
    rw [hz0, hw0] at this
    exact this
  have V0 : Hid (Sees (((w.alloc (.cells #[.int .u32 (t : Int), .int .u8 (s : Int)] 24)).alloc (.cells #[.int .u32 (u : Int), .int .u8 (q : Int)] 24)).alloc (.cells #[] 24)) (.slice ao n cap) 2 n (ids l)) := by
    have := HV.out.keeps ((((Below.refl w.heap.size w).alloc (Nat.le_refl _) (.cells #[.int .u32 (t : Int), .int .u8 (s : Int)] 24)).alloc (by simp) (.cells #[.int .u32 (u : Int), .int .u8 (q : Int)] 24)).alloc (by simp; omega) (.cells #[] 24))
    unfold Ids at this
    rw [← HN.out] at this
    exact this
  clear hz0 hw0 w0
  go_enter Try.func4, Try.ntmps4
  go_wp2_with (at_builtin; refine wpList_append_sees rfl (.tmp 19) (.tmp 20) 29 24 rfl Try.underlying29 id_info rfl (by decide) (w.heap.size + 1 + 1) _ 0 _ rfl O0.out _ n _ rfl V0.out (ids_oneCell l) ?k1 ?k2 ?k3 ?_)
  case k1 => omega
  case k2 => omega
  case k3 => simp
  rintro v1 w1 o1 g1 b1
  obtain ⟨oo, oc, rfl⟩ : ∃ ao cap, v1 = .slice ao n cap := by
    obtain ⟨ao, cap, h⟩ := Sees.shape (Sees.own o1)
    exact ⟨ao, cap, by simpa using h⟩
  have hb1 : Below ((w.alloc (.cells #[.int .u32 (t : Int), .int .u8 (s : Int)] 24)).alloc (.cells #[.int .u32 (u : Int), .int .u8 (q : Int)] 24)).heap.size ((w.alloc (.cells #[.int .u32 (t : Int), .int .u8 (s : Int)] 24)).alloc (.cells #[.int .u32 (u : Int), .int .u8 (q : Int)] 24)) w1 := by
    have := ((Below.refl (w.heap.size + 1 + 1) ((w.alloc (.cells #[.int .u32 (t : Int), .int .u8 (s : Int)] 24)).alloc (.cells #[.int .u32 (u : Int), .int .u8 (q : Int)] 24))).alloc (by simp) (.cells #[] 24)).trans b1
    simpa using this
  have OW1 : Hid (Ids w1 (.slice oo n oc) l) := by
    have := Sees.own o1
    unfold Hid Ids
    rw [← HN.out]
    simpa using this
  have P1 := Lib.hid (P0.out.keeps hb1)
  have R1 := Lib.hid (R0.out.keeps hb1)
  have B1 := Lib.hid (B0.out.trans (hb1.mono B0.out.size))
  have V1 : Hid (Ids w1 (.slice ao n cap) l) := by
    have := HV.out.keeps B1.out
    rwa [← HN.out] at this
  clear o1 g1 b1 hb1 O0 V0 P0 R0 B0
  go_wp2_with fail
  refine (K5.out _ _ OW1.out).mono ?_
  rintro e w2 ⟨rfl, b2⟩
  have b2' := b2.alloc b2.size (.cells #[.int .u32 (x : Int), .int .u8 (y : Int)] 24)
  have X2 := Lib.hid (pair_new w2 (.int .u32 (x : Int)) (.int .u8 (y : Int)) 24)
  have P2 := Lib.hid (P1.out.keeps b2')
  have R2 := Lib.hid (R1.out.keeps b2')
  have B2 := Lib.hid (bt B1.out b2')
  have V2 := Lib.hid (V1.out.keeps b2')
  have OW2 := Lib.hid (OW1.out.keeps b2')
  clear P1 R1 B1 V1 OW1 b2 b2'
  go_wp2_with fail
  refine (K6.out _ _ V2.out).mono ?_
  rintro e w3 ⟨rfl, b3⟩
  have b3' := b3.alloc b3.size (.cells #[.int .u32 (x : Int), .int .u8 (y : Int)] 24)
  have Y3 := Lib.hid (pair_new w3 (.int .u32 (x : Int)) (.int .u8 (y : Int)) 24)
  have X3 := Lib.hid (X2.out.keeps b3')
  have P3 := Lib.hid (P2.out.keeps b3')
  have R3 := Lib.hid (R2.out.keeps b3')
  have B3 := Lib.hid (bt B2.out b3')
  have V3 := Lib.hid (V2.out.keeps b3')
  have OW3 := Lib.hid (OW2.out.keeps b3')
  clear X2 P2 R2 B2 V2 OW2 b3 b3'
  go_wp2
  go_region_held3 (fun w' => Below (w3.alloc (.cells #[.int .u32 (x : Int), .int .u8 (y : Int)] 24)).heap.size (w3.alloc (.cells #[.int .u32 (x : Int), .int .u8 (y : Int)] 24)) w' ∧ w'.cell? ⟨w.heap.size, 0, none⟩ = some (.int .u32 (t : Int)) ∧ w'.cell? ⟨w.heap.size, 1, none⟩ = some (.int .u8 (s : Int)) ∧ w'.cell? ⟨w.heap.size + 1, 0, none⟩ = some (.int .u32 (u : Int)) ∧ w'.cell? ⟨w.heap.size + 1, 1, none⟩ = some (.int .u8 (q : Int)) ∧ w'.cell? ⟨w2.heap.size, 0, none⟩ = some (.int .u32 (x : Int)) ∧ w'.cell? ⟨w2.heap.size, 1, none⟩ = some (.int .u8 (y : Int)) ∧ w'.cell? ⟨w3.heap.size, 0, none⟩ = some (.int .u32 (x : Int)) ∧ w'.cell? ⟨w3.heap.size, 1, none⟩ = some (.int .u8 (y : Int)))
    (first | exact keepP4 P3.out R3.out X3.out Y3.out (drew1 _) (Below.refl _ _) | (go_split_ands; exact keepP4 P3.out R3.out X3.out Y3.out (drew1 _) (by assumption)) | (go_split_ands; exact keepP4 P3.out R3.out X3.out Y3.out (by assumption) (by assumption)))
    ((first | (go_at_call 10; refine (K1.out _).mono ?_; rintro e w9 ⟨rfl, b9⟩) | (go_at_call 12; refine (K2.out _).mono ?_; rintro e w9 ⟨rfl, b9⟩) | (go_at_call 13; refine (K3.out _).mono ?_; rintro e w9 ⟨rfl, b9⟩) | (go_at_call 14; refine (K4.out _).mono ?_; rintro e w9 ⟨rfl, b9⟩)))
  go_wp2_with fail
  go_split_ands
  have hS : Below (w3.alloc (.cells #[.int .u32 (x : Int), .int .u8 (y : Int)] 24)).heap.size (w3.alloc (.cells #[.int .u32 (x : Int), .int .u8 (y : Int)] 24)) w9 := by assumption
  have OW4 := Lib.hid (OW3.out.keeps hS)
  have V4 := Lib.hid (V3.out.keeps hS)
  have B4 := Lib.hid (bt B3.out hS)
  clear hS OW3 V3 B3 X3 Y3 P3 R3
  go_loopw [14, 15] (fun one i wr => one = .bool true ∧ ∃ k : Nat, k ≤ n ∧ i = .int .i64 (k : Int) ∧ ∃ g, wr = w9.drewN g) (fun _ i _ => n - (intOf i).toNat)
  case atStart => exact ⟨rfl, 0, by omega, rfl, 0, rfl⟩
  case round =>
    obtain ⟨rfl, k, hk, rfl, g, rfl⟩ := hrel
    by_cases hkn : k < n
    · have q1 : decide (k < n) = true := by simpa using hkn
      obtain ⟨ba, oa, rfl, hba, ha0, ha1⟩ := OW4.out.at k (by rw [← HN.out]; exact hkn)
      obtain ⟨bb, ob, rfl, hbb, hb0, hb1⟩ := V4.out.at k (by rw [← HN.out]; exact hkn)
      obtain ⟨z, hz⟩ : ∃ z, z = l.getD k zid := ⟨_, rfl⟩
      rw [← hz] at ha0 ha1 hb0 hb1
      obtain ⟨zt, zr, _, _⟩ := z
      simp only at ha0 ha1 hb0 hb1
      have q2 : (0 : Int) ≤ (k : Int) := by omega
      have q3 : (k : Int) < (n : Int) := by omega
      clear hz
      go_wp2
      go_quiet (fail)
      go_wp2
      go_roundw
      case rel => exact ⟨rfl, k + 1, by omega, by go_num, _, rfl⟩
      case measure => simp [intOf]; omega
    · have q1 : decide (k < n) = false := by simpa using hkn
      go_wp2
      go_ret
      exact ⟨rfl, below_draw B4.out _⟩
end Go.Proofs.Ytpoheimcbfbkdaa.Stamp
