/- octavoref04.first and Points: what they answer. Conditions: a text takes at most 2 to the 30 bytes. -/
import Derived.Test.YtpkhgjdpgbkchaaPointRef2
import Derived.Deep.RegionWith
import Derived.Deep.DeepCutAuto
namespace Go.Proofs.Ytpkhgjdpgbkchaa.Point
open Go.RowKit Go.WideShapes

def szOf (b : Nat) : Nat := if 240 ≤ b then 4 else if 224 ≤ b then 3 else if 192 ≤ b then 2 else 1
def n0Of (b : Nat) : Nat := if 240 ≤ b then b - 240 else if 224 ≤ b then b - 224 else if 192 ≤ b then b - 192 else b
/-- What is reckoned behind so many more bytes. -/
def acc (l : List UInt8) : Nat → Nat
  | 0 => n0Of (l.getD 0 0).toNat
  | j + 1 => 64 * acc l j + (l.getD (j + 1) 0).toNat % 64
theorem acc_le (l : List UInt8) (j : Nat) : acc l j + 1 ≤ 256 * 64 ^ j := by
  induction j with
  | zero =>
    have := u8lt (l.getD 0 0)
    show n0Of _ + 1 ≤ _
    unfold n0Of
    split
    · omega
    · split
      · omega
      · split <;> omega
  | succ j ih =>
    show 64 * acc l j + (l.getD (j + 1) 0).toNat % 64 + 1 ≤ 256 * (64 ^ j * 64)
    omega
theorem acc_bd (l : List UInt8) (j : Nat) (h : j ≤ 3) : acc l j ≤ 67108863 := by
  have h1 := acc_le l j
  have h2 : 64 ^ j ≤ 64 ^ 3 := Nat.pow_le_pow_right (by omega) h
  omega
theorem szOf_bd (b : Nat) : 1 ≤ szOf b ∧ szOf b ≤ 4 := by
  unfold szOf
  split
  · omega
  · split
    · omega
    · split <;> omega

theorem acc_enc (k : Nat) (h : IsPt (k : Int)) (r : List UInt8) : szOf ((enc (k : Int) ++ r).getD 0 0).toNat = (enc (k : Int)).length ∧ acc (enc (k : Int) ++ r) ((enc (k : Int)).length - 1) = k := by
  have h2 := h.2.1
  rcases enc_form k h with ⟨g1, e⟩ | ⟨g1, g2, e⟩ | ⟨g1, g2, e⟩ | ⟨g1, g2, e⟩
  · have e1 : k.toUInt8.toNat = k := by simp; omega
    rw [e]
    simp only [List.cons_append, List.nil_append, List.getD_cons_zero, List.length_cons, List.length_nil, e1, acc, szOf, n0Of, Nat.zero_add, Nat.sub_self]
    rw [if_neg (by omega), if_neg (by omega), if_neg (by omega), if_neg (by omega), if_neg (by omega), if_neg (by omega)]
    exact ⟨rfl, rfl⟩
  · have e1 : (192 + k / 64).toUInt8.toNat = 192 + k / 64 := by simp; omega
    have e2 : (128 + k % 64).toUInt8.toNat = 128 + k % 64 := by simp; omega
    rw [e]
    simp only [List.cons_append, List.nil_append, List.getD_cons_zero, List.getD_cons_succ, List.length_cons, List.length_nil, e1, e2, acc, szOf, n0Of, Nat.zero_add, Nat.add_sub_cancel]
    rw [if_neg (by omega), if_neg (by omega), if_pos (by omega), if_neg (by omega), if_neg (by omega), if_pos (by omega)]
    exact ⟨rfl, by omega⟩
  · have e1 : (224 + k / 4096).toUInt8.toNat = 224 + k / 4096 := by simp; omega
    have e2 : (128 + k / 64 % 64).toUInt8.toNat = 128 + k / 64 % 64 := by simp; omega
    have e3 : (128 + k % 64).toUInt8.toNat = 128 + k % 64 := by simp; omega
    rw [e]
    simp only [List.cons_append, List.nil_append, List.getD_cons_zero, List.getD_cons_succ, List.length_cons, List.length_nil, e1, e2, e3, acc, szOf, n0Of, Nat.zero_add, Nat.reduceAdd]
    rw [if_neg (by omega), if_pos (by omega), if_neg (by omega), if_pos (by omega)]
    exact ⟨rfl, by omega⟩
  · have e1 : (240 + k / 262144).toUInt8.toNat = 240 + k / 262144 := by simp; omega
    have e2 : (128 + k / 4096 % 64).toUInt8.toNat = 128 + k / 4096 % 64 := by simp; omega
    have e3 : (128 + k / 64 % 64).toUInt8.toNat = 128 + k / 64 % 64 := by simp; omega
    have e4 : (128 + k % 64).toUInt8.toNat = 128 + k % 64 := by simp; omega
    rw [e]
    simp only [List.cons_append, List.nil_append, List.getD_cons_zero, List.getD_cons_succ, List.length_cons, List.length_nil, e1, e2, e3, e4, acc, szOf, n0Of, Nat.zero_add, Nat.reduceAdd]
    rw [if_pos (by omega), if_pos (by omega)]
    exact ⟨rfl, by omega⟩

theorem lead_is (l : List UInt8) (hl : l ≠ []) :
    lead l = if szOf (l.getD 0 0).toNat ≤ l.length ∧ IsPt (acc l (szOf (l.getD 0 0).toNat - 1) : Int) ∧ enc (acc l (szOf (l.getD 0 0).toNat - 1) : Int) = l.take (szOf (l.getD 0 0).toNat) then some ((acc l (szOf (l.getD 0 0).toNat - 1) : Int), szOf (l.getD 0 0).toNat) else none := by
  by_cases hc : szOf (l.getD 0 0).toNat ≤ l.length ∧ IsPt (acc l (szOf (l.getD 0 0).toNat - 1) : Int) ∧ enc (acc l (szOf (l.getD 0 0).toNat - 1) : Int) = l.take (szOf (l.getD 0 0).toNat)
  · rw [if_pos hc]
    obtain ⟨h1, h2, h3⟩ := hc
    generalize acc l (szOf (l.getD 0 0).toNat - 1) = n at *
    generalize szOf (l.getD 0 0).toNat = k at *
    have h4 : l = enc (n : Int) ++ l.drop k := by rw [h3, List.take_append_drop]
    have h5 : (enc (n : Int)).length = k := by rw [h3, List.length_take]; omega
    rw [h4, lead_enc _ h2, h5]
  · rw [if_neg hc]
    cases h : lead l with
    | none => rfl
    | some d =>
      exfalso
      obtain ⟨n, k⟩ := d
      obtain ⟨h1, h2, h3⟩ := lead_sound hl h
      obtain ⟨m, rfl⟩ := Int.eq_ofNat_of_zero_le h1.1
      obtain ⟨g1, g2⟩ := acc_enc m h1 (l.drop k)
      rw [← h2] at g1 g2
      apply hc
      rw [g1, g2]
      refine ⟨?_, h1, ?_⟩
      · rw [h2, List.length_append]; omega
      · have : (enc (m : Int) ++ l.drop k).take (enc (m : Int)).length = enc (m : Int) := List.take_left
        rw [← h2] at this
        exact this.symm

theorem run_index_str (s : ByteArray) (k : Nat) (h : k < s.size) (w : World) : (Instr.index 9 (.string s) (.int .i64 (k : Int))).run Try.prog w = .ok (.int .u8 ((s.data.toList.getD k 0).toNat : Int)) w := by
  have e : s[k]? = some (s.data.toList.getD k 0) := by
    rw [getElem?_pos s k h]
    congr 1
    rw [List.getD, List.getElem?_eq_getElem (by simpa using h)]
    rfl
  simp [Instr.index, asIntOf, run_underlying Try.underlying9, e]

/-- What first answers. -/
def fr (l : List UInt8) : Int × Nat := match lead l with | none => (0, 0) | some d => d

set_option maxHeartbeats 4000000 in
set_option maxRecDepth 100000 in
theorem first_any (s : ByteArray) (w : World) (h1 : 1 ≤ s.size) (h2 : s.size ≤ 1073741824) :
    Calls Try.prog 21 #[.string s] w (fun e w' => e = .returned (.tuple #[.int .i64 (fr s.data.toList).1, .int .i64 ((fr s.data.toList).2 : Int)]) ∧ Below w.heap.size w w') := by
  obtain ⟨l, hl⟩ : ∃ l, l = s.data.toList := ⟨_, rfl⟩
  have hne : l ≠ [] := by
    intro h0
    have := congrArg List.length (hl.symm.trans h0)
    rw [size_data, List.length_nil] at this
    omega
  have hll : l.length = s.size := by rw [hl, size_data]
  have hlead := lead_is l hne
  obtain ⟨c, hc⟩ : ∃ c, c = (l.getD 0 0).toNat := ⟨_, rfl⟩
  have hcb : c < 256 := by rw [hc]; exact u8lt _
  have i0 : ∀ W, (Instr.index 9 (.string s) (.int .i64 0)).run Try.prog W = .ok (.int .u8 (c : Int)) W := fun W => by
    rw [hc, hl]; exact run_index_str s 0 (by omega) W
  obtain ⟨sz, hsz⟩ : ∃ sz, sz = szOf c := ⟨_, rfl⟩
  obtain ⟨n0, hn0⟩ : ∃ n0, n0 = n0Of c := ⟨_, rfl⟩
  have hszb := szOf_bd c
  rw [← hsz] at hszb
  have hn0b : n0 < 256 := by have := acc_le l 0; have e : acc l 0 = n0 := by rw [hn0, hc]; rfl
                             rw [e] at this; omega
  rw [← hl]
  have HL := Lib.hid hl
  have HC := Lib.hid hc
  have HS := Lib.hid hsz
  have HN0 := Lib.hid hn0
  have HLead := Lib.hid hlead
  have HLL := Lib.hid hll
  clear hl hc hsz hn0 hlead hne hll
  go_enter Try.func21, Try.ntmps21
  go_upto_if 13 with fail
  go_cut [5, 6] (fun x z wx => x = .int .i64 (n0 : Int) ∧ z = .int .i64 (sz : Int) ∧ wx = w)
  case first =>
    have q0 : (0 : Int) ≤ (c : Int) := by omega
    by_cases c1 : 240 ≤ c
    · have e1 : ((c : Int) - 240) = (n0 : Int) := by rw [HN0.out]; unfold n0Of; rw [if_pos c1]; omega
      have e2 : sz = 4 := by rw [HS.out]; unfold szOf; rw [if_pos c1]
      have t1 : decide ((240 : Int) ≤ (c : Int)) = true := by simp; omega
      have t2 : decide (240 ≤ c) = true := by simpa using c1
      have E1 := Lib.hid e1
      have E2 := Lib.hid e2
      clear e1 e2
      go_wp2
      go_meet
      exact ⟨by rw [← E1.out], by rw [E2.out]; rfl, rfl⟩
    · have t1 : decide ((240 : Int) ≤ (c : Int)) = false := by simp; omega
      have t2 : decide (240 ≤ c) = false := by simpa using c1
      by_cases c2 : 224 ≤ c
      · have e1 : ((c : Int) - 224) = (n0 : Int) := by rw [HN0.out]; unfold n0Of; rw [if_neg c1, if_pos c2]; omega
        have e2 : sz = 3 := by rw [HS.out]; unfold szOf; rw [if_neg c1, if_pos c2]
        have t3 : decide ((224 : Int) ≤ (c : Int)) = true := by simp; omega
        have t4 : decide (224 ≤ c) = true := by simpa using c2
        have E1 := Lib.hid e1
        have E2 := Lib.hid e2
        clear e1 e2
        go_wp2
        go_meet
        exact ⟨by rw [← E1.out], by rw [E2.out]; rfl, rfl⟩
      · have t3 : decide ((224 : Int) ≤ (c : Int)) = false := by simp; omega
        have t4 : decide (224 ≤ c) = false := by simpa using c2
        by_cases c3 : 192 ≤ c
        · have e1 : ((c : Int) - 192) = (n0 : Int) := by rw [HN0.out]; unfold n0Of; rw [if_neg c1, if_neg c2, if_pos c3]; omega
          have e2 : sz = 2 := by rw [HS.out]; unfold szOf; rw [if_neg c1, if_neg c2, if_pos c3]
          have t5 : decide ((192 : Int) ≤ (c : Int)) = true := by simp; omega
          have t6 : decide (192 ≤ c) = true := by simpa using c3
          have E1 := Lib.hid e1
          have E2 := Lib.hid e2
          clear e1 e2
          go_wp2
          go_meet
          exact ⟨by rw [← E1.out], by rw [E2.out]; rfl, rfl⟩
        · have e1 : (c : Int) = (n0 : Int) := by rw [HN0.out]; unfold n0Of; rw [if_neg c1, if_neg c2, if_neg c3]
          have e2 : sz = 1 := by rw [HS.out]; unfold szOf; rw [if_neg c1, if_neg c2, if_neg c3]
          have t5 : decide ((192 : Int) ≤ (c : Int)) = false := by simp; omega
          have t6 : decide (192 ≤ c) = false := by simpa using c3
          have E1 := Lib.hid e1
          have E2 := Lib.hid e2
          clear e1 e2
          go_wp2
          go_meet
          exact ⟨by rw [← E1.out], by rw [E2.out]; rfl, rfl⟩
  case rest =>
    obtain ⟨rfl, rfl, rfl⟩ := hcut
    by_cases hle : sz ≤ s.size
    · have t1 : decide (s.size < sz) = false := by simp; omega
      go_wp2
      go_loop [5, 7] (fun x i => ∃ j m : Nat, 1 ≤ j ∧ j ≤ sz ∧ i = .int .i64 (j : Int) ∧ x = .int .i64 (m : Int) ∧ m ≤ 67108863 ∧ Hid (m = acc l (j - 1))) (fun _ i => sz - (intOf i).toNat)
      case atStart =>
        refine ⟨1, n0, by omega, by omega, rfl, rfl, by omega, Lib.hid ?_⟩
        rw [HN0.out, HC.out]; rfl
      case round =>
        obtain ⟨j, m, hj1, hj, rfl, rfl, hm, hx⟩ := hrel
        by_cases hjs : j < sz
        · obtain ⟨y, hy⟩ : ∃ y, y = (l.getD j 0).toNat := ⟨_, rfl⟩
          have hyb : y < 256 := by rw [hy]; exact u8lt _
          have ij : ∀ W, (Instr.index 9 (.string s) (.int .i64 (j : Int))).run Try.prog W = .ok (.int .u8 (y : Int)) W := fun W => by
            rw [hy, HL.out]; exact run_index_str s j (by omega) W
          have HY := Lib.hid hy
          have q1 : decide (j < sz) = true := by simpa using hjs
          have q2 : (0 : Int) ≤ (m : Int) := by omega
          have q3 : (0 : Int) ≤ (y : Int) := by omega
          have q4 : (0 : Int) ≤ (j : Int) := by omega
          have hacc : 64 * m + y % 64 = acc l j := by
            obtain ⟨j', rfl⟩ : ∃ j', j = j' + 1 := ⟨j - 1, by omega⟩
            rw [hx.out, hy]; rfl
          have hbd : 64 * m + y % 64 ≤ 67108863 := by rw [hacc]; exact acc_bd l j (by omega)
          have HA := Lib.hid hacc
          clear hacc hy
          go_wp2
          go_round
          case rel => exact ⟨j + 1, 64 * m + y % 64, by omega, by omega, by go_num, by go_num, hbd, Lib.hid (by rw [Nat.add_sub_cancel]; exact HA.out)⟩
          case measure => simp [intOf]; omega
        · obtain rfl : j = sz := by omega
          have q1 : decide (j < j) = false := by simp
          have hcut0 : fr l = if IsPt (m : Int) ∧ enc (m : Int) = l.take j then ((m : Int), j) else (0, 0) := by
            unfold fr
            rw [HLead.out, ← HC.out, ← HS.out, ← hx.out]
            by_cases hp : IsPt (m : Int) ∧ enc (m : Int) = l.take j
            · rw [if_pos hp, if_pos ⟨by rw [HLL.out]; exact hle, hp⟩]
            · rw [if_neg hp, if_neg (fun h => hp h.2)]
          by_cases hp : IsPt (m : Int)
          · obtain ⟨q, hq⟩ : ∃ q, q = (enc (m : Int) == l.take j) := ⟨_, rfl⟩
            have HF : Hid (fr l = if q = true then ((m : Int), j) else (0, 0)) := by
              show fr l = _
              rw [hcut0, hq]
              simp [hp]
            have E1 : ((str (enc (m : Int))).toList == (s.extract 0 j).toList) = q := by
              rw [hq, ByteArray.toList_eq, ByteArray.toList_eq, HL.out]; simp [str]
            clear hcut0 hq
            have r1 : (0 : Int) ≤ (j : Int) := by omega
            have r2 : (j : Int) ≤ (s.size : Int) := by omega
            go_upto_region 19 with fail
            go_cut [52] (fun p wx => p = .bool (!q) ∧ Hid (Below wc.heap.size wc wx))
            case first =>
              go_region_with (first | (go_at_call 22; refine (refIs_yes m hp _).mono ?_; rintro e w1 ⟨rfl, rfl⟩) | (go_at_call 23; refine (bytes_any m hp _).mono ?_; rintro e w1 ⟨u, rfl, rd1, b1⟩; have s2 := run_string rd1))
              all_goals (go_wp2_with fail; go_meet)
              all_goals exact ⟨rfl, Lib.hid (Below.trans ((Below.refl wc.heap.size wc).drew) b1)⟩
            case rest =>
              obtain ⟨rfl, hbc⟩ := hcut
              cases q with
              | false =>
                go_wp2
                go_ret2
                rw [HF.out]
                exact ⟨rfl, hbc.out⟩
              | true =>
                go_wp2
                go_ret2
                rw [HF.out]
                exact ⟨rfl, hbc.out⟩
          · have HF : Hid (fr l = (0, 0)) := by
              show fr l = _
              rw [hcut0, if_neg (fun h => hp h.1)]
            clear hcut0
            have HI : Hid (∀ W : World, Calls Try.prog 22 #[.int .i64 (m : Int)] W fun e w' => e = .returned (.bool false) ∧ w' = W) := fun W => (refIs_no m hp W).mono fun e w' h => ⟨h.1, h.2.symm⟩
            go_upto_region 19 with fail
            go_quiet ((go_at_call 22; refine Calls.quiet_of_same (HI.out _)))
            go_wp2
            go_ret2
            rw [HF.out]
            exact ⟨rfl, below_draw (Below.refl _ _) _⟩
    · have t1 : decide (s.size < sz) = true := by simp; omega
      have HF : Hid (fr l = (0, 0)) := by
        show fr l = _
        unfold fr
        rw [HLead.out, if_neg]
        rintro ⟨g1, _⟩
        rw [← HC.out, ← HS.out, HLL.out] at g1
        exact hle g1
      go_wp2
      go_ret2
      rw [HF.out]
      exact ⟨rfl, Below.refl _ _⟩
end Go.Proofs.Ytpkhgjdpgbkchaa.Point
