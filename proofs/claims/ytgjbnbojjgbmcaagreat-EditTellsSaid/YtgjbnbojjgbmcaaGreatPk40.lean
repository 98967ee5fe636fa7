/- octavoref04.first and Points: what they answer. Conditions: a text takes at most 2 to the 30 bytes. octavoref04.Points: what it answers. Conditions: a text takes at most 2 to the 30 bytes. octavoref16.Insert: what it answers. Conditions: the slice's cells are operations; a text of at most 1,000 bytes. -/
import Derived.Test.YtgjbnbojjgbmcaaGreatChecked
import Derived.WalkKit
import Derived.WalkSpells
import Derived.WalkLawsBesides
import Derived.Laws.BytesArg
import Derived.Lib.Hide
import Derived.Lib.DecodeN
import Derived.Lib.RuneBytes
import Derived.Deep.LoopGhost
import Derived.Laws.AppendOwnNone
import Derived.Laws.OwnMore
import Derived.WideShapes
import Derived.Test.YtgjbnbojjgbmcaaGreatShelf
import Derived.Lib.OthersKept
import Derived.LoopTactic
import Derived.IntWalk
import Derived.BigCall
import Derived.Deep.QuietTactic
import Derived.BigQuiet
import Derived.Deep.RegionWith
import Derived.Deep.DeepCutAuto
import Derived.Maps.AppendAt
import Derived.RegionTactic
import Derived.Deep.RegionHeld3
import Derived.Deep.DrawnRows
import Derived.ScopeJumps
import Derived.Test.YtgjbnbojjgbmcaaGreatProg
import Derived.Laws.EntriesVeiled
import Derived.RowKit
import Derived.Test.YtgjbnbojjgbmcaaGreatPk39
import Derived.Test.YtgjbnbojjgbmcaaGreatPk10
import Derived.Test.YtgjbnbojjgbmcaaGreatPk06
import Derived.Test.YtgjbnbojjgbmcaaGreatPk35
import Derived.Test.YtgjbnbojjgbmcaaGreatPk01
import Derived.Test.YtgjbnbojjgbmcaaGreatPk21
import Derived.Test.YtgjbnbojjgbmcaaGreatPk33
import Derived.Test.YtgjbnbojjgbmcaaGreatPk15
import Derived.Test.YtgjbnbojjgbmcaaGreatPk20
import Derived.Test.YtgjbnbojjgbmcaaGreatPk11
import Derived.Test.YtgjbnbojjgbmcaaGreatPk05
import Derived.Test.YtgjbnbojjgbmcaaGreatPk04
import Derived.Test.YtgjbnbojjgbmcaaGreatPk34
import Derived.Test.YtgjbnbojjgbmcaaGreatPk03
import Derived.Test.YtgjbnbojjgbmcaaGreatPk02
import Derived.Test.YtgjbnbojjgbmcaaGreatPk19
import Derived.Test.YtgjbnbojjgbmcaaGreatPk36
import Derived.Test.YtgjbnbojjgbmcaaGreatPk38
import Derived.Test.YtgjbnbojjgbmcaaGreatPk37

namespace Go.Proofs.YtgjbnbojjgbmcaaGreat.Point
open Go.RowKit Go.WideShapes
def szOf (b : Nat) : Nat := if 240 ≤ b then 4 else if 224 ≤ b then 3 else if 192 ≤ b then 2 else 1
def n0Of (b : Nat) : Nat := if 240 ≤ b then b - 240 else if 224 ≤ b then b - 224 else if 192 ≤ b then b - 192 else b
/-- What is reckoned behind so many more bytes. -/
def acc (l : List UInt8) : Nat → Nat
  | 0 => n0Of (l.getD 0 0).toNat
  | j + 1 => 64 * acc l j + (l.getD (j + 1) 0).toNat % 64
theorem acc_le (l : List UInt8) (j : Nat) : acc l j + 1 ≤ 256 * 64 ^ j := by
  induction j with
  | zero =>
    have := u8lt (l.getD 0 0)
    show n0Of _ + 1 ≤ _
    unfold n0Of
    split
    · omega
    · split
      · omega
      · split <;> omega
  | succ j ih =>
    show 64 * acc l j + (l.getD (j + 1) 0).toNat % 64 + 1 ≤ 256 * (64 ^ j * 64)
    omega
theorem acc_bd (l : List UInt8) (j : Nat) (h : j ≤ 3) : acc l j ≤ 67108863 := by
  have h1 := acc_le l j
  have h2 : 64 ^ j ≤ 64 ^ 3 := Nat.pow_le_pow_right (by omega) h
  omega
theorem szOf_bd (b : Nat) : 1 ≤ szOf b ∧ szOf b ≤ 4 := by
  unfold szOf
  split
  · omega
  · split
    · omega
    · split <;> omega
theorem acc_enc (k : Nat) (h : IsPt (k : Int)) (r : List UInt8) : szOf ((enc (k : Int) ++ r).getD 0 0).toNat = (enc (k : Int)).length ∧ acc (enc (k : Int) ++ r) ((enc (k : Int)).length - 1) = k := by
  have h2 := h.2.1
  rcases enc_form k h with ⟨g1, e⟩ | ⟨g1, g2, e⟩ | ⟨g1, g2, e⟩ | ⟨g1, g2, e⟩
  · have e1 : k.toUInt8.toNat = k := by simp; omega
    rw [e]
    simp only [List.cons_append, List.nil_append, List.getD_cons_zero, List.length_cons, List.length_nil, e1, acc, szOf, n0Of, Nat.zero_add, Nat.sub_self]
    rw [if_neg (by omega), if_neg (by omega), if_neg (by omega), if_neg (by omega), if_neg (by omega), if_neg (by omega)]
    exact ⟨rfl, rfl⟩
  · have e1 : (192 + k / 64).toUInt8.toNat = 192 + k / 64 := by simp; omega
    have e2 : (128 + k % 64).toUInt8.toNat = 128 + k % 64 := by simp; omega
    rw [e]
    simp only [List.cons_append, List.nil_append, List.getD_cons_zero, List.getD_cons_succ, List.length_cons, List.length_nil, e1, e2, acc, szOf, n0Of, Nat.zero_add, Nat.add_sub_cancel]
    rw [if_neg (by omega), if_neg (by omega), if_pos (by omega), if_neg (by omega), if_neg (by omega), if_pos (by omega)]
    exact ⟨rfl, by omega⟩
  · have e1 : (224 + k / 4096).toUInt8.toNat = 224 + k / 4096 := by simp; omega
    have e2 : (128 + k / 64 % 64).toUInt8.toNat = 128 + k / 64 % 64 := by simp; omega
    have e3 : (128 + k % 64).toUInt8.toNat = 128 + k % 64 := by simp; omega
    rw [e]
    simp only [List.cons_append, List.nil_append, List.getD_cons_zero, List.getD_cons_succ, List.length_cons, List.length_nil, e1, e2, e3, acc, szOf, n0Of, Nat.zero_add, Nat.reduceAdd]
    rw [if_neg (by omega), if_pos (by omega), if_neg (by omega), if_pos (by omega)]
    exact ⟨rfl, by omega⟩
  · have e1 : (240 + k / 262144).toUInt8.toNat = 240 + k / 262144 := by simp; omega
    have e2 : (128 + k / 4096 % 64).toUInt8.toNat = 128 + k / 4096 % 64 := by simp; omega
    have e3 : (128 + k / 64 % 64).toUInt8.toNat = 128 + k / 64 % 64 := by simp; omega
    have e4 : (128 + k % 64).toUInt8.toNat = 128 + k % 64 := by simp; omega
    rw [e]
    simp only [List.cons_append, List.nil_append, List.getD_cons_zero, List.getD_cons_succ, List.length_cons, List.length_nil, e1, e2, e3, e4, acc, szOf, n0Of, Nat.zero_add, Nat.reduceAdd]
    rw [if_pos (by omega), if_pos (by omega)]
    exact ⟨rfl, by omega⟩
theorem lead_is (l : List UInt8) (hl : l ≠ []) :
    lead l = if szOf (l.getD 0 0).toNat ≤ l.length ∧ IsPt (acc l (szOf (l.getD 0 0).toNat - 1) : Int) ∧ enc (acc l (szOf (l.getD 0 0).toNat - 1) : Int) = l.take (szOf (l.getD 0 0).toNat) then some ((acc l (szOf (l.getD 0 0).toNat - 1) : Int), szOf (l.getD 0 0).toNat) else none := by
  by_cases hc : szOf (l.getD 0 0).toNat ≤ l.length ∧ IsPt (acc l (szOf (l.getD 0 0).toNat - 1) : Int) ∧ enc (acc l (szOf (l.getD 0 0).toNat - 1) : Int) = l.take (szOf (l.getD 0 0).toNat)
  · rw [if_pos hc]
    obtain ⟨h1, h2, h3⟩ := hc
    generalize acc l (szOf (l.getD 0 0).toNat - 1) = n at *
    generalize szOf (l.getD 0 0).toNat = k at *
    have h4 : l = enc (n : Int) ++ l.drop k := by rw [h3, List.take_append_drop]
    have h5 : (enc (n : Int)).length = k := by rw [h3, List.length_take]; omega
    rw [h4, lead_enc _ h2, h5]
  · rw [if_neg hc]
    cases h : lead l with
    | none => rfl
    | some d =>
      exfalso
      obtain ⟨n, k⟩ := d
      obtain ⟨h1, h2, h3⟩ := lead_sound hl h
      obtain ⟨m, rfl⟩ := Int.eq_ofNat_of_zero_le h1.1
      obtain ⟨g1, g2⟩ := acc_enc m h1 (l.drop k)
      rw [← h2] at g1 g2
      apply hc
      rw [g1, g2]
      refine ⟨?_, h1, ?_⟩
      · rw [h2, List.length_append]; omega
      · have : (enc (m : Int) ++ l.drop k).take (enc (m : Int)).length = enc (m : Int) := List.take_left
        rw [← h2] at this
        exact this.symm
theorem run_index_str (s : ByteArray) (k : Nat) (h : k < s.size) (w : World) : (Instr.index 9 (.string s) (.int .i64 (k : Int))).run Tryz.prog w = .ok (.int .u8 ((s.data.toList.getD k 0).toNat : Int)) w := by
  have e : s[k]? = some (s.data.toList.getD k 0) := by
    rw [getElem?_pos s k h]
    congr 1
    rw [List.getD, List.getElem?_eq_getElem (by simpa using h)]
    rfl
  simp [Instr.index, asIntOf, run_underlying Tryz.underlying9, e]
/-- What first answers. -/
def fr (l : List UInt8) : Int × Nat := match lead l with | none => (0, 0) | some d => d
set_option maxHeartbeats 4000000 in
set_option maxRecDepth 100000 in
theorem first_any (s : ByteArray) (w : World) (h1 : 1 ≤ s.size) (h2 : s.size ≤ 1073741824) :
    Calls Tryz.prog 94 #[.string s] w (fun e w' => e = .returned (.tuple #[.int .i64 (fr s.data.toList).1, .int .i64 ((fr s.data.toList).2 : Int)]) ∧ Below w.heap.size w w') := by
  obtain ⟨l, hl⟩ : ∃ l, l = s.data.toList := ⟨_, rfl⟩
  have hne : l ≠ [] := by
    intro h0
    have := congrArg List.length (hl.symm.trans h0)
    rw [size_data, List.length_nil] at this
    omega
  have hll : l.length = s.size := by rw [hl, size_data]
  have hlead := lead_is l hne
  obtain ⟨c, hc⟩ : ∃ c, c = (l.getD 0 0).toNat := ⟨_, rfl⟩
  have hcb : c < 256 := by rw [hc]; exact u8lt _
  have i0 : ∀ W, (Instr.index 9 (.string s) (.int .i64 0)).run Tryz.prog W = .ok (.int .u8 (c : Int)) W := fun W => by
    rw [hc, hl]; exact run_index_str s 0 (by omega) W
  obtain ⟨sz, hsz⟩ : ∃ sz, sz = szOf c := ⟨_, rfl⟩
  obtain ⟨n0, hn0⟩ : ∃ n0, n0 = n0Of c := ⟨_, rfl⟩
  have hszb := szOf_bd c
  rw [← hsz] at hszb
  have hn0b : n0 < 256 := by have := acc_le l 0; have e : acc l 0 = n0 := by rw [hn0, hc]; rfl
                             rw [e] at this; omega
  rw [← hl]
  have HL := Lib.hid hl
  have HC := Lib.hid hc
  have HS := Lib.hid hsz
  have HN0 := Lib.hid hn0
  have HLead := Lib.hid hlead
  have HLL := Lib.hid hll
  clear hl hc hsz hn0 hlead hne hll
  go_enter Tryz.func94, Tryz.ntmps94
  go_upto_if 13 with fail
  go_cut [5, 6] (fun x z wx => x = .int .i64 (n0 : Int) ∧ z = .int .i64 (sz : Int) ∧ wx = w)
  case first =>
    have q0 : (0 : Int) ≤ (c : Int) := by omega
    by_cases c1 : 240 ≤ c
    · have e1 : ((c : Int) - 240) = (n0 : Int) := by rw [HN0.out]; unfold n0Of; rw [if_pos c1]; omega
      have e2 : sz = 4 := by rw [HS.out]; unfold szOf; rw [if_pos c1]
      have t1 : decide ((240 : Int) ≤ (c : Int)) = true := by simp; omega
      have t2 : decide (240 ≤ c) = true := by simpa using c1
      have E1 := Lib.hid e1
      have E2 := Lib.hid e2
      clear e1 e2
      go_wp2
      go_meet
      exact ⟨by rw [← E1.out], by rw [E2.out]; rfl, rfl⟩
    · have t1 : decide ((240 : Int) ≤ (c : Int)) = false := by simp; omega
      have t2 : decide (240 ≤ c) = false := by simpa using c1
      by_cases c2 : 224 ≤ c
      · have e1 : ((c : Int) - 224) = (n0 : Int) := by rw [HN0.out]; unfold n0Of; rw [if_neg c1, if_pos c2]; omega
        have e2 : sz = 3 := by rw [HS.out]; unfold szOf; rw [if_neg c1, if_pos c2]
        have t3 : decide ((224 : Int) ≤ (c : Int)) = true := by simp; omega
        have t4 : decide (224 ≤ c) = true := by simpa using c2
        have E1 := Lib.hid e1
        have E2 := Lib.hid e2
        clear e1 e2
        go_wp2
        go_meet
        exact ⟨by rw [← E1.out], by rw [E2.out]; rfl, rfl⟩
      · have t3 : decide ((224 : Int) ≤ (c : Int)) = false := by simp; omega
        have t4 : decide (224 ≤ c) = false := by simpa using c2
        by_cases c3 : 192 ≤ c
        · have e1 : ((c : Int) - 192) = (n0 : Int) := by rw [HN0.out]; unfold n0Of; rw [if_neg c1, if_neg c2, if_pos c3]; omega
          have e2 : sz = 2 := by rw [HS.out]; unfold szOf; rw [if_neg c1, if_neg c2, if_pos c3]
          have t5 : decide ((192 : Int) ≤ (c : Int)) = true := by simp; omega
          have t6 : decide (192 ≤ c) = true := by simpa using c3
          have E1 := Lib.hid e1
          have E2 := Lib.hid e2
          clear e1 e2
          go_wp2
          go_meet
          exact ⟨by rw [← E1.out], by rw [E2.out]; rfl, rfl⟩
        · have e1 : (c : Int) = (n0 : Int) := by rw [HN0.out]; unfold n0Of; rw [if_neg c1, if_neg c2, if_neg c3]
          have e2 : sz = 1 := by rw [HS.out]; unfold szOf; rw [if_neg c1, if_neg c2, if_neg c3]
          have t5 : decide ((192 : Int) ≤ (c : Int)) = false := by simp; omega
          have t6 : decide (192 ≤ c) = false := by simpa using c3
          have E1 := Lib.hid e1
          have E2 := Lib.hid e2
          clear e1 e2
          go_wp2
          go_meet
          exact ⟨by rw [← E1.out], by rw [E2.out]; rfl, rfl⟩
  case rest =>
    obtain ⟨rfl, rfl, rfl⟩ := hcut
    by_cases hle : sz ≤ s.size
    · have t1 : decide (s.size < sz) = false := by simp; omega
      go_wp2
      go_loop [5, 7] (fun x i => ∃ j m : Nat, 1 ≤ j ∧ j ≤ sz ∧ i = .int .i64 (j : Int) ∧ x = .int .i64 (m : Int) ∧ m ≤ 67108863 ∧ Hid (m = acc l (j - 1))) (fun _ i => sz - (intOf i).toNat)
      case atStart =>
        refine ⟨1, n0, by omega, by omega, rfl, rfl, by omega, Lib.hid ?_⟩
        rw [HN0.out, HC.out]; rfl
      case round =>
        obtain ⟨j, m, hj1, hj, rfl, rfl, hm, hx⟩ := hrel
        by_cases hjs : j < sz
        · obtain ⟨y, hy⟩ : ∃ y, y = (l.getD j 0).toNat := ⟨_, rfl⟩
          have hyb : y < 256 := by rw [hy]; exact u8lt _
          have ij : ∀ W, (Instr.index 9 (.string s) (.int .i64 (j : Int))).run Tryz.prog W = .ok (.int .u8 (y : Int)) W := fun W => by
            rw [hy, HL.out]; exact run_index_str s j (by omega) W
          have HY := Lib.hid hy
          have q1 : decide (j < sz) = true := by simpa using hjs
          have q2 : (0 : Int) ≤ (m : Int) := by omega
          have q3 : (0 : Int) ≤ (y : Int) := by omega
          have q4 : (0 : Int) ≤ (j : Int) := by omega
          have hacc : 64 * m + y % 64 = acc l j := by
            obtain ⟨j', rfl⟩ : ∃ j', j = j' + 1 := ⟨j - 1, by omega⟩
            rw [hx.out, hy]; rfl
          have hbd : 64 * m + y % 64 ≤ 67108863 := by rw [hacc]; exact acc_bd l j (by omega)
          have HA := Lib.hid hacc
          clear hacc hy
          go_wp2
          go_round
          case rel => exact ⟨j + 1, 64 * m + y % 64, by omega, by omega, by go_num, by go_num, hbd, Lib.hid (by rw [Nat.add_sub_cancel]; exact HA.out)⟩
          case measure => simp [intOf]; omega
        · obtain rfl : j = sz := by omega
          have q1 : decide (j < j) = false := by simp
          have hcut0 : fr l = if IsPt (m : Int) ∧ enc (m : Int) = l.take j then ((m : Int), j) else (0, 0) := by
            unfold fr
            rw [HLead.out, ← HC.out, ← HS.out, ← hx.out]
            by_cases hp : IsPt (m : Int) ∧ enc (m : Int) = l.take j
            · rw [if_pos hp, if_pos ⟨by rw [HLL.out]; exact hle, hp⟩]
            · rw [if_neg hp, if_neg (fun h => hp h.2)]
          by_cases hp : IsPt (m : Int)
          · obtain ⟨q, hq⟩ : ∃ q, q = (enc (m : Int) == l.take j) := ⟨_, rfl⟩
            have HF : Hid (fr l = if q = true then ((m : Int), j) else (0, 0)) := by
              show fr l = _
              rw [hcut0, hq]
              simp [hp]
            have E1 : ((str (enc (m : Int))).toList == (s.extract 0 j).toList) = q := by
              rw [hq, ByteArray.toList_eq, ByteArray.toList_eq, HL.out]; simp [str]
            clear hcut0 hq
            have r1 : (0 : Int) ≤ (j : Int) := by omega
            have r2 : (j : Int) ≤ (s.size : Int) := by omega
            go_upto_region 19 with fail
            go_cut [52] (fun p wx => p = .bool (!q) ∧ Hid (Below wc.heap.size wc wx))
            case first =>
              go_region_with (first | (go_at_call 134; refine (refIs_yes m hp _).mono ?_; rintro e w1 ⟨rfl, rfl⟩) | (go_at_call 135; refine (bytes_any m hp _).mono ?_; rintro e w1 ⟨u, rfl, rd1, b1⟩; have s2 := run_string rd1))
              all_goals (go_wp2_with fail; go_meet)
              all_goals exact ⟨rfl, Lib.hid (Below.trans ((Below.refl wc.heap.size wc).drew) b1)⟩
            case rest =>
              obtain ⟨rfl, hbc⟩ := hcut
              cases q with
              | false =>
                go_wp2
                go_ret2
                rw [HF.out]
                exact ⟨rfl, hbc.out⟩
              | true =>
                go_wp2
                go_ret2
                rw [HF.out]
                exact ⟨rfl, hbc.out⟩
          · have HF : Hid (fr l = (0, 0)) := by
              show fr l = _
              rw [hcut0, if_neg (fun h => hp h.1)]
            clear hcut0
            have HI : Hid (∀ W : World, Calls Tryz.prog 134 #[.int .i64 (m : Int)] W fun e w' => e = .returned (.bool false) ∧ w' = W) := fun W => (refIs_no m hp W).mono fun e w' h => ⟨h.1, h.2.symm⟩
            go_upto_region 19 with fail
            go_quiet ((go_at_call 134; refine Calls.quiet_of_same (HI.out _)))
            go_wp2
            go_ret2
            rw [HF.out]
            exact ⟨rfl, below_draw (Below.refl _ _) _⟩
    · have t1 : decide (s.size < sz) = true := by simp; omega
      have HF : Hid (fr l = (0, 0)) := by
        show fr l = _
        unfold fr
        rw [HLead.out, if_neg]
        rintro ⟨g1, _⟩
        rw [← HC.out, ← HS.out, HLL.out] at g1
        exact hle g1
      go_wp2
      go_ret2
      rw [HF.out]
      exact ⟨rfl, Below.refl _ _⟩
end Go.Proofs.YtgjbnbojjgbmcaaGreat.Point

namespace Go.Proofs.YtgjbnbojjgbmcaaGreat.Point
open Go.RowKit Go.WideShapes
def strLen : Value → Nat | .string s => s.size | _ => 0
set_option maxHeartbeats 4000000 in
set_option maxRecDepth 100000 in
theorem refPoints_any (s : ByteArray) (w : World) (hs : s.size ≤ 1073741824) :
    Calls Tryz.prog 45 #[.string s] w (fun e w' => Ans (pr s.data.toList).1 (pr s.data.toList).2 e w w') := by
  obtain ⟨l, hl⟩ : ∃ l, l = s.data.toList := ⟨_, rfl⟩
  rw [← hl]
  have hll : l.length = s.size := by rw [hl, size_data]
  have HL := Lib.hid hl
  have HLL := Lib.hid hll
  clear hl hll
  go_enter Tryz.func45, Tryz.ntmps45
  go_wp2
  go_loopw [0, 4] (fun x v wr => ∃ (s' : ByteArray) (ns : List Int) (ao : Option Addr) (m cap : Nat), x = .string s' ∧ v = .slice ao m cap ∧ s'.size ≤ 1073741824 ∧ m ≤ 1073741824 ∧ Hid (m = ns.length) ∧ Hid (Pts ns) ∧ Hid (l = flat ns ++ s'.data.toList) ∧ Hid (wr.ownsRow w.heap.size 3 1 (.slice ao m cap) m (is ns)) ∧ Hid (Below w.heap.size w wr)) (fun x _ _ => strLen x)
  case atStart =>
    exact ⟨s, [], none, 0, 0, rfl, rfl, hs, by omega, Lib.hid rfl, Lib.hid (by simp [Pts]), Lib.hid HL.out, Lib.hid (World.ownsRow_nil _ _ _ _), Lib.hid (Below.refl _ _)⟩
  case round =>
    obtain ⟨s', ns, ao, m, cap, rfl, rfl, hs', hm1, hm, hpt, hfl, hown, hbel⟩ := hrel
    have hsz : w.heap.size ≤ wr.heap.size := hbel.out.size
    by_cases hp : 0 < s'.size
    · have q1 : decide ((0 : Int) < (s'.size : Int)) = true := by simp; omega
      have q2 : decide (0 < s'.size) = true := by simpa using hp
      have hne : s'.data.toList ≠ [] := by
        intro h0
        have := congrArg List.length h0
        rw [size_data, List.length_nil] at this
        omega
      cases hld : lead s'.data.toList with
      | none =>
        have HF : Hid (pr l = ([], 40)) := by
          show pr l = _
          refine pr_none (pts_none fun k hk => ?_)
          rw [hfl.out]
          exact flat_stuck hpt.out hne hld k hk
        have HR : Hid (fr s'.data.toList = (0, 0)) := by show fr _ = _; unfold fr; rw [hld]
        have HC : Hid (∀ W : World, Calls Tryz.prog 94 #[.string s'] W (fun e w' => e = .returned (.tuple #[.int .i64 0, .int .i64 0]) ∧ Below W.heap.size W w')) := fun W => by
          have := first_any s' W (by omega) hs'
          rw [HR.out] at this
          exact this
        clear hld hne
        go_wp2_with fail
        refine (HC.out _).mono ?_
        rintro e w1 ⟨rfl, b1⟩
        have B1 : Hid (Below w.heap.size w w1) := hbel.out.trans (b1.mono hsz)
        clear b1
        go_wp2
        go_ret2
        rw [HF.out]
        exact ⟨none, 0, rfl, World.ownsRow_nil _ _ _ _, B1.out⟩
      | some d =>
        obtain ⟨n, k⟩ := d
        obtain ⟨g1, g2, g3⟩ := lead_sound hne hld
        have hk := enc_len n
        rw [← g3] at hk
        have hks : k ≤ s'.size := by
          have := congrArg List.length g2
          rw [List.length_append, List.length_drop, size_data] at this
          omega
        have hn2 := g1.2.1
        have hn1 := g1.1
        have HR : Hid (fr s'.data.toList = (n, k)) := by show fr _ = _; unfold fr; rw [hld]
        have HC : Hid (∀ W : World, Calls Tryz.prog 94 #[.string s'] W (fun e w' => e = .returned (.tuple #[.int .i64 n, .int .i64 (k : Int)]) ∧ Below W.heap.size W w')) := fun W => by
          have := first_any s' W (by omega) hs'
          rw [HR.out] at this
          exact this
        have HG := Lib.hid g2
        have HP := Lib.hid g1
        have q3 : ((k : Int) == 0) = false := by rw [beq_eq_false_iff_ne]; omega
        have q4 : (0 : Int) ≤ (k : Int) := by omega
        have q5 : (k : Int) ≤ (s'.size : Int) := by omega
        have hmf : m + 1 ≤ 1073741824 := by
          have h1 := congrArg List.length hfl.out
          rw [List.length_append, size_data] at h1
          have h2 := (flat_len ns).1
          have h3 := hm.out
          have h4 := HLL.out
          omega
        clear hld hne g1 g2 g3
        go_wp2_with fail
        refine (HC.out _).mono ?_
        rintro e w1 ⟨rfl, b1⟩
        have B1 : Hid (Below w.heap.size w w1) := hbel.out.trans (b1.mono hsz)
        have hs1 : w.heap.size ≤ w1.heap.size := B1.out.size
        have O1 : Hid (w1.ownsRow w.heap.size 3 1 (.slice ao m cap) m (is ns)) := own_stays hown.out b1
        have HS : Hid (Sees (w1.alloc (.cells #[.int .i64 n] 3)) (.slice (some ⟨w1.heap.size, 0, none⟩) 1 1) 1 1 [.int .i64 n]) := sees_new w1 [.int .i64 n] 1 1 rfl (by omega) _ _
        clear b1
        go_wp2_with (at_builtin; refine wpList_append_sees rfl (.tmp 17) (.tmp 19) 55 3 rfl Tryz.underlying55 int_info rfl (by decide) w.heap.size _ m _ rfl (O1.out.alloc _) _ 1 _ rfl HS.out ?k1 ?k2 ?k3 ?k4 ?_)
        case k1 => exact is_oneCell [n]
        case k2 => omega
        case k3 => omega
        case k4 => simp; omega
        rintro v' w' ho hg hb
        obtain ⟨ao', cap', rfl⟩ : ∃ ao cap, v' = .slice ao (m + 1) cap := Sees.shape (Sees.own ho)
        have HO := Lib.hid ho
        have HB : Hid (Below w.heap.size w w') := (B1.out.alloc hs1 _).trans hb
        clear ho hg hb
        go_wp2
        go_roundw
        case rel =>
          refine ⟨s'.extract k s'.size, ns ++ [n], ao', m + 1, cap', rfl, rfl, ?_, hmf, Lib.hid ?_, Lib.hid ?_, Lib.hid ?_, Lib.hid ?_, HB⟩
          · rw [ByteArray.size_extract]; omega
          · have := hm.out; simp; omega
          · exact pts_append.2 ⟨hpt.out, by simpa [Pts] using HP.out⟩
          · rw [str_data, hfl.out, flat_append, List.append_assoc]
            congr 1
            have h2 := HG.out
            simpa [flat] using h2
          · rw [is_append]; exact HO.out
        case measure =>
          simp [strLen]
          omega
    · have q1 : decide ((0 : Int) < (s'.size : Int)) = false := decide_eq_false (by omega)
      have q2 : decide (0 < s'.size) = false := decide_eq_false hp
      have hpts : pts l = some ns := by
        have e : s'.data.toList = [] := List.length_eq_zero_iff.1 (by rw [size_data]; omega)
        rw [hfl.out, e, List.append_nil]
        exact pts_flat hpt.out
      by_cases hc : m ≤ 1024
      · have HF := Lib.hid (pr_some hpts (by rw [← hm.out]; exact hc))
        have t1 : decide ((1024 : Int) < (m : Int)) = false := by simp; omega
        have t2 : decide (1024 < m) = false := by simp; omega
        clear hpts
        go_wp2
        go_ret2
        rw [HF.out]
        have h := hown.out
        have e := hm.out
        rw [e] at h
        exact ⟨ao, cap, by rw [e]; rfl, h, hbel.out⟩
      · have HF := Lib.hid (pr_many hpts (by rw [← hm.out]; exact hc))
        have t1 : decide ((1024 : Int) < (m : Int)) = true := by simp; omega
        have t2 : decide (1024 < m) = true := by simp; omega
        clear hpts
        go_wp2
        go_ret2
        rw [HF.out]
        exact ⟨none, 0, rfl, World.ownsRow_nil _ _ _ _, hbel.out⟩
end Go.Proofs.YtgjbnbojjgbmcaaGreat.Point

namespace Go.Proofs.YtgjbnbojjgbmcaaGreat.Edits
open Go.RowKit Go.WideShapes Stamp Go.Proofs.YtgjbnbojjgbmcaaGreat.Place Ops Codes Bags Marks Homes Covers Views
attribute [local go_sem ↓] Go.wp_at_zero Go.wp_at_succ
attribute [local go_sem] yielded_undef
set_option maxRecDepth 100000 in
set_option maxHeartbeats 8000000 in
theorem refInsert16_any {v : Value} {l : List Opn} {r t : Nat} (s : Id) (k : Int) (T : ByteArray) {w : World} (hv : OpL w v l) (hr : r < 256) (ht : t < 4294967296) (hT : T.size ≤ 1073741824) :
    Calls Tryz.prog 15 #[v, .int .u8 (r : Int), .int .u32 (t : Int), .agg #[.int .u32 (s.t : Int), .int .u8 (s.r : Int)], .int .i64 k, .string T] w (DoneL (insL l r t s k (Point.pr T.data.toList).1 (Point.pr T.data.toList).2) (insE l r t s k (Point.pr T.data.toList).1 (Point.pr T.data.toList).2) w) := by
  obtain ⟨wl, hwl⟩ : ∃ x, x = w.alloc (.cells #[.int .u32 (s.t : Int), .int .u8 (s.r : Int)] 28) := ⟨_, rfl⟩
  have B0 : Hid (Below w.heap.size w wl) := by rw [hwl]; exact (Below.refl _ _).alloc (Nat.le_refl _) _
  have Y0 : Hid (wl.heap[w.heap.size]? = some (.cells #[.int .u32 (s.t : Int), .int .u8 (s.r : Int)] 28)) := by rw [hwl]; exact blk_new rfl
  have HW := Lib.hid hwl
  have AK : Hid (Calls Tryz.prog 43 #[v, .int .u8 (r : Int), .int .u32 (t : Int), .agg #[.int .u32 (s.t : Int), .int .u8 (s.r : Int)]] wl (AskD l r t s wl)) := refAsk_any s (hv.keeps B0.out) hr
  have OF : Hid (askE l r t s = 0 → ∀ (W : World) (y : Value), Below w.heap.size w W → OpL W y (livesM l l) → Calls Tryz.prog 44 #[v, y, .agg #[.int .u32 (s.t : Int), .int .u8 (s.r : Int)]] W fun e w' => ∃ v', e = .returned v' ∧ ElL w' v' (elmL l s) ∧ Below W.heap.size W w') := fun h0 W y h hy => by
    have hs := (askE_zero.1 h0).2.2
    have hb := (spanE_zero.1 hs).1
    have := refOf15_any s (hv.keeps h) hy (by have := hb.1; omega) hb.2.1 (lives_fits hb).2
    rwa [← elm_yes hs] at this
  have LF : Hid (askE l r t s = 0 → ∀ (W : World) (y x : Value) (j : Nat), j ≤ (elmL l s).length → OpL W y (livesM l l) → ElL W x (elmL l s) → Calls Tryz.prog 48 #[v, y, .agg #[.int .u32 (s.t : Int), .int .u8 (s.r : Int)], x, .int .i64 (j : Int)] W fun e w' => ∃ v', e = .returned v' ∧ Runs w' v' (leftP l s j) ∧ Below W.heap.size W w') := fun h0 W y x j hj hy hx => by
    have hs := (askE_zero.1 h0).2.2
    have hb := spanE_zero.1 hs
    exact refLeft_any s j hy hx hj (by have := elm_len l s; have := hb.1.1; omega) (by have := (lives_fits hb.1).1; omega) hb.2
  have PT : Hid (∀ W : World, Calls Tryz.prog 45 #[.string T] W (fun e w' => Point.Ans (Point.pr T.data.toList).1 (Point.pr T.data.toList).2 e W w')) := fun W => Point.refPoints_any T W hT
  have PB := Lib.hid (pr_len T.data.toList)
  obtain ⟨cs, f, hcf⟩ : ∃ cs f, Point.pr T.data.toList = (cs, f) := ⟨_, _, rfl⟩
  simp only [hcf] at PT PB ⊢
  have TY : Hid (f = 0 → ∀ (W : World) (y u : Value) (p : List Run), Runs W y p → Ints W u cs → cs.length ≤ 64 → t + cs.length ≤ 1073741824 → Calls Tryz.prog 47 #[y, .int .u8 (r : Int), .int .u32 (t : Int), u] W fun e w' => ∃ v', e = .returned (.tuple #[v', .bool (typed p r t cs).2]) ∧ OwnL w' W.heap.size v' (if (typed p r t cs).2 = true then (typed p r t cs).1 else []) ∧ Below W.heap.size W w') := fun hf W y u p hy hu h1 h2 => refTyped_any hy hu h1 h2 hr (PB.out hf)
  have LT : Hid (∀ (W : World) (m : Nat), m ≤ 64 → Calls Tryz.prog 46 #[.int .u32 (t : Int), .int .i64 (m : Int)] W fun e w' => e = .returned (.bool (decide (1073741824 < t + m))) ∧ w' = W) := fun W m h => refLate_any ht (by omega) W
  have HE : Hid (insE l r t s k cs f = (if askE l r t s = 0 then if 0 ≤ k ∧ k ≤ ((elmL l s).length : Int) then if f = 0 then if cs = [] then 2 else if 64 < cs.length then 4 else if 1073741824 < t + cs.length then 50 else if (typed (leftP l s k.toNat) r t cs).2 = true then 0 else 60 else f else 2 else askE l r t s)) := rfl
  have HL : Hid (insL l r t s k cs f = if insE l r t s k cs f = 0 then (typed (leftP l s k.toNat) r t cs).1 else []) := rfl
  obtain ⟨ao, cap, rfl⟩ := hv.shape
  obtain ⟨n, hn⟩ : ∃ n, l.length = n := ⟨_, rfl⟩
  rw [hn] at AK OF LF ⊢
  obtain ⟨ie, hie⟩ : ∃ x, insE l r t s k cs f = x := ⟨_, rfl⟩
  rw [hie] at HE HL ⊢
  obtain ⟨il, hil⟩ : ∃ x, insL l r t s k cs f = x := ⟨_, rfl⟩
  rw [hil] at HL ⊢
  have AK2 : Hid (Calls Tryz.prog 43 #[.slice ao n cap, .int .u8 (r : Int), .int .u32 (t : Int), .agg #[.int .u32 (s.t : Int), .int .u8 (s.r : Int)]] wl fun e w' => ∃ v', e = .returned (.tuple #[v', .int .i64 (askE l r t s)]) ∧ OpL w' v' (if askE l r t s = 0 then livesM l l else []) ∧ Below wl.heap.size wl w') := AK.out
  obtain ⟨a, ha⟩ : ∃ a, askE l r t s = a := ⟨_, rfl⟩
  rw [ha] at AK2 OF LF HE
  obtain ⟨V, hV⟩ : ∃ V, livesM l l = V := ⟨_, rfl⟩
  rw [hV] at AK2 OF LF
  obtain ⟨X, hX⟩ : ∃ X, elmL l s = X := ⟨_, rfl⟩
  rw [hX] at OF LF HE
  obtain ⟨LP, hLP⟩ : ∃ LP, leftP l s = LP := ⟨_, rfl⟩
  rw [hLP] at LF HE HL
  obtain ⟨nx, hnx⟩ : ∃ n, X.length = n := ⟨_, rfl⟩
  rw [hnx] at LF HE
  have HNX := Lib.hid hnx
  obtain ⟨nc, hnc⟩ : ∃ n, cs.length = n := ⟨_, rfl⟩
  rw [hnc] at TY HE
  have HNC := Lib.hid hnc
  clear hv hwl hn AK hie hil ha hV hX hLP hnx hnc hcf PB hr ht hT
  obtain ⟨ts, rs, hts, hrs⟩ := s
  simp only at Y0 HW AK2 OF LF ⊢
  by_cases ha : a = 0
  rotate_left
  · obtain rfl : ie = a := by rw [HE.out, if_neg ha]
    obtain rfl : il = [] := by rw [HL.out, if_neg ha]
    have t1 : (ie != 0) = true := by simpa using ha
    have t2 : decide (ie = 0) = false := decide_eq_false ha
    clear HE HL OF LF TY LT PT
    have d0 := cell_of_row _ _ 0 _ _ _ Y0.out
    have d1 := cell_of_row _ _ 1 _ _ _ Y0.out
    go_enter Tryz.func15, Tryz.ntmps15
    go_wp2_with fail
    rw [← HW.out]
    refine AK2.out.mono ?_
    rintro e w1 ⟨v1, rfl, o1, b1⟩
    have B1 := Lib.hid (bt B0.out b1)
    have Y1 := Lib.hid (blk_below b1 Y0.out)
    have O1 := Lib.hid o1
    clear b1 o1 Y0 B0 HW AK2 d0 d1
    clear O1 Y1
    go_wp2
    exact bodyPost_ret (v := .tuple #[.slice none 0 0, .int .i64 ie]) (by simp [results, Tryz.results15, go_sem]) rfl ⟨_, rfl, Seq.nil _ _, B1.out⟩
  subst ha
  rw [if_pos rfl] at AK2 HE
  have OF2 := Lib.hid (OF.out rfl)
  have LF2 := Lib.hid (LF.out rfl)
  clear OF LF
  by_cases hk : 0 ≤ k ∧ k ≤ (nx : Int)
  rotate_left
  · obtain rfl : ie = 2 := by rw [HE.out, if_neg hk]
    obtain rfl : il = [] := by rw [HL.out, if_neg (by decide)]
    clear HE HL LF2 TY LT PT
    by_cases hk0 : k < 0
    · have q1 : decide (k < 0) = true := decide_eq_true hk0
      clear hk
      have d0 := cell_of_row _ _ 0 _ _ _ Y0.out
      have d1 := cell_of_row _ _ 1 _ _ _ Y0.out
      go_enter Tryz.func15, Tryz.ntmps15
      go_wp2_with fail
      rw [← HW.out]
      refine AK2.out.mono ?_
      rintro e w1 ⟨v1, rfl, o1, b1⟩
      have B1 := Lib.hid (bt B0.out b1)
      have Y1 := Lib.hid (blk_below b1 Y0.out)
      have O1 := Lib.hid o1
      clear b1 o1 Y0 B0 HW AK2 d0 d1
      have d0 := cell_of_row _ _ 0 _ _ _ Y1.out
      have d1 := cell_of_row _ _ 1 _ _ _ Y1.out
      go_wp2_with fail
      refine (OF2.out _ _ B1.out O1.out).mono ?_
      rintro e w2 ⟨v2, rfl, e2, b2⟩
      have B2 := Lib.hid (bt B1.out b2)
      have Y2 := Lib.hid (blk_below b2 Y1.out)
      have O2 := Lib.hid (O1.out.keeps b2)
      obtain ⟨xo, xc, rfl⟩ := e2.shape
      have E2 := Lib.hid e2
      rw [HNX.out] at E2 ⊢
      clear b2 e2 O1 B1 Y1 OF2 d0 d1
      clear O2 Y2 E2
      go_wp2
      exact bodyPost_ret (v := .tuple #[.slice none 0 0, .int .i64 2]) (by simp [results, Tryz.results15, go_sem]) rfl ⟨_, rfl, Seq.nil _ _, B2.out⟩
    · have q1 : decide (k < 0) = false := decide_eq_false hk0
      have q2 : decide ((nx : Int) < k) = true := decide_eq_true (by omega)
      clear hk
      have d0 := cell_of_row _ _ 0 _ _ _ Y0.out
      have d1 := cell_of_row _ _ 1 _ _ _ Y0.out
      go_enter Tryz.func15, Tryz.ntmps15
      go_wp2_with fail
      rw [← HW.out]
      refine AK2.out.mono ?_
      rintro e w1 ⟨v1, rfl, o1, b1⟩
      have B1 := Lib.hid (bt B0.out b1)
      have Y1 := Lib.hid (blk_below b1 Y0.out)
      have O1 := Lib.hid o1
      clear b1 o1 Y0 B0 HW AK2 d0 d1
      have d0 := cell_of_row _ _ 0 _ _ _ Y1.out
      have d1 := cell_of_row _ _ 1 _ _ _ Y1.out
      go_wp2_with fail
      refine (OF2.out _ _ B1.out O1.out).mono ?_
      rintro e w2 ⟨v2, rfl, e2, b2⟩
      have B2 := Lib.hid (bt B1.out b2)
      have Y2 := Lib.hid (blk_below b2 Y1.out)
      have O2 := Lib.hid (O1.out.keeps b2)
      obtain ⟨xo, xc, rfl⟩ := e2.shape
      have E2 := Lib.hid e2
      rw [HNX.out] at E2 ⊢
      clear b2 e2 O1 B1 Y1 OF2 d0 d1
      clear O2 Y2 E2
      go_wp2
      exact bodyPost_ret (v := .tuple #[.slice none 0 0, .int .i64 2]) (by simp [results, Tryz.results15, go_sem]) rfl ⟨_, rfl, Seq.nil _ _, B2.out⟩
  rw [if_pos hk] at HE
  obtain ⟨kk, rfl⟩ : ∃ j : Nat, k = (j : Int) := ⟨k.toNat, by omega⟩
  rw [Int.toNat_natCast] at HE HL
  have hkk : kk ≤ nx := by omega
  have q1 : decide ((kk : Int) < 0) = false := decide_eq_false (by omega)
  have q2 : decide ((nx : Int) < (kk : Int)) = false := decide_eq_false (by omega)
  have q3 : decide (nx < kk) = false := decide_eq_false (by omega)
  clear hk
  by_cases hf : f = 0
  rotate_left
  · obtain rfl : ie = f := by rw [HE.out, if_neg hf]
    obtain rfl : il = [] := by rw [HL.out, if_neg hf]
    have t1 : (ie != 0) = true := by simpa using hf
    have t2 : decide (ie = 0) = false := decide_eq_false hf
    clear HE HL LF2 TY LT
    have d0 := cell_of_row _ _ 0 _ _ _ Y0.out
    have d1 := cell_of_row _ _ 1 _ _ _ Y0.out
    go_enter Tryz.func15, Tryz.ntmps15
    go_wp2_with fail
    rw [← HW.out]
    refine AK2.out.mono ?_
    rintro e w1 ⟨v1, rfl, o1, b1⟩
    have B1 := Lib.hid (bt B0.out b1)
    have Y1 := Lib.hid (blk_below b1 Y0.out)
    have O1 := Lib.hid o1
    clear b1 o1 Y0 B0 HW AK2 d0 d1
    have d0 := cell_of_row _ _ 0 _ _ _ Y1.out
    have d1 := cell_of_row _ _ 1 _ _ _ Y1.out
    go_wp2_with fail
    refine (OF2.out _ _ B1.out O1.out).mono ?_
    rintro e w2 ⟨v2, rfl, e2, b2⟩
    have B2 := Lib.hid (bt B1.out b2)
    have Y2 := Lib.hid (blk_below b2 Y1.out)
    have O2 := Lib.hid (O1.out.keeps b2)
    obtain ⟨xo, xc, rfl⟩ := e2.shape
    have E2 := Lib.hid e2
    rw [HNX.out] at E2 ⊢
    clear b2 e2 O1 B1 Y1 OF2 d0 d1
    go_wp2_with fail
    refine (PT.out _).mono ?_
    rintro e w3 ⟨po, pc, rfl, p3, b3⟩
    rw [HNC.out] at p3 ⊢
    have B3 := Lib.hid (bt B2.out b3)
    have Y3 := Lib.hid (blk_below b3 Y2.out)
    have O3 := Lib.hid (O2.out.keeps b3)
    have E3 := Lib.hid (E2.out.keeps b3)
    have P3 : Hid (Ints w3 (.slice po nc pc) cs) := Ints.own p3
    clear b3 p3 O2 E2 B2 Y2 PT
    clear O3 Y3 E3 P3
    go_wp2
    exact bodyPost_ret (v := .tuple #[.slice none 0 0, .int .i64 ie]) (by simp [results, Tryz.results15, go_sem]) rfl ⟨_, rfl, Seq.nil _ _, B3.out⟩
  subst hf
  rw [if_pos rfl] at HE
  have TY2 := Lib.hid (TY.out rfl)
  clear TY
  by_cases h1 : nc = 0
  · have hcs : cs = [] := List.length_eq_zero_iff.1 (by rw [HNC.out]; exact h1)
    obtain rfl : ie = 2 := by rw [HE.out, if_pos hcs]
    obtain rfl : il = [] := by rw [HL.out, if_neg (by decide)]
    subst h1
    clear HE HL LF2 TY2 LT hcs
    have d0 := cell_of_row _ _ 0 _ _ _ Y0.out
    have d1 := cell_of_row _ _ 1 _ _ _ Y0.out
    go_enter Tryz.func15, Tryz.ntmps15
    go_wp2_with fail
    rw [← HW.out]
    refine AK2.out.mono ?_
    rintro e w1 ⟨v1, rfl, o1, b1⟩
    have B1 := Lib.hid (bt B0.out b1)
    have Y1 := Lib.hid (blk_below b1 Y0.out)
    have O1 := Lib.hid o1
    clear b1 o1 Y0 B0 HW AK2 d0 d1
    have d0 := cell_of_row _ _ 0 _ _ _ Y1.out
    have d1 := cell_of_row _ _ 1 _ _ _ Y1.out
    go_wp2_with fail
    refine (OF2.out _ _ B1.out O1.out).mono ?_
    rintro e w2 ⟨v2, rfl, e2, b2⟩
    have B2 := Lib.hid (bt B1.out b2)
    have Y2 := Lib.hid (blk_below b2 Y1.out)
    have O2 := Lib.hid (O1.out.keeps b2)
    obtain ⟨xo, xc, rfl⟩ := e2.shape
    have E2 := Lib.hid e2
    rw [HNX.out] at E2 ⊢
    clear b2 e2 O1 B1 Y1 OF2 d0 d1
    go_wp2_with fail
    refine (PT.out _).mono ?_
    rintro e w3 ⟨po, pc, rfl, p3, b3⟩
    rw [HNC.out] at p3 ⊢
    have B3 := Lib.hid (bt B2.out b3)
    have Y3 := Lib.hid (blk_below b3 Y2.out)
    have O3 := Lib.hid (O2.out.keeps b3)
    have E3 := Lib.hid (E2.out.keeps b3)
    have P3 : Hid (Ints w3 (.slice po 0 pc) cs) := Ints.own p3
    clear b3 p3 O2 E2 B2 Y2 PT
    clear O3 Y3 E3 P3
    go_wp2
    exact bodyPost_ret (v := .tuple #[.slice none 0 0, .int .i64 2]) (by simp [results, Tryz.results15, go_sem]) rfl ⟨_, rfl, Seq.nil _ _, B3.out⟩
  have t1 : ((nc : Int) == 0) = false := by simp; omega
  have t1' : decide ((nc : Int) = 0) = false := decide_eq_false (by omega)
  have t1n : (nc == 0) = false := by simpa using h1
  rw [if_neg (fun h => h1 (by rw [← HNC.out, h]; rfl))] at HE
  by_cases h2 : 64 < nc
  · obtain rfl : ie = 4 := by rw [HE.out, if_pos h2]
    obtain rfl : il = [] := by rw [HL.out, if_neg (by decide)]
    have t2 : decide (64 < nc) = true := decide_eq_true h2
    have t3 : decide ((64 : Int) < (nc : Int)) = true := decide_eq_true (by omega)
    clear HE HL LF2 TY2 LT
    have d0 := cell_of_row _ _ 0 _ _ _ Y0.out
    have d1 := cell_of_row _ _ 1 _ _ _ Y0.out
    go_enter Tryz.func15, Tryz.ntmps15
    go_wp2_with fail
    rw [← HW.out]
    refine AK2.out.mono ?_
    rintro e w1 ⟨v1, rfl, o1, b1⟩
    have B1 := Lib.hid (bt B0.out b1)
    have Y1 := Lib.hid (blk_below b1 Y0.out)
    have O1 := Lib.hid o1
    clear b1 o1 Y0 B0 HW AK2 d0 d1
    have d0 := cell_of_row _ _ 0 _ _ _ Y1.out
    have d1 := cell_of_row _ _ 1 _ _ _ Y1.out
    go_wp2_with fail
    refine (OF2.out _ _ B1.out O1.out).mono ?_
    rintro e w2 ⟨v2, rfl, e2, b2⟩
    have B2 := Lib.hid (bt B1.out b2)
    have Y2 := Lib.hid (blk_below b2 Y1.out)
    have O2 := Lib.hid (O1.out.keeps b2)
    obtain ⟨xo, xc, rfl⟩ := e2.shape
    have E2 := Lib.hid e2
    rw [HNX.out] at E2 ⊢
    clear b2 e2 O1 B1 Y1 OF2 d0 d1
    go_wp2_with fail
    refine (PT.out _).mono ?_
    rintro e w3 ⟨po, pc, rfl, p3, b3⟩
    rw [HNC.out] at p3 ⊢
    have B3 := Lib.hid (bt B2.out b3)
    have Y3 := Lib.hid (blk_below b3 Y2.out)
    have O3 := Lib.hid (O2.out.keeps b3)
    have E3 := Lib.hid (E2.out.keeps b3)
    have P3 : Hid (Ints w3 (.slice po nc pc) cs) := Ints.own p3
    clear b3 p3 O2 E2 B2 Y2 PT
    clear O3 Y3 E3 P3
    go_wp2
    exact bodyPost_ret (v := .tuple #[.slice none 0 0, .int .i64 4]) (by simp [results, Tryz.results15, go_sem]) rfl ⟨_, rfl, Seq.nil _ _, B3.out⟩
  have t2 : decide (64 < nc) = false := decide_eq_false h2
  have t3 : decide ((64 : Int) < (nc : Int)) = false := decide_eq_false (by omega)
  rw [if_neg h2] at HE
  by_cases h3 : 1073741824 < t + nc
  · obtain rfl : ie = 50 := by rw [HE.out, if_pos h3]
    obtain rfl : il = [] := by rw [HL.out, if_neg (by decide)]
    have LT2 : Hid (∀ W : World, Calls Tryz.prog 46 #[.int .u32 (t : Int), .int .i64 (nc : Int)] W fun e w' => e = .returned (.bool true) ∧ w' = W) := fun W => by
      have := LT.out W nc (by omega)
      rwa [decide_eq_true h3] at this
    clear HE HL LF2 TY2 LT
    have d0 := cell_of_row _ _ 0 _ _ _ Y0.out
    have d1 := cell_of_row _ _ 1 _ _ _ Y0.out
    go_enter Tryz.func15, Tryz.ntmps15
    go_wp2_with fail
    rw [← HW.out]
    refine AK2.out.mono ?_
    rintro e w1 ⟨v1, rfl, o1, b1⟩
    have B1 := Lib.hid (bt B0.out b1)
    have Y1 := Lib.hid (blk_below b1 Y0.out)
    have O1 := Lib.hid o1
    clear b1 o1 Y0 B0 HW AK2 d0 d1
    have d0 := cell_of_row _ _ 0 _ _ _ Y1.out
    have d1 := cell_of_row _ _ 1 _ _ _ Y1.out
    go_wp2_with fail
    refine (OF2.out _ _ B1.out O1.out).mono ?_
    rintro e w2 ⟨v2, rfl, e2, b2⟩
    have B2 := Lib.hid (bt B1.out b2)
    have Y2 := Lib.hid (blk_below b2 Y1.out)
    have O2 := Lib.hid (O1.out.keeps b2)
    obtain ⟨xo, xc, rfl⟩ := e2.shape
    have E2 := Lib.hid e2
    rw [HNX.out] at E2 ⊢
    clear b2 e2 O1 B1 Y1 OF2 d0 d1
    go_wp2_with fail
    refine (PT.out _).mono ?_
    rintro e w3 ⟨po, pc, rfl, p3, b3⟩
    rw [HNC.out] at p3 ⊢
    have B3 := Lib.hid (bt B2.out b3)
    have Y3 := Lib.hid (blk_below b3 Y2.out)
    have O3 := Lib.hid (O2.out.keeps b3)
    have E3 := Lib.hid (E2.out.keeps b3)
    have P3 : Hid (Ints w3 (.slice po nc pc) cs) := Ints.own p3
    clear b3 p3 O2 E2 B2 Y2 PT
    go_wp2_with fail
    refine (LT2.out _).mono ?_
    rintro e w4 ⟨rfl, rfl⟩
    clear LT2
    clear O3 Y3 E3 P3
    go_wp2
    exact bodyPost_ret (v := .tuple #[.slice none 0 0, .int .i64 50]) (by simp [results, Tryz.results15, go_sem]) rfl ⟨_, rfl, Seq.nil _ _, B3.out⟩
  rw [if_neg h3] at HE
  have LT2 : Hid (∀ W : World, Calls Tryz.prog 46 #[.int .u32 (t : Int), .int .i64 (nc : Int)] W fun e w' => e = .returned (.bool false) ∧ w' = W) := fun W => by
    have := LT.out W nc (by omega)
    rwa [decide_eq_false h3] at this
  obtain ⟨R, q, hR⟩ : ∃ R q, typed (LP kk) r t cs = (R, q) := ⟨_, _, rfl⟩
  have TY3 : Hid (∀ (W : World) (y u : Value), Runs W y (LP kk) → Ints W u cs → Calls Tryz.prog 47 #[y, .int .u8 (r : Int), .int .u32 (t : Int), u] W fun e w' => ∃ v', e = .returned (.tuple #[v', .bool q]) ∧ OwnL w' W.heap.size v' (if q = true then R else []) ∧ Below W.heap.size W w') := fun W y u hy hu => by
    have := TY2.out W y u (LP kk) hy hu (by omega) (by omega)
    simp only [hR] at this
    exact this
  simp only [hR] at HE HL
  clear LT TY2 hR
  cases q
  · obtain rfl : ie = 60 := by rw [HE.out, if_neg (by simp)]
    obtain rfl : il = [] := by rw [HL.out, if_neg (by decide)]
    rw [if_neg (by simp)] at TY3
    clear HE HL
    have d0 := cell_of_row _ _ 0 _ _ _ Y0.out
    have d1 := cell_of_row _ _ 1 _ _ _ Y0.out
    go_enter Tryz.func15, Tryz.ntmps15
    go_wp2_with fail
    rw [← HW.out]
    refine AK2.out.mono ?_
    rintro e w1 ⟨v1, rfl, o1, b1⟩
    have B1 := Lib.hid (bt B0.out b1)
    have Y1 := Lib.hid (blk_below b1 Y0.out)
    have O1 := Lib.hid o1
    clear b1 o1 Y0 B0 HW AK2 d0 d1
    have d0 := cell_of_row _ _ 0 _ _ _ Y1.out
    have d1 := cell_of_row _ _ 1 _ _ _ Y1.out
    go_wp2_with fail
    refine (OF2.out _ _ B1.out O1.out).mono ?_
    rintro e w2 ⟨v2, rfl, e2, b2⟩
    have B2 := Lib.hid (bt B1.out b2)
    have Y2 := Lib.hid (blk_below b2 Y1.out)
    have O2 := Lib.hid (O1.out.keeps b2)
    obtain ⟨xo, xc, rfl⟩ := e2.shape
    have E2 := Lib.hid e2
    rw [HNX.out] at E2 ⊢
    clear b2 e2 O1 B1 Y1 OF2 d0 d1
    go_wp2_with fail
    refine (PT.out _).mono ?_
    rintro e w3 ⟨po, pc, rfl, p3, b3⟩
    rw [HNC.out] at p3 ⊢
    have B3 := Lib.hid (bt B2.out b3)
    have Y3 := Lib.hid (blk_below b3 Y2.out)
    have O3 := Lib.hid (O2.out.keeps b3)
    have E3 := Lib.hid (E2.out.keeps b3)
    have P3 : Hid (Ints w3 (.slice po nc pc) cs) := Ints.own p3
    clear b3 p3 O2 E2 B2 Y2 PT
    go_wp2_with fail
    refine (LT2.out _).mono ?_
    rintro e w4 ⟨rfl, rfl⟩
    clear LT2
    have d0 := cell_of_row _ _ 0 _ _ _ Y3.out
    have d1 := cell_of_row _ _ 1 _ _ _ Y3.out
    go_wp2_with fail
    refine (LF2.out _ _ _ _ (by omega) O3.out E3.out).mono ?_
    rintro e w5 ⟨v5, rfl, r5, b5⟩
    have B5 := Lib.hid (bt B3.out b5)
    have P5 := Lib.hid (P3.out.keeps b5)
    have R5 := Lib.hid r5
    clear b5 r5 O3 E3 P3 B3 Y3 LF2 d0 d1
    go_wp2_with fail
    refine (TY3.out _ _ _ R5.out P5.out).mono ?_
    rintro e w6 ⟨v6, rfl, o6, b6⟩
    have B6 := Lib.hid (bt B5.out b6)
    have O6 := Lib.hid o6.opl
    clear b6 o6 R5 P5 B5 TY3
    clear O6
    go_wp2
    exact bodyPost_ret (v := .tuple #[.slice none 0 0, .int .i64 60]) (by simp [results, Tryz.results15, go_sem]) rfl ⟨_, rfl, Seq.nil _ _, B6.out⟩
  · obtain rfl : ie = 0 := by rw [HE.out, if_pos rfl]
    obtain rfl : il = R := by rw [HL.out, if_pos rfl]
    rw [if_pos rfl] at TY3
    clear HE HL
    have d0 := cell_of_row _ _ 0 _ _ _ Y0.out
    have d1 := cell_of_row _ _ 1 _ _ _ Y0.out
    go_enter Tryz.func15, Tryz.ntmps15
    go_wp2_with fail
    rw [← HW.out]
    refine AK2.out.mono ?_
    rintro e w1 ⟨v1, rfl, o1, b1⟩
    have B1 := Lib.hid (bt B0.out b1)
    have Y1 := Lib.hid (blk_below b1 Y0.out)
    have O1 := Lib.hid o1
    clear b1 o1 Y0 B0 HW AK2 d0 d1
    have d0 := cell_of_row _ _ 0 _ _ _ Y1.out
    have d1 := cell_of_row _ _ 1 _ _ _ Y1.out
    go_wp2_with fail
    refine (OF2.out _ _ B1.out O1.out).mono ?_
    rintro e w2 ⟨v2, rfl, e2, b2⟩
    have B2 := Lib.hid (bt B1.out b2)
    have Y2 := Lib.hid (blk_below b2 Y1.out)
    have O2 := Lib.hid (O1.out.keeps b2)
    obtain ⟨xo, xc, rfl⟩ := e2.shape
    have E2 := Lib.hid e2
    rw [HNX.out] at E2 ⊢
    clear b2 e2 O1 B1 Y1 OF2 d0 d1
    go_wp2_with fail
    refine (PT.out _).mono ?_
    rintro e w3 ⟨po, pc, rfl, p3, b3⟩
    rw [HNC.out] at p3 ⊢
    have B3 := Lib.hid (bt B2.out b3)
    have Y3 := Lib.hid (blk_below b3 Y2.out)
    have O3 := Lib.hid (O2.out.keeps b3)
    have E3 := Lib.hid (E2.out.keeps b3)
    have P3 : Hid (Ints w3 (.slice po nc pc) cs) := Ints.own p3
    clear b3 p3 O2 E2 B2 Y2 PT
    go_wp2_with fail
    refine (LT2.out _).mono ?_
    rintro e w4 ⟨rfl, rfl⟩
    clear LT2
    have d0 := cell_of_row _ _ 0 _ _ _ Y3.out
    have d1 := cell_of_row _ _ 1 _ _ _ Y3.out
    go_wp2_with fail
    refine (LF2.out _ _ _ _ (by omega) O3.out E3.out).mono ?_
    rintro e w5 ⟨v5, rfl, r5, b5⟩
    have B5 := Lib.hid (bt B3.out b5)
    have P5 := Lib.hid (P3.out.keeps b5)
    have R5 := Lib.hid r5
    clear b5 r5 O3 E3 P3 B3 Y3 LF2 d0 d1
    go_wp2_with fail
    refine (TY3.out _ _ _ R5.out P5.out).mono ?_
    rintro e w6 ⟨v6, rfl, o6, b6⟩
    have B6 := Lib.hid (bt B5.out b6)
    have O6 := Lib.hid o6.opl
    clear b6 o6 R5 P5 B5 TY3
    go_wp2
    exact bodyPost_ret (v := .tuple #[v6, .int .i64 0]) (by simp [results, Tryz.results15, go_sem]) rfl ⟨_, rfl, O6.out, B6.out⟩
end Go.Proofs.YtgjbnbojjgbmcaaGreat.Edits
