/- StampNext answers true, and changes nothing that was there. Conditions: the slice's cells are stamps. -/
import Derived.Test.YtpoheimcbfbkdaaStampNames
import Derived.Test.YtpoheimcbfbkdaaBlk
import Derived.Deep.QuietTactic
import Derived.BigQuiet
import Derived.Deep.DeepCutAuto
namespace Go.Proofs.Ytpoheimcbfbkdaa.Stamp
open Go.RowKit Flo
attribute [local go_sem ↓] Go.wp_at_zero Go.wp_at_succ
attribute [local go_sem] yielded_undef

theorem keepQ {wl w1 w2 : World} {h1 h2 o1 o2 : Nat} {c0 c1 d0 d1 : Value} (q : h1 < wl.heap.size ∧ wl.cell? ⟨h1, o1, none⟩ = some c0 ∧ wl.cell? ⟨h1, o2, none⟩ = some c1) (p2 : Pair wl h2 d0 d1) (h : Below w1.heap.size w1 w2) (hb : Below wl.heap.size wl w1) :
    Below wl.heap.size wl w2 ∧ w2.cell? ⟨h1, o1, none⟩ = some c0 ∧ w2.cell? ⟨h1, o2, none⟩ = some c1 ∧ w2.cell? ⟨h2, 0, none⟩ = some d0 ∧ w2.cell? ⟨h2, 1, none⟩ = some d1 :=
  have b := bt hb h
  ⟨b, (b.cell (p := ⟨h1, o1, none⟩) q.1).trans q.2.1, (b.cell (p := ⟨h1, o2, none⟩) q.1).trans q.2.2, (p2.keeps b).2.1, (p2.keeps b).2.2⟩

/-- Is the time next to one of them, or the first? -/
def near (l : List Id) (k : Nat) : Bool := decide (top l = 0 ∨ ∃ i, i < k ∧ (l.getD i zid).t = top l)
theorem near_succ (l : List Id) (k : Nat) : near l (k + 1) = (near l k || decide ((l.getD k zid).t = top l)) := by
  unfold near
  rw [Bool.eq_iff_iff]
  simp only [Bool.or_eq_true, decide_eq_true_eq]
  constructor
  · rintro (h | ⟨i, h1, h2⟩)
    · exact .inl (.inl h)
    · by_cases hi : i = k
      · exact .inr (by rw [← hi]; exact h2)
      · exact .inl (.inr ⟨i, by omega, h2⟩)
  · rintro ((h | ⟨i, h1, h2⟩) | h)
    · exact .inl h
    · exact .inr ⟨i, by omega, h2⟩
    · exact .inr ⟨k, by omega, h⟩
theorem near_all (l : List Id) : near l l.length = true := by
  unfold near
  rw [decide_eq_true_eq]
  by_cases h : top l = 0
  · exact .inl h
  · exact .inr (top_is l h)
theorem near_zero (l : List Id) : near l 0 = decide (top l = 0) := by simp [near]

set_option maxHeartbeats 4000000 in
theorem nextLaw_bad (r : Nat) (hr : r < 256) (ao : Option Addr) (cap : Nat) (l : List Id) (w : World) (hv : Ids w (.slice ao l.length cap) l) (hbad : ∃ c, next r l = (0, 0, c) ∧ c ≠ 0) :
    Calls Try.prog 6 #[.int .u8 (r : Int), .slice ao l.length cap] w fun e w' => e = .returned (.bool true) ∧ Below w.heap.size w w' := by
  obtain ⟨c, hc, hc0⟩ := hbad
  obtain ⟨n, hn⟩ : ∃ n, n = l.length := ⟨_, rfl⟩
  have K5 : Hid (∀ (W : World) (v : Value), Ids W v l → Calls Try.prog 7 #[.int .u8 (r : Int), v] W fun e w' => e = .returned (.tuple #[.agg #[.int .u32 0, .int .u8 0], .int .i64 c]) ∧ Below W.heap.size W w') := fun W v h => next_is hr (t := 0) (s := 0) hc h
  have HV := Lib.hid hv
  have HN := Lib.hid hn
  rw [← hn]
  clear hv hn hc
  have t3 : (c != 0) = true := by simpa using hc0
  by_cases h1 : 1000 < n
  · have t1 : decide ((1000 : Int) < (n : Int)) = true := decide_eq_true (by omega)
    have t2 : decide (1000 < n) = true := decide_eq_true h1
    go_enter Try.func6, Try.ntmps6
    go_wp2_with fail
    refine (alive_any _).mono ?_
    rintro e w1 ⟨rfl, b1⟩
    go_wp2
    go_ret
    exact ⟨rfl, b1⟩
  · have t1 : decide ((1000 : Int) < (n : Int)) = false := decide_eq_false (by omega)
    have t2 : decide (1000 < n) = false := decide_eq_false h1
    go_enter Try.func6, Try.ntmps6
    go_wp2_with fail
    refine (alive_any _).mono ?_
    rintro e w1 ⟨rfl, b1⟩
    have V1 : Hid (Ids w1 (.slice ao n cap) l) := by
      have := HV.out.keeps b1
      rwa [← HN.out] at this
    go_wp2_with fail
    refine (K5.out _ _ V1.out).mono ?_
    rintro e w2 ⟨rfl, b2⟩
    have B2 := Lib.hid ((bt b1 b2).alloc (bt b1 b2).size (.cells #[.int .u32 0, .int .u8 0] 24))
    clear b1 b2 V1
    go_wp2
    go_ret
    exact ⟨rfl, B2.out⟩

theorem ids_two {w : World} {base : Nat} {e : TypeId} {v : Value} {n : Nat} {l m : List Id} (o : w.ownsRow base e 2 v n ([] ++ ids l ++ ids m)) : Ids w v (l ++ m) := by
  rw [List.nil_append, ← ids_append] at o
  exact Ids.own o

set_option maxRecDepth 100000 in
set_option maxHeartbeats 4000000 in
theorem nextLaw_ok (r : Nat) (hr : r < 8) (ao : Option Addr) (cap : Nat) (l : List Id) (w : World) (hv : Ids w (.slice ao l.length cap) l) (h1024 : ¬ 1024 < l.length) (hf : Fine l) (htop : top l ≠ 1073741824) :
    Calls Try.prog 6 #[.int .u8 (r : Int), .slice ao l.length cap] w fun e w' => e = .returned (.bool true) ∧ Below w.heap.size w w' := by
  obtain ⟨n, hn⟩ : ∃ n, n = l.length := ⟨_, rfl⟩
  obtain ⟨p, hp⟩ : ∃ p, p = top l + 1 := ⟨_, rfl⟩
  have hpt := top_fine hf
  have hpb : 1 ≤ p ∧ p ≤ 1073741824 := by omega
  have K5 : Hid (∀ (W : World) (v : Value), Ids W v l → Calls Try.prog 7 #[.int .u8 (r : Int), v] W fun e w' => e = .returned (.tuple #[.agg #[.int .u32 (p : Int), .int .u8 (r : Int)], .int .i64 0]) ∧ Below W.heap.size W w') := fun W v h => next_is (by omega) (t := p) (s := r) (by rw [next_ok h1024 (by omega) hf htop, hp]) h
  have HV := Lib.hid hv
  have HN := Lib.hid hn
  have HP := Lib.hid hp
  have HF := Lib.hid hf
  rw [← hn] at h1024 ⊢
  clear hv hn
  by_cases h1 : 1000 < n
  · have t1 : decide ((1000 : Int) < (n : Int)) = true := decide_eq_true (by omega)
    have t2 : decide (1000 < n) = true := decide_eq_true h1
    go_enter Try.func6, Try.ntmps6
    go_wp2_with fail
    refine (alive_any _).mono ?_
    rintro e w1 ⟨rfl, b1⟩
    go_wp2
    go_ret
    exact ⟨rfl, b1⟩
  have t1 : decide ((1000 : Int) < (n : Int)) = false := decide_eq_false (by omega)
  have t2 : decide (1000 < n) = false := decide_eq_false h1
  obtain ⟨nr, hnr⟩ : ∃ nr, nr = near l 0 := ⟨_, rfl⟩
  have t3 : ((p : Int) == 1) = nr := by
    rw [hnr, near_zero, Bool.eq_iff_iff]; simp; omega
  have t4 : decide (p = 1) = nr := by
    rw [hnr, near_zero, Bool.eq_iff_iff]; simp; omega
  have HNR := Lib.hid hnr
  clear hnr hp hf hpt
  go_enter Try.func6, Try.ntmps6
  go_wp2_with fail
  refine (alive_any _).mono ?_
  rintro e w1 ⟨rfl, b1⟩
  have V1 : Hid (Ids w1 (.slice ao n cap) l) := by
    have := HV.out.keeps b1
    rwa [← HN.out] at this
  go_wp2_with fail
  refine (K5.out _ _ V1.out).mono ?_
  rintro e w2 ⟨rfl, b2⟩
  have b2' := b2.alloc b2.size (.cells #[.int .u32 (p : Int), .int .u8 (r : Int)] 24)
  have B2 := Lib.hid (bt b1 b2')
  have V2 := Lib.hid (V1.out.keeps b2')
  have A2 := Lib.hid (pair_new w2 (.int .u32 (p : Int)) (.int .u8 (r : Int)) 24)
  clear b1 b2 b2' V1
  go_wp2_with fail
  go_loopw [8, 9] (fun nv i wr => ∃ (k : Nat) (b : Bool), k ≤ n ∧ i = .int .i64 (k : Int) ∧ nv = .bool b ∧ Hid (b = near l k) ∧ Hid (Below (w2.alloc (.cells #[.int .u32 (p : Int), .int .u8 (r : Int)] 24)).heap.size (w2.alloc (.cells #[.int .u32 (p : Int), .int .u8 (r : Int)] 24)) wr)) (fun _ i _ => n - (intOf i).toNat)
  case atStart => exact ⟨0, nr, by omega, rfl, rfl, HNR, Lib.hid (Below.refl _ _)⟩
  case round =>
    obtain ⟨k, nb, hk, rfl, rfl, hnb, hbel⟩ := hrel
    by_cases hkn : k < n
    · have q1 : decide (k < n) = true := by simpa using hkn
      have V3 := V2.out.keeps hbel.out
      have A3 := Lib.hid (A2.out.keeps hbel.out)
      obtain ⟨b, off, rfl, hb, hx0, hx1⟩ := V3.at k (by rw [← HN.out]; exact hkn)
      clear V3
      have hle := top_le l k (by rw [← HN.out]; exact hkn)
      have hns := near_succ l k
      obtain ⟨z, hz⟩ : ∃ z, z = l.getD k zid := ⟨_, rfl⟩
      rw [← hz] at hx0 hx1 hle hns
      rw [← hnb.out] at hns
      obtain ⟨t, s, ht, hs⟩ := z
      simp only at hx0 hx1 hle hns
      have HQ := Lib.hid (And.intro hb (And.intro hx0 hx1))
      have LZ := Lib.hid (less_lit t s p r true (less_iff.2 (by have := HP.out; omega)) ht hs (by omega) (by omega))
      have q2 : (0 : Int) ≤ (k : Int) := by omega
      have q3 : (k : Int) < (n : Int) := by omega
      have q4 : IntKind.u32.wrap ((p : Int) - 1) = (p : Int) - 1 := by rw [IntKind.wrap_u32]; omega
      have q5 : ((t : Int) == (p : Int) - 1) = decide (t = top l) := by
        rw [Bool.eq_iff_iff]; have := HP.out; simp; omega
      obtain ⟨tb, htb⟩ : ∃ tb, tb = decide (t = top l) := ⟨_, rfl⟩
      rw [← htb] at hns q5
      have HNS := Lib.hid hns
      clear hz hns htb hle hb hx0 hx1
      go_wp2
      go_region_held3 (fun w' => Below wr.heap.size wr w' ∧ w'.cell? ⟨b, off + k * 2, none⟩ = some (.int .u32 (t : Int)) ∧ w'.cell? ⟨b, off + k * 2 + 1, none⟩ = some (.int .u8 (s : Int)) ∧ w'.cell? ⟨w2.heap.size, 0, none⟩ = some (.int .u32 (p : Int)) ∧ w'.cell? ⟨w2.heap.size, 1, none⟩ = some (.int .u8 (r : Int)))
        (first | exact keepQ HQ.out A3.out (drew1 _) (Below.refl _ _) | (go_split_ands; exact keepQ HQ.out A3.out (drew1 _) (by assumption)) | (go_split_ands; exact keepQ HQ.out A3.out (by assumption) (by assumption)))
        ((first | (go_at_call 13; refine (LZ.out _).mono ?_; rintro e w4 ⟨rfl, b4⟩)))
      cases nb
      all_goals
        go_wp2_with fail
        go_split_ands
        have hS : Below wr.heap.size wr w4 := by assumption
        go_quiet (fail)
        go_wp2_with fail
        go_roundw
        case rel => exact ⟨k + 1, _, by omega, by go_num, rfl, Lib.hid (by rw [HNS.out]; simp), Lib.hid (below_draw (hbel.out.trans (hS.mono hbel.out.size)) _)⟩
        case measure => simp [intOf]; omega
    · have q1 : decide (k < n) = false := by simpa using hkn
      obtain rfl : k = n := by omega
      have hnt : nb = true := by rw [hnb.out, HN.out]; exact near_all l
      subst hnt
      have V3 := Lib.hid (V2.out.keeps hbel.out)
      have A3 := Lib.hid (A2.out.keeps hbel.out)
      have B3 := Lib.hid (bt B2.out hbel.out)
      clear V2 A2 B2 hbel hnb HV
      obtain ⟨_, x0, x1⟩ := A3.out
      go_wp2_with fail
      go_upto_region 14 with fail
      -- the next one again, above all of these and the first
      have hi : p < 4294967296 ∧ r < 256 := by omega
      obtain ⟨x, y, c, hnx⟩ : ∃ x y c, next r (l ++ [⟨p, r, hi.1, hi.2⟩]) = (x, y, c) := ⟨_, _, _, rfl⟩
      have K7 : Hid (∀ (W : World) (v : Value), Ids W v (l ++ [⟨p, r, hi.1, hi.2⟩]) → Calls Try.prog 7 #[.int .u8 (r : Int), v] W fun e w' => e = .returned (.tuple #[.agg #[.int .u32 (x : Int), .int .u8 (y : Int)], .int .i64 c]) ∧ Below W.heap.size W w') := fun W v h => next_is (by omega) hnx h
      have hk : k ≤ 1000 := by omega
      have VS : Hid (Sees wr (.slice ao k cap) 2 k (ids l)) := by
        have h := V3.out
        unfold Ids at h
        rwa [← HN.out] at h
      have HNX := Lib.hid hnx
      clear hnx x0 x1
      go_cut [10, 11] (fun pt f wx => ∃ g, pt = .pointer (some ⟨g, 0, none⟩) ∧ f = .int .i64 c ∧ Hid (Pair wx g (.int .u32 (x : Int)) (.int .u8 (y : Int))) ∧ Hid (Below wr.heap.size wr wx))
      case first =>
        go_region_held3 (fun w' => Below wr.heap.size wr w' ∧ w'.cell? ⟨w2.heap.size, 0, none⟩ = some (.int .u32 (p : Int)) ∧ w'.cell? ⟨w2.heap.size, 1, none⟩ = some (.int .u8 (r : Int)))
          (first | exact keepP1b A3.out (drew1 _) | (go_split_ands; refine keepP1b A3.out ?_; repeat' (first | assumption | exact Below.refl _ _ | (with_reducible refine Below.drew ?_) | (with_reducible refine Below.alloc ?_ ?_ _) | (with_reducible refine set_below ?_ ?_) | exact Nat.le_refl _ | (show (_ : Nat) ≤ _; omega) | (show (_ : Nat) ≤ _; simp; done) | (show (_ : Nat) ≤ _; simp; omega))))
          ((first
            | (refine step_append_at rfl (.tmp 62) (.tmp 63) 29 24 rfl Try.underlying29 id_info rfl (by decide) wr.heap.size (.slice (some ⟨wr.heap.size + 1 + 1, 0, none⟩) 0 0) 0 [] ?e1 (own_blk ?hge ?hbk) (.slice ao k cap) k (ids l) ?e2 (VS.out.keeps ?hb2) (ids_oneCell l) (by omega) (by omega) ?hb3 ?_
               case e1 => rfl
               case e2 => rfl
               case hge => first | exact Nat.le_refl _ | omega
               case hbk => repeat' (first | assumption | ((with_reducible refine blk_new ?_); (first | rfl | (simp; done))) | (with_reducible refine blk_drew ?_) | (with_reducible refine blk_old ?_))
               case hb2 => repeat' (first | assumption | exact Below.refl _ _ | (with_reducible refine Below.drew ?_) | (with_reducible refine Below.alloc ?_ ?_ _) | (with_reducible refine set_below ?_ ?_) | exact Nat.le_refl _ | (show (_ : Nat) ≤ _; omega) | (show (_ : Nat) ≤ _; simp; done) | (show (_ : Nat) ≤ _; simp; omega))
               case hb3 => (refine Below.size (?_ : Below wr.heap.size wr _); repeat' (first | assumption | exact Below.refl _ _ | (with_reducible refine Below.drew ?_) | (with_reducible refine Below.alloc ?_ ?_ _) | (with_reducible refine set_below ?_ ?_) | exact Nat.le_refl _ | (show (_ : Nat) ≤ _; omega) | (show (_ : Nat) ≤ _; simp; done) | (show (_ : Nat) ≤ _; simp; omega)))
               intro v5 w5 o5 g5 b5 l5
               try (refine hold (fun (_ : w5.heap[wr.heap.size]? = some (.cells #[.int .u32 (p : Int), .int .u8 (r : Int)] 24)) => hold (fun (_ : v5.ownBlock ≠ some (wr.heap.size)) => ?_) (row_ne (o := (.cells #[.int .u32 (p : Int), .int .u8 (r : Int)] 24)) l5 ?hn2 ?hx2)) (blk_grown g5 ?hn ?hx); (case hn => (simp only [Value.ownBlock, ne_eq, Option.some.injEq]; omega)); (case hx => repeat' (first | assumption | ((with_reducible refine blk_new ?_); (first | rfl | (simp; done))) | (with_reducible refine blk_drew ?_) | (with_reducible refine blk_old ?_))); (case hn2 => (simp only [Value.ownBlock, ne_eq, Option.some.injEq]; omega)); (case hx2 => repeat' (first | assumption | ((with_reducible refine blk_new ?_); (first | rfl | (simp; done))) | (with_reducible refine blk_drew ?_) | (with_reducible refine blk_old ?_))))
               try (refine hold (fun (_ : w5.heap[wr.heap.size]? = some (.cells #[.int .u32 0, .int .u8 0] 24)) => hold (fun (_ : v5.ownBlock ≠ some (wr.heap.size)) => ?_) (row_ne (o := (.cells #[.int .u32 0, .int .u8 0] 24)) l5 ?hn2 ?hx2)) (blk_grown g5 ?hn ?hx); (case hn => (simp only [Value.ownBlock, ne_eq, Option.some.injEq]; omega)); (case hx => repeat' (first | assumption | ((with_reducible refine blk_new ?_); (first | rfl | (simp; done))) | (with_reducible refine blk_drew ?_) | (with_reducible refine blk_old ?_))); (case hn2 => (simp only [Value.ownBlock, ne_eq, Option.some.injEq]; omega)); (case hx2 => repeat' (first | assumption | ((with_reducible refine blk_new ?_); (first | rfl | (simp; done))) | (with_reducible refine blk_drew ?_) | (with_reducible refine blk_old ?_))))
               try (refine hold (fun (_ : w5.heap[wr.heap.size + 1]? = some (.cells #[.int .u32 (p : Int), .int .u8 (r : Int)] 24)) => hold (fun (_ : v5.ownBlock ≠ some (wr.heap.size + 1)) => ?_) (row_ne (o := (.cells #[.int .u32 (p : Int), .int .u8 (r : Int)] 24)) l5 ?hn2 ?hx2)) (blk_grown g5 ?hn ?hx); (case hn => (simp only [Value.ownBlock, ne_eq, Option.some.injEq]; omega)); (case hx => repeat' (first | assumption | ((with_reducible refine blk_new ?_); (first | rfl | (simp; done))) | (with_reducible refine blk_drew ?_) | (with_reducible refine blk_old ?_))); (case hn2 => (simp only [Value.ownBlock, ne_eq, Option.some.injEq]; omega)); (case hx2 => repeat' (first | assumption | ((with_reducible refine blk_new ?_); (first | rfl | (simp; done))) | (with_reducible refine blk_drew ?_) | (with_reducible refine blk_old ?_))))
               try (refine hold (fun (_ : w5.heap[wr.heap.size + 1]? = some (.cells #[.int .u32 0, .int .u8 0] 24)) => hold (fun (_ : v5.ownBlock ≠ some (wr.heap.size + 1)) => ?_) (row_ne (o := (.cells #[.int .u32 0, .int .u8 0] 24)) l5 ?hn2 ?hx2)) (blk_grown g5 ?hn ?hx); (case hn => (simp only [Value.ownBlock, ne_eq, Option.some.injEq]; omega)); (case hx => repeat' (first | assumption | ((with_reducible refine blk_new ?_); (first | rfl | (simp; done))) | (with_reducible refine blk_drew ?_) | (with_reducible refine blk_old ?_))); (case hn2 => (simp only [Value.ownBlock, ne_eq, Option.some.injEq]; omega)); (case hx2 => repeat' (first | assumption | ((with_reducible refine blk_new ?_); (first | rfl | (simp; done))) | (with_reducible refine blk_drew ?_) | (with_reducible refine blk_old ?_))))
               refine hold (fun (hb5 : Below wr.heap.size wr w5) => ?_) (Below.trans ?hc b5)
               case hc => repeat' (first | assumption | exact Below.refl _ _ | (with_reducible refine Below.drew ?_) | (with_reducible refine Below.alloc ?_ ?_ _) | (with_reducible refine set_below ?_ ?_) | exact Nat.le_refl _ | (show (_ : Nat) ≤ _; omega) | (show (_ : Nat) ≤ _; simp; done) | (show (_ : Nat) ≤ _; simp; omega))
               have hs5 := Below.size hb5
               clear l5 g5 b5)
            | (refine step_append_at rfl (.tmp 62) (.tmp 63) 29 24 rfl Try.underlying29 id_info rfl (by decide) wr.heap.size (.slice (some ⟨wr.heap.size + 1, 0, none⟩) 0 0) 0 [] ?e1 (own_blk ?hge ?hbk) (.slice ao k cap) k (ids l) ?e2 (VS.out.keeps ?hb2) (ids_oneCell l) (by omega) (by omega) ?hb3 ?_
               case e1 => rfl
               case e2 => rfl
               case hge => first | exact Nat.le_refl _ | omega
               case hbk => repeat' (first | assumption | ((with_reducible refine blk_new ?_); (first | rfl | (simp; done))) | (with_reducible refine blk_drew ?_) | (with_reducible refine blk_old ?_))
               case hb2 => repeat' (first | assumption | exact Below.refl _ _ | (with_reducible refine Below.drew ?_) | (with_reducible refine Below.alloc ?_ ?_ _) | (with_reducible refine set_below ?_ ?_) | exact Nat.le_refl _ | (show (_ : Nat) ≤ _; omega) | (show (_ : Nat) ≤ _; simp; done) | (show (_ : Nat) ≤ _; simp; omega))
               case hb3 => (refine Below.size (?_ : Below wr.heap.size wr _); repeat' (first | assumption | exact Below.refl _ _ | (with_reducible refine Below.drew ?_) | (with_reducible refine Below.alloc ?_ ?_ _) | (with_reducible refine set_below ?_ ?_) | exact Nat.le_refl _ | (show (_ : Nat) ≤ _; omega) | (show (_ : Nat) ≤ _; simp; done) | (show (_ : Nat) ≤ _; simp; omega)))
               intro v5 w5 o5 g5 b5 l5
               try (refine hold (fun (_ : w5.heap[wr.heap.size]? = some (.cells #[.int .u32 (p : Int), .int .u8 (r : Int)] 24)) => hold (fun (_ : v5.ownBlock ≠ some (wr.heap.size)) => ?_) (row_ne (o := (.cells #[.int .u32 (p : Int), .int .u8 (r : Int)] 24)) l5 ?hn2 ?hx2)) (blk_grown g5 ?hn ?hx); (case hn => (simp only [Value.ownBlock, ne_eq, Option.some.injEq]; omega)); (case hx => repeat' (first | assumption | ((with_reducible refine blk_new ?_); (first | rfl | (simp; done))) | (with_reducible refine blk_drew ?_) | (with_reducible refine blk_old ?_))); (case hn2 => (simp only [Value.ownBlock, ne_eq, Option.some.injEq]; omega)); (case hx2 => repeat' (first | assumption | ((with_reducible refine blk_new ?_); (first | rfl | (simp; done))) | (with_reducible refine blk_drew ?_) | (with_reducible refine blk_old ?_))))
               try (refine hold (fun (_ : w5.heap[wr.heap.size]? = some (.cells #[.int .u32 0, .int .u8 0] 24)) => hold (fun (_ : v5.ownBlock ≠ some (wr.heap.size)) => ?_) (row_ne (o := (.cells #[.int .u32 0, .int .u8 0] 24)) l5 ?hn2 ?hx2)) (blk_grown g5 ?hn ?hx); (case hn => (simp only [Value.ownBlock, ne_eq, Option.some.injEq]; omega)); (case hx => repeat' (first | assumption | ((with_reducible refine blk_new ?_); (first | rfl | (simp; done))) | (with_reducible refine blk_drew ?_) | (with_reducible refine blk_old ?_))); (case hn2 => (simp only [Value.ownBlock, ne_eq, Option.some.injEq]; omega)); (case hx2 => repeat' (first | assumption | ((with_reducible refine blk_new ?_); (first | rfl | (simp; done))) | (with_reducible refine blk_drew ?_) | (with_reducible refine blk_old ?_))))
               try (refine hold (fun (_ : w5.heap[wr.heap.size + 1 + 1]? = some (.cells #[.int .u32 (p : Int), .int .u8 (r : Int)] 24)) => hold (fun (_ : v5.ownBlock ≠ some (wr.heap.size + 1 + 1)) => ?_) (row_ne (o := (.cells #[.int .u32 (p : Int), .int .u8 (r : Int)] 24)) l5 ?hn2 ?hx2)) (blk_grown g5 ?hn ?hx); (case hn => (simp only [Value.ownBlock, ne_eq, Option.some.injEq]; omega)); (case hx => repeat' (first | assumption | ((with_reducible refine blk_new ?_); (first | rfl | (simp; done))) | (with_reducible refine blk_drew ?_) | (with_reducible refine blk_old ?_))); (case hn2 => (simp only [Value.ownBlock, ne_eq, Option.some.injEq]; omega)); (case hx2 => repeat' (first | assumption | ((with_reducible refine blk_new ?_); (first | rfl | (simp; done))) | (with_reducible refine blk_drew ?_) | (with_reducible refine blk_old ?_))))
               try (refine hold (fun (_ : w5.heap[wr.heap.size + 1 + 1]? = some (.cells #[.int .u32 0, .int .u8 0] 24)) => hold (fun (_ : v5.ownBlock ≠ some (wr.heap.size + 1 + 1)) => ?_) (row_ne (o := (.cells #[.int .u32 0, .int .u8 0] 24)) l5 ?hn2 ?hx2)) (blk_grown g5 ?hn ?hx); (case hn => (simp only [Value.ownBlock, ne_eq, Option.some.injEq]; omega)); (case hx => repeat' (first | assumption | ((with_reducible refine blk_new ?_); (first | rfl | (simp; done))) | (with_reducible refine blk_drew ?_) | (with_reducible refine blk_old ?_))); (case hn2 => (simp only [Value.ownBlock, ne_eq, Option.some.injEq]; omega)); (case hx2 => repeat' (first | assumption | ((with_reducible refine blk_new ?_); (first | rfl | (simp; done))) | (with_reducible refine blk_drew ?_) | (with_reducible refine blk_old ?_))))
               refine hold (fun (hb5 : Below wr.heap.size wr w5) => ?_) (Below.trans ?hc b5)
               case hc => repeat' (first | assumption | exact Below.refl _ _ | (with_reducible refine Below.drew ?_) | (with_reducible refine Below.alloc ?_ ?_ _) | (with_reducible refine set_below ?_ ?_) | exact Nat.le_refl _ | (show (_ : Nat) ≤ _; omega) | (show (_ : Nat) ≤ _; simp; done) | (show (_ : Nat) ≤ _; simp; omega))
               have hs5 := Below.size hb5
               clear l5 g5 b5)
            | (refine step_append_at rfl (.tmp 62) (.tmp 63) 29 24 rfl Try.underlying29 id_info rfl (by decide) wr.heap.size (.slice (some ⟨wr.heap.size, 0, none⟩) 0 0) 0 [] ?e1 (own_blk ?hge ?hbk) (.slice ao k cap) k (ids l) ?e2 (VS.out.keeps ?hb2) (ids_oneCell l) (by omega) (by omega) ?hb3 ?_
               case e1 => rfl
               case e2 => rfl
               case hge => first | exact Nat.le_refl _ | omega
               case hbk => repeat' (first | assumption | ((with_reducible refine blk_new ?_); (first | rfl | (simp; done))) | (with_reducible refine blk_drew ?_) | (with_reducible refine blk_old ?_))
               case hb2 => repeat' (first | assumption | exact Below.refl _ _ | (with_reducible refine Below.drew ?_) | (with_reducible refine Below.alloc ?_ ?_ _) | (with_reducible refine set_below ?_ ?_) | exact Nat.le_refl _ | (show (_ : Nat) ≤ _; omega) | (show (_ : Nat) ≤ _; simp; done) | (show (_ : Nat) ≤ _; simp; omega))
               case hb3 => (refine Below.size (?_ : Below wr.heap.size wr _); repeat' (first | assumption | exact Below.refl _ _ | (with_reducible refine Below.drew ?_) | (with_reducible refine Below.alloc ?_ ?_ _) | (with_reducible refine set_below ?_ ?_) | exact Nat.le_refl _ | (show (_ : Nat) ≤ _; omega) | (show (_ : Nat) ≤ _; simp; done) | (show (_ : Nat) ≤ _; simp; omega)))
               intro v5 w5 o5 g5 b5 l5
               try (refine hold (fun (_ : w5.heap[wr.heap.size + 1]? = some (.cells #[.int .u32 (p : Int), .int .u8 (r : Int)] 24)) => hold (fun (_ : v5.ownBlock ≠ some (wr.heap.size + 1)) => ?_) (row_ne (o := (.cells #[.int .u32 (p : Int), .int .u8 (r : Int)] 24)) l5 ?hn2 ?hx2)) (blk_grown g5 ?hn ?hx); (case hn => (simp only [Value.ownBlock, ne_eq, Option.some.injEq]; omega)); (case hx => repeat' (first | assumption | ((with_reducible refine blk_new ?_); (first | rfl | (simp; done))) | (with_reducible refine blk_drew ?_) | (with_reducible refine blk_old ?_))); (case hn2 => (simp only [Value.ownBlock, ne_eq, Option.some.injEq]; omega)); (case hx2 => repeat' (first | assumption | ((with_reducible refine blk_new ?_); (first | rfl | (simp; done))) | (with_reducible refine blk_drew ?_) | (with_reducible refine blk_old ?_))))
               try (refine hold (fun (_ : w5.heap[wr.heap.size + 1]? = some (.cells #[.int .u32 0, .int .u8 0] 24)) => hold (fun (_ : v5.ownBlock ≠ some (wr.heap.size + 1)) => ?_) (row_ne (o := (.cells #[.int .u32 0, .int .u8 0] 24)) l5 ?hn2 ?hx2)) (blk_grown g5 ?hn ?hx); (case hn => (simp only [Value.ownBlock, ne_eq, Option.some.injEq]; omega)); (case hx => repeat' (first | assumption | ((with_reducible refine blk_new ?_); (first | rfl | (simp; done))) | (with_reducible refine blk_drew ?_) | (with_reducible refine blk_old ?_))); (case hn2 => (simp only [Value.ownBlock, ne_eq, Option.some.injEq]; omega)); (case hx2 => repeat' (first | assumption | ((with_reducible refine blk_new ?_); (first | rfl | (simp; done))) | (with_reducible refine blk_drew ?_) | (with_reducible refine blk_old ?_))))
               try (refine hold (fun (_ : w5.heap[wr.heap.size + 1 + 1]? = some (.cells #[.int .u32 (p : Int), .int .u8 (r : Int)] 24)) => hold (fun (_ : v5.ownBlock ≠ some (wr.heap.size + 1 + 1)) => ?_) (row_ne (o := (.cells #[.int .u32 (p : Int), .int .u8 (r : Int)] 24)) l5 ?hn2 ?hx2)) (blk_grown g5 ?hn ?hx); (case hn => (simp only [Value.ownBlock, ne_eq, Option.some.injEq]; omega)); (case hx => repeat' (first | assumption | ((with_reducible refine blk_new ?_); (first | rfl | (simp; done))) | (with_reducible refine blk_drew ?_) | (with_reducible refine blk_old ?_))); (case hn2 => (simp only [Value.ownBlock, ne_eq, Option.some.injEq]; omega)); (case hx2 => repeat' (first | assumption | ((with_reducible refine blk_new ?_); (first | rfl | (simp; done))) | (with_reducible refine blk_drew ?_) | (with_reducible refine blk_old ?_))))
               try (refine hold (fun (_ : w5.heap[wr.heap.size + 1 + 1]? = some (.cells #[.int .u32 0, .int .u8 0] 24)) => hold (fun (_ : v5.ownBlock ≠ some (wr.heap.size + 1 + 1)) => ?_) (row_ne (o := (.cells #[.int .u32 0, .int .u8 0] 24)) l5 ?hn2 ?hx2)) (blk_grown g5 ?hn ?hx); (case hn => (simp only [Value.ownBlock, ne_eq, Option.some.injEq]; omega)); (case hx => repeat' (first | assumption | ((with_reducible refine blk_new ?_); (first | rfl | (simp; done))) | (with_reducible refine blk_drew ?_) | (with_reducible refine blk_old ?_))); (case hn2 => (simp only [Value.ownBlock, ne_eq, Option.some.injEq]; omega)); (case hx2 => repeat' (first | assumption | ((with_reducible refine blk_new ?_); (first | rfl | (simp; done))) | (with_reducible refine blk_drew ?_) | (with_reducible refine blk_old ?_))))
               refine hold (fun (hb5 : Below wr.heap.size wr w5) => ?_) (Below.trans ?hc b5)
               case hc => repeat' (first | assumption | exact Below.refl _ _ | (with_reducible refine Below.drew ?_) | (with_reducible refine Below.alloc ?_ ?_ _) | (with_reducible refine set_below ?_ ?_) | exact Nat.le_refl _ | (show (_ : Nat) ≤ _; omega) | (show (_ : Nat) ≤ _; simp; done) | (show (_ : Nat) ≤ _; simp; omega))
               have hs5 := Below.size hb5
               clear l5 g5 b5)
            | (refine step_append_at rfl (.tmp 64) (.tmp 66) 29 24 rfl Try.underlying29 id_info rfl (by decide) wr.heap.size v5 (0 + k) ([] ++ ids l) ?e1 (own_stays o5 ?hb1) (.slice (some ⟨wr.heap.size, 0, none⟩) 1 1) 1 (ids [⟨p, r, hi.1, hi.2⟩]) ?e2 (sees_blk (a := ⟨p, r, hi.1, hi.2⟩) (e := 24) ?hbk) (ids_oneCell _) (by omega) (by omega) ?hb3 ?_
               case e1 => rfl
               case e2 => rfl
               case hbk => repeat' (first | assumption | ((with_reducible refine blk_new ?_); (first | rfl | (simp; done))) | (with_reducible refine blk_drew ?_) | (with_reducible refine blk_old ?_))
               case hb1 => repeat' (first | assumption | exact Below.refl _ _ | (with_reducible refine Below.drew ?_) | (with_reducible refine Below.alloc ?_ ?_ _) | (with_reducible refine set_below ?_ ?_) | exact Nat.le_refl _ | (show (_ : Nat) ≤ _; omega) | (show (_ : Nat) ≤ _; simp; done) | (show (_ : Nat) ≤ _; simp; omega))
               case hb3 => (refine Below.size (?_ : Below wr.heap.size wr _); repeat' (first | assumption | exact Below.refl _ _ | (with_reducible refine Below.drew ?_) | (with_reducible refine Below.alloc ?_ ?_ _) | (with_reducible refine set_below ?_ ?_) | exact Nat.le_refl _ | (show (_ : Nat) ≤ _; omega) | (show (_ : Nat) ≤ _; simp; done) | (show (_ : Nat) ≤ _; simp; omega)))
               intro v6 w6 o6 g6 b6 l6
               try (refine hold (fun (_ : w6.heap[wr.heap.size]? = some (.cells #[.int .u32 0, .int .u8 0] 24)) => ?_) (blk_grown g6 ?hn ?hx); (case hn => first | assumption | ((refine row_ne_new o5 ?_); (first | exact Nat.le_refl _ | omega))); (case hx => repeat' (first | assumption | ((with_reducible refine blk_new ?_); (first | rfl | (simp; done))) | (with_reducible refine blk_drew ?_) | (with_reducible refine blk_old ?_))))
               try (refine hold (fun (_ : w6.heap[wr.heap.size + 1]? = some (.cells #[.int .u32 0, .int .u8 0] 24)) => ?_) (blk_grown g6 ?hn ?hx); (case hn => first | assumption | ((refine row_ne_new o5 ?_); (first | exact Nat.le_refl _ | omega))); (case hx => repeat' (first | assumption | ((with_reducible refine blk_new ?_); (first | rfl | (simp; done))) | (with_reducible refine blk_drew ?_) | (with_reducible refine blk_old ?_))))
               try (refine hold (fun (_ : w6.heap[wr.heap.size + 1 + 1]? = some (.cells #[.int .u32 0, .int .u8 0] 24)) => ?_) (blk_grown g6 ?hn ?hx); (case hn => first | assumption | ((refine row_ne_new o5 ?_); (first | exact Nat.le_refl _ | omega))); (case hx => repeat' (first | assumption | ((with_reducible refine blk_new ?_); (first | rfl | (simp; done))) | (with_reducible refine blk_drew ?_) | (with_reducible refine blk_old ?_))))
               try (refine hold (fun (_ : w6.heap[w5.heap.size]? = some (.cells #[.int .u32 0, .int .u8 0] 24)) => ?_) (blk_grown g6 ?hn ?hx); (case hn => first | assumption | ((refine row_ne_new o5 ?_); (first | exact Nat.le_refl _ | omega))); (case hx => repeat' (first | assumption | ((with_reducible refine blk_new ?_); (first | rfl | (simp; done))) | (with_reducible refine blk_drew ?_) | (with_reducible refine blk_old ?_))))
               try (refine hold (fun (_ : w6.heap[w5.heap.size + 1]? = some (.cells #[.int .u32 0, .int .u8 0] 24)) => ?_) (blk_grown g6 ?hn ?hx); (case hn => first | assumption | ((refine row_ne_new o5 ?_); (first | exact Nat.le_refl _ | omega))); (case hx => repeat' (first | assumption | ((with_reducible refine blk_new ?_); (first | rfl | (simp; done))) | (with_reducible refine blk_drew ?_) | (with_reducible refine blk_old ?_))))
               refine hold (fun (hb6 : Below wr.heap.size wr w6) => ?_) (Below.trans ?hc b6)
               case hc => repeat' (first | assumption | exact Below.refl _ _ | (with_reducible refine Below.drew ?_) | (with_reducible refine Below.alloc ?_ ?_ _) | (with_reducible refine set_below ?_ ?_) | exact Nat.le_refl _ | (show (_ : Nat) ≤ _; omega) | (show (_ : Nat) ≤ _; simp; done) | (show (_ : Nat) ≤ _; simp; omega))
               have I6 := ids_two o6
               have hs6 := Below.size hb6
               clear l6 g6 b6 o6)
            | (refine step_append_at rfl (.tmp 64) (.tmp 66) 29 24 rfl Try.underlying29 id_info rfl (by decide) wr.heap.size v5 (0 + k) ([] ++ ids l) ?e1 (own_stays o5 ?hb1) (.slice (some ⟨wr.heap.size + 1, 0, none⟩) 1 1) 1 (ids [⟨p, r, hi.1, hi.2⟩]) ?e2 (sees_blk (a := ⟨p, r, hi.1, hi.2⟩) (e := 24) ?hbk) (ids_oneCell _) (by omega) (by omega) ?hb3 ?_
               case e1 => rfl
               case e2 => rfl
               case hbk => repeat' (first | assumption | ((with_reducible refine blk_new ?_); (first | rfl | (simp; done))) | (with_reducible refine blk_drew ?_) | (with_reducible refine blk_old ?_))
               case hb1 => repeat' (first | assumption | exact Below.refl _ _ | (with_reducible refine Below.drew ?_) | (with_reducible refine Below.alloc ?_ ?_ _) | (with_reducible refine set_below ?_ ?_) | exact Nat.le_refl _ | (show (_ : Nat) ≤ _; omega) | (show (_ : Nat) ≤ _; simp; done) | (show (_ : Nat) ≤ _; simp; omega))
               case hb3 => (refine Below.size (?_ : Below wr.heap.size wr _); repeat' (first | assumption | exact Below.refl _ _ | (with_reducible refine Below.drew ?_) | (with_reducible refine Below.alloc ?_ ?_ _) | (with_reducible refine set_below ?_ ?_) | exact Nat.le_refl _ | (show (_ : Nat) ≤ _; omega) | (show (_ : Nat) ≤ _; simp; done) | (show (_ : Nat) ≤ _; simp; omega)))
               intro v6 w6 o6 g6 b6 l6
               try (refine hold (fun (_ : w6.heap[wr.heap.size]? = some (.cells #[.int .u32 0, .int .u8 0] 24)) => ?_) (blk_grown g6 ?hn ?hx); (case hn => first | assumption | ((refine row_ne_new o5 ?_); (first | exact Nat.le_refl _ | omega))); (case hx => repeat' (first | assumption | ((with_reducible refine blk_new ?_); (first | rfl | (simp; done))) | (with_reducible refine blk_drew ?_) | (with_reducible refine blk_old ?_))))
               try (refine hold (fun (_ : w6.heap[wr.heap.size + 1]? = some (.cells #[.int .u32 0, .int .u8 0] 24)) => ?_) (blk_grown g6 ?hn ?hx); (case hn => first | assumption | ((refine row_ne_new o5 ?_); (first | exact Nat.le_refl _ | omega))); (case hx => repeat' (first | assumption | ((with_reducible refine blk_new ?_); (first | rfl | (simp; done))) | (with_reducible refine blk_drew ?_) | (with_reducible refine blk_old ?_))))
               try (refine hold (fun (_ : w6.heap[wr.heap.size + 1 + 1]? = some (.cells #[.int .u32 0, .int .u8 0] 24)) => ?_) (blk_grown g6 ?hn ?hx); (case hn => first | assumption | ((refine row_ne_new o5 ?_); (first | exact Nat.le_refl _ | omega))); (case hx => repeat' (first | assumption | ((with_reducible refine blk_new ?_); (first | rfl | (simp; done))) | (with_reducible refine blk_drew ?_) | (with_reducible refine blk_old ?_))))
               try (refine hold (fun (_ : w6.heap[w5.heap.size]? = some (.cells #[.int .u32 0, .int .u8 0] 24)) => ?_) (blk_grown g6 ?hn ?hx); (case hn => first | assumption | ((refine row_ne_new o5 ?_); (first | exact Nat.le_refl _ | omega))); (case hx => repeat' (first | assumption | ((with_reducible refine blk_new ?_); (first | rfl | (simp; done))) | (with_reducible refine blk_drew ?_) | (with_reducible refine blk_old ?_))))
               try (refine hold (fun (_ : w6.heap[w5.heap.size + 1]? = some (.cells #[.int .u32 0, .int .u8 0] 24)) => ?_) (blk_grown g6 ?hn ?hx); (case hn => first | assumption | ((refine row_ne_new o5 ?_); (first | exact Nat.le_refl _ | omega))); (case hx => repeat' (first | assumption | ((with_reducible refine blk_new ?_); (first | rfl | (simp; done))) | (with_reducible refine blk_drew ?_) | (with_reducible refine blk_old ?_))))
               refine hold (fun (hb6 : Below wr.heap.size wr w6) => ?_) (Below.trans ?hc b6)
               case hc => repeat' (first | assumption | exact Below.refl _ _ | (with_reducible refine Below.drew ?_) | (with_reducible refine Below.alloc ?_ ?_ _) | (with_reducible refine set_below ?_ ?_) | exact Nat.le_refl _ | (show (_ : Nat) ≤ _; omega) | (show (_ : Nat) ≤ _; simp; done) | (show (_ : Nat) ≤ _; simp; omega))
               have I6 := ids_two o6
               have hs6 := Below.size hb6
               clear l6 g6 b6 o6)
            | (refine step_append_at rfl (.tmp 64) (.tmp 66) 29 24 rfl Try.underlying29 id_info rfl (by decide) wr.heap.size v5 (0 + k) ([] ++ ids l) ?e1 (own_stays o5 ?hb1) (.slice (some ⟨wr.heap.size + 1 + 1, 0, none⟩) 1 1) 1 (ids [⟨p, r, hi.1, hi.2⟩]) ?e2 (sees_blk (a := ⟨p, r, hi.1, hi.2⟩) (e := 24) ?hbk) (ids_oneCell _) (by omega) (by omega) ?hb3 ?_
               case e1 => rfl
               case e2 => rfl
               case hbk => repeat' (first | assumption | ((with_reducible refine blk_new ?_); (first | rfl | (simp; done))) | (with_reducible refine blk_drew ?_) | (with_reducible refine blk_old ?_))
               case hb1 => repeat' (first | assumption | exact Below.refl _ _ | (with_reducible refine Below.drew ?_) | (with_reducible refine Below.alloc ?_ ?_ _) | (with_reducible refine set_below ?_ ?_) | exact Nat.le_refl _ | (show (_ : Nat) ≤ _; omega) | (show (_ : Nat) ≤ _; simp; done) | (show (_ : Nat) ≤ _; simp; omega))
               case hb3 => (refine Below.size (?_ : Below wr.heap.size wr _); repeat' (first | assumption | exact Below.refl _ _ | (with_reducible refine Below.drew ?_) | (with_reducible refine Below.alloc ?_ ?_ _) | (with_reducible refine set_below ?_ ?_) | exact Nat.le_refl _ | (show (_ : Nat) ≤ _; omega) | (show (_ : Nat) ≤ _; simp; done) | (show (_ : Nat) ≤ _; simp; omega)))
               intro v6 w6 o6 g6 b6 l6
               try (refine hold (fun (_ : w6.heap[wr.heap.size]? = some (.cells #[.int .u32 0, .int .u8 0] 24)) => ?_) (blk_grown g6 ?hn ?hx); (case hn => first | assumption | ((refine row_ne_new o5 ?_); (first | exact Nat.le_refl _ | omega))); (case hx => repeat' (first | assumption | ((with_reducible refine blk_new ?_); (first | rfl | (simp; done))) | (with_reducible refine blk_drew ?_) | (with_reducible refine blk_old ?_))))
               try (refine hold (fun (_ : w6.heap[wr.heap.size + 1]? = some (.cells #[.int .u32 0, .int .u8 0] 24)) => ?_) (blk_grown g6 ?hn ?hx); (case hn => first | assumption | ((refine row_ne_new o5 ?_); (first | exact Nat.le_refl _ | omega))); (case hx => repeat' (first | assumption | ((with_reducible refine blk_new ?_); (first | rfl | (simp; done))) | (with_reducible refine blk_drew ?_) | (with_reducible refine blk_old ?_))))
               try (refine hold (fun (_ : w6.heap[wr.heap.size + 1 + 1]? = some (.cells #[.int .u32 0, .int .u8 0] 24)) => ?_) (blk_grown g6 ?hn ?hx); (case hn => first | assumption | ((refine row_ne_new o5 ?_); (first | exact Nat.le_refl _ | omega))); (case hx => repeat' (first | assumption | ((with_reducible refine blk_new ?_); (first | rfl | (simp; done))) | (with_reducible refine blk_drew ?_) | (with_reducible refine blk_old ?_))))
               try (refine hold (fun (_ : w6.heap[w5.heap.size]? = some (.cells #[.int .u32 0, .int .u8 0] 24)) => ?_) (blk_grown g6 ?hn ?hx); (case hn => first | assumption | ((refine row_ne_new o5 ?_); (first | exact Nat.le_refl _ | omega))); (case hx => repeat' (first | assumption | ((with_reducible refine blk_new ?_); (first | rfl | (simp; done))) | (with_reducible refine blk_drew ?_) | (with_reducible refine blk_old ?_))))
               try (refine hold (fun (_ : w6.heap[w5.heap.size + 1]? = some (.cells #[.int .u32 0, .int .u8 0] 24)) => ?_) (blk_grown g6 ?hn ?hx); (case hn => first | assumption | ((refine row_ne_new o5 ?_); (first | exact Nat.le_refl _ | omega))); (case hx => repeat' (first | assumption | ((with_reducible refine blk_new ?_); (first | rfl | (simp; done))) | (with_reducible refine blk_drew ?_) | (with_reducible refine blk_old ?_))))
               refine hold (fun (hb6 : Below wr.heap.size wr w6) => ?_) (Below.trans ?hc b6)
               case hc => repeat' (first | assumption | exact Below.refl _ _ | (with_reducible refine Below.drew ?_) | (with_reducible refine Below.alloc ?_ ?_ _) | (with_reducible refine set_below ?_ ?_) | exact Nat.le_refl _ | (show (_ : Nat) ≤ _; omega) | (show (_ : Nat) ≤ _; simp; done) | (show (_ : Nat) ≤ _; simp; omega))
               have I6 := ids_two o6
               have hs6 := Below.size hb6
               clear l6 g6 b6 o6)
            | (refine step_append_at rfl (.tmp 64) (.tmp 66) 29 24 rfl Try.underlying29 id_info rfl (by decide) wr.heap.size v5 (0 + k) ([] ++ ids l) ?e1 (own_stays o5 ?hb1) (.slice (some ⟨w5.heap.size, 0, none⟩) 1 1) 1 (ids [⟨p, r, hi.1, hi.2⟩]) ?e2 (sees_blk (a := ⟨p, r, hi.1, hi.2⟩) (e := 24) ?hbk) (ids_oneCell _) (by omega) (by omega) ?hb3 ?_
               case e1 => rfl
               case e2 => rfl
               case hbk => repeat' (first | assumption | ((with_reducible refine blk_new ?_); (first | rfl | (simp; done))) | (with_reducible refine blk_drew ?_) | (with_reducible refine blk_old ?_))
               case hb1 => repeat' (first | assumption | exact Below.refl _ _ | (with_reducible refine Below.drew ?_) | (with_reducible refine Below.alloc ?_ ?_ _) | (with_reducible refine set_below ?_ ?_) | exact Nat.le_refl _ | (show (_ : Nat) ≤ _; omega) | (show (_ : Nat) ≤ _; simp; done) | (show (_ : Nat) ≤ _; simp; omega))
               case hb3 => (refine Below.size (?_ : Below wr.heap.size wr _); repeat' (first | assumption | exact Below.refl _ _ | (with_reducible refine Below.drew ?_) | (with_reducible refine Below.alloc ?_ ?_ _) | (with_reducible refine set_below ?_ ?_) | exact Nat.le_refl _ | (show (_ : Nat) ≤ _; omega) | (show (_ : Nat) ≤ _; simp; done) | (show (_ : Nat) ≤ _; simp; omega)))
               intro v6 w6 o6 g6 b6 l6
               try (refine hold (fun (_ : w6.heap[wr.heap.size]? = some (.cells #[.int .u32 0, .int .u8 0] 24)) => ?_) (blk_grown g6 ?hn ?hx); (case hn => first | assumption | ((refine row_ne_new o5 ?_); (first | exact Nat.le_refl _ | omega))); (case hx => repeat' (first | assumption | ((with_reducible refine blk_new ?_); (first | rfl | (simp; done))) | (with_reducible refine blk_drew ?_) | (with_reducible refine blk_old ?_))))
               try (refine hold (fun (_ : w6.heap[wr.heap.size + 1]? = some (.cells #[.int .u32 0, .int .u8 0] 24)) => ?_) (blk_grown g6 ?hn ?hx); (case hn => first | assumption | ((refine row_ne_new o5 ?_); (first | exact Nat.le_refl _ | omega))); (case hx => repeat' (first | assumption | ((with_reducible refine blk_new ?_); (first | rfl | (simp; done))) | (with_reducible refine blk_drew ?_) | (with_reducible refine blk_old ?_))))
               try (refine hold (fun (_ : w6.heap[wr.heap.size + 1 + 1]? = some (.cells #[.int .u32 0, .int .u8 0] 24)) => ?_) (blk_grown g6 ?hn ?hx); (case hn => first | assumption | ((refine row_ne_new o5 ?_); (first | exact Nat.le_refl _ | omega))); (case hx => repeat' (first | assumption | ((with_reducible refine blk_new ?_); (first | rfl | (simp; done))) | (with_reducible refine blk_drew ?_) | (with_reducible refine blk_old ?_))))
               try (refine hold (fun (_ : w6.heap[w5.heap.size]? = some (.cells #[.int .u32 0, .int .u8 0] 24)) => ?_) (blk_grown g6 ?hn ?hx); (case hn => first | assumption | ((refine row_ne_new o5 ?_); (first | exact Nat.le_refl _ | omega))); (case hx => repeat' (first | assumption | ((with_reducible refine blk_new ?_); (first | rfl | (simp; done))) | (with_reducible refine blk_drew ?_) | (with_reducible refine blk_old ?_))))
               try (refine hold (fun (_ : w6.heap[w5.heap.size + 1]? = some (.cells #[.int .u32 0, .int .u8 0] 24)) => ?_) (blk_grown g6 ?hn ?hx); (case hn => first | assumption | ((refine row_ne_new o5 ?_); (first | exact Nat.le_refl _ | omega))); (case hx => repeat' (first | assumption | ((with_reducible refine blk_new ?_); (first | rfl | (simp; done))) | (with_reducible refine blk_drew ?_) | (with_reducible refine blk_old ?_))))
               refine hold (fun (hb6 : Below wr.heap.size wr w6) => ?_) (Below.trans ?hc b6)
               case hc => repeat' (first | assumption | exact Below.refl _ _ | (with_reducible refine Below.drew ?_) | (with_reducible refine Below.alloc ?_ ?_ _) | (with_reducible refine set_below ?_ ?_) | exact Nat.le_refl _ | (show (_ : Nat) ≤ _; omega) | (show (_ : Nat) ≤ _; simp; done) | (show (_ : Nat) ≤ _; simp; omega))
               have I6 := ids_two o6
               have hs6 := Below.size hb6
               clear l6 g6 b6 o6)
            | (refine step_append_at rfl (.tmp 64) (.tmp 66) 29 24 rfl Try.underlying29 id_info rfl (by decide) wr.heap.size v5 (0 + k) ([] ++ ids l) ?e1 (own_stays o5 ?hb1) (.slice (some ⟨w5.heap.size + 1, 0, none⟩) 1 1) 1 (ids [⟨p, r, hi.1, hi.2⟩]) ?e2 (sees_blk (a := ⟨p, r, hi.1, hi.2⟩) (e := 24) ?hbk) (ids_oneCell _) (by omega) (by omega) ?hb3 ?_
               case e1 => rfl
               case e2 => rfl
               case hbk => repeat' (first | assumption | ((with_reducible refine blk_new ?_); (first | rfl | (simp; done))) | (with_reducible refine blk_drew ?_) | (with_reducible refine blk_old ?_))
               case hb1 => repeat' (first | assumption | exact Below.refl _ _ | (with_reducible refine Below.drew ?_) | (with_reducible refine Below.alloc ?_ ?_ _) | (with_reducible refine set_below ?_ ?_) | exact Nat.le_refl _ | (show (_ : Nat) ≤ _; omega) | (show (_ : Nat) ≤ _; simp; done) | (show (_ : Nat) ≤ _; simp; omega))
               case hb3 => (refine Below.size (?_ : Below wr.heap.size wr _); repeat' (first | assumption | exact Below.refl _ _ | (with_reducible refine Below.drew ?_) | (with_reducible refine Below.alloc ?_ ?_ _) | (with_reducible refine set_below ?_ ?_) | exact Nat.le_refl _ | (show (_ : Nat) ≤ _; omega) | (show (_ : Nat) ≤ _; simp; done) | (show (_ : Nat) ≤ _; simp; omega)))
               intro v6 w6 o6 g6 b6 l6
               try (refine hold (fun (_ : w6.heap[wr.heap.size]? = some (.cells #[.int .u32 0, .int .u8 0] 24)) => ?_) (blk_grown g6 ?hn ?hx); (case hn => first | assumption | ((refine row_ne_new o5 ?_); (first | exact Nat.le_refl _ | omega))); (case hx => repeat' (first | assumption | ((with_reducible refine blk_new ?_); (first | rfl | (simp; done))) | (with_reducible refine blk_drew ?_) | (with_reducible refine blk_old ?_))))
               try (refine hold (fun (_ : w6.heap[wr.heap.size + 1]? = some (.cells #[.int .u32 0, .int .u8 0] 24)) => ?_) (blk_grown g6 ?hn ?hx); (case hn => first | assumption | ((refine row_ne_new o5 ?_); (first | exact Nat.le_refl _ | omega))); (case hx => repeat' (first | assumption | ((with_reducible refine blk_new ?_); (first | rfl | (simp; done))) | (with_reducible refine blk_drew ?_) | (with_reducible refine blk_old ?_))))
               try (refine hold (fun (_ : w6.heap[wr.heap.size + 1 + 1]? = some (.cells #[.int .u32 0, .int .u8 0] 24)) => ?_) (blk_grown g6 ?hn ?hx); (case hn => first | assumption | ((refine row_ne_new o5 ?_); (first | exact Nat.le_refl _ | omega))); (case hx => repeat' (first | assumption | ((with_reducible refine blk_new ?_); (first | rfl | (simp; done))) | (with_reducible refine blk_drew ?_) | (with_reducible refine blk_old ?_))))
               try (refine hold (fun (_ : w6.heap[w5.heap.size]? = some (.cells #[.int .u32 0, .int .u8 0] 24)) => ?_) (blk_grown g6 ?hn ?hx); (case hn => first | assumption | ((refine row_ne_new o5 ?_); (first | exact Nat.le_refl _ | omega))); (case hx => repeat' (first | assumption | ((with_reducible refine blk_new ?_); (first | rfl | (simp; done))) | (with_reducible refine blk_drew ?_) | (with_reducible refine blk_old ?_))))
               try (refine hold (fun (_ : w6.heap[w5.heap.size + 1]? = some (.cells #[.int .u32 0, .int .u8 0] 24)) => ?_) (blk_grown g6 ?hn ?hx); (case hn => first | assumption | ((refine row_ne_new o5 ?_); (first | exact Nat.le_refl _ | omega))); (case hx => repeat' (first | assumption | ((with_reducible refine blk_new ?_); (first | rfl | (simp; done))) | (with_reducible refine blk_drew ?_) | (with_reducible refine blk_old ?_))))
               refine hold (fun (hb6 : Below wr.heap.size wr w6) => ?_) (Below.trans ?hc b6)
               case hc => repeat' (first | assumption | exact Below.refl _ _ | (with_reducible refine Below.drew ?_) | (with_reducible refine Below.alloc ?_ ?_ _) | (with_reducible refine set_below ?_ ?_) | exact Nat.le_refl _ | (show (_ : Nat) ≤ _; omega) | (show (_ : Nat) ≤ _; simp; done) | (show (_ : Nat) ≤ _; simp; omega))
               have I6 := ids_two o6
               have hs6 := Below.size hb6
               clear l6 g6 b6 o6)
            | (go_at_call 7; refine (K7.out _ _ (I6.keeps ?hb1)).mono ?_
               case hb1 => repeat' (first | assumption | exact Below.refl _ _ | (with_reducible refine Below.drew ?_) | (with_reducible refine Below.alloc ?_ ?_ _) | (with_reducible refine set_below ?_ ?_) | exact Nat.le_refl _ | (show (_ : Nat) ≤ _; omega) | (show (_ : Nat) ≤ _; simp; done) | (show (_ : Nat) ≤ _; simp; omega))
               rintro e w7 ⟨rfl, b7⟩
               try (refine hold (fun (hz : w7.heap[wr.heap.size]? = some (.cells #[.int .u32 0, .int .u8 0] 24)) => hold (fun hc => ?_) (cells_blk hz)) (blk_below b7 ?hx); (case hx => repeat' (first | assumption | ((with_reducible refine blk_new ?_); (first | rfl | (simp; done))) | (with_reducible refine blk_drew ?_) | (with_reducible refine blk_old ?_))); (obtain ⟨_, _, _, _⟩ := hc))
               try (refine hold (fun (hz : w7.heap[wr.heap.size + 1]? = some (.cells #[.int .u32 0, .int .u8 0] 24)) => hold (fun hc => ?_) (cells_blk hz)) (blk_below b7 ?hx); (case hx => repeat' (first | assumption | ((with_reducible refine blk_new ?_); (first | rfl | (simp; done))) | (with_reducible refine blk_drew ?_) | (with_reducible refine blk_old ?_))); (obtain ⟨_, _, _, _⟩ := hc))
               try (refine hold (fun (hz : w7.heap[wr.heap.size + 1 + 1]? = some (.cells #[.int .u32 0, .int .u8 0] 24)) => hold (fun hc => ?_) (cells_blk hz)) (blk_below b7 ?hx); (case hx => repeat' (first | assumption | ((with_reducible refine blk_new ?_); (first | rfl | (simp; done))) | (with_reducible refine blk_drew ?_) | (with_reducible refine blk_old ?_))); (obtain ⟨_, _, _, _⟩ := hc))
               try (refine hold (fun (hz : w7.heap[w5.heap.size]? = some (.cells #[.int .u32 0, .int .u8 0] 24)) => hold (fun hc => ?_) (cells_blk hz)) (blk_below b7 ?hx); (case hx => repeat' (first | assumption | ((with_reducible refine blk_new ?_); (first | rfl | (simp; done))) | (with_reducible refine blk_drew ?_) | (with_reducible refine blk_old ?_))); (obtain ⟨_, _, _, _⟩ := hc))
               try (refine hold (fun (hz : w7.heap[w5.heap.size + 1]? = some (.cells #[.int .u32 0, .int .u8 0] 24)) => hold (fun hc => ?_) (cells_blk hz)) (blk_below b7 ?hx); (case hx => repeat' (first | assumption | ((with_reducible refine blk_new ?_); (first | rfl | (simp; done))) | (with_reducible refine blk_drew ?_) | (with_reducible refine blk_old ?_))); (obtain ⟨_, _, _, _⟩ := hc))
               try (refine hold (fun (hz : w7.heap[w6.heap.size]? = some (.cells #[.int .u32 0, .int .u8 0] 24)) => hold (fun hc => ?_) (cells_blk hz)) (blk_below b7 ?hx); (case hx => repeat' (first | assumption | ((with_reducible refine blk_new ?_); (first | rfl | (simp; done))) | (with_reducible refine blk_drew ?_) | (with_reducible refine blk_old ?_))); (obtain ⟨_, _, _, _⟩ := hc))
               refine hold (fun (hb7 : Below wr.heap.size wr w7) => ?_) (below_next ?hc ?hd b7)
               case hc => repeat' (first | assumption | exact Below.refl _ _ | (with_reducible refine Below.drew ?_) | (with_reducible refine Below.alloc ?_ ?_ _) | (with_reducible refine set_below ?_ ?_) | exact Nat.le_refl _ | (show (_ : Nat) ≤ _; omega) | (show (_ : Nat) ≤ _; simp; done) | (show (_ : Nat) ≤ _; simp; omega))
               case hd => (refine Below.size (?_ : Below wr.heap.size wr _); repeat' (first | assumption | exact Below.refl _ _ | (with_reducible refine Below.drew ?_) | (with_reducible refine Below.alloc ?_ ?_ _) | (with_reducible refine set_below ?_ ?_) | exact Nat.le_refl _ | (show (_ : Nat) ≤ _; omega) | (show (_ : Nat) ≤ _; simp; done) | (show (_ : Nat) ≤ _; simp; omega)))
               have hs7 := Below.size hb7
               clear b7)))
        all_goals
          go_wp2_with fail
          go_meet
          first | exact ⟨_, rfl, rfl, pair_blk (set_blk hz), set_below (by omega) hb7⟩ | exact ⟨_, rfl, rfl, pair_new _ _ _ _, hb7.alloc hs7 _⟩
      case rest =>
        obtain ⟨g, rfl, rfl, hg, hbc⟩ := hcut
        have hl1 : ¬ 1024 < (l ++ [(⟨p, r, hi.1, hi.2⟩ : Id)]).length := by rw [List.length_append, ← HN.out]; simp; omega
        have hm : may p r = true := may_iff.2 ⟨hpb.1, hpb.2, hr⟩
        have hf1 : Fine (l ++ [(⟨p, r, hi.1, hi.2⟩ : Id)]) := by
          intro a ha
          rw [List.mem_append] at ha
          rcases ha with ha | ha
          · exact HF.out a ha
          · simp only [List.mem_singleton] at ha
            subst ha
            exact .inr hm
        have ht1 : top (l ++ [(⟨p, r, hi.1, hi.2⟩ : Id)]) = p := by
          rw [top_append]
          have := HP.out
          simp [top]; omega
        have CK := Lib.hid (check_lit p r 0 (by rw [chk, if_pos hm]))
        have hnx := HNX.out
        have PA := Lib.hid (A3.out.keeps hbc.out)
        have hBc := Lib.hid (bt B3.out hbc.out)
        clear hm B3 A3 V3 K7 K5 VS HNX
        by_cases hpt : p = 1073741824
        · rw [next_time hl1 (by omega) hf1 (by rw [ht1]; exact hpt)] at hnx
          have hc50 : c = 50 := (congrArg (fun z => z.2.2) hnx).symm
          have v1 : (c == 0) = false := by rw [hc50]; rfl
          have v2 : (c == 50) = true := by rw [hc50]; rfl
          have v3 : decide (c = 0) = false := by rw [hc50]; rfl
          have v4 : decide (c = 50) = true := by rw [hc50]; rfl
          have u1 : ((p : Int) == 1073741824) = true := by simp; omega
          have u2 : decide (p = 1073741824) = true := decide_eq_true hpt
          clear hnx hl1 hf1 ht1 hpt hc50
          have u3 : ((r : Int) == (r : Int)) = true := by simp
          go_wp2_with fail
          refine wp_region_held_drew (S := fun w' => Below wc.heap.size wc w' ∧ w'.cell? ⟨w2.heap.size, 0, none⟩ = some (.int .u32 (p : Int)) ∧ w'.cell? ⟨w2.heap.size, 1, none⟩ = some (.int .u8 (r : Int)) ∧ w'.cell? ⟨g, 0, none⟩ = some (.int .u32 (x : Int)) ∧ w'.cell? ⟨g, 1, none⟩ = some (.int .u8 (y : Int))) (by kernel_rfl) (keepP2 PA.out hg.out (drew1 _) (Below.refl _ _)) (fun hHeld => ?_)
          refine wpAnyH_take (i := 0) (v := ?v0) rfl (by kernel_rfl) (by kernel_rfl) (by kernel_rfl) (fun _ _ _ h => h) (Or.inl ⟨by rfl, ?y0⟩) (by assumption) ?_
          case y0 => intro w hSw; (try dsimp only at hSw); go_simp <;> with_reducible rfl
          try simp only [List.getElem_toArray, List.getElem_cons_zero, Act.put, List.setIfInBounds_toArray, List.set_cons_zero, List.set_cons_succ]
          refine wpAnyH_take (i := 1) (v := ?v1) rfl (by kernel_rfl) (by kernel_rfl) (by kernel_rfl) (fun _ _ _ h => h) (Or.inl ⟨by rfl, ?y1⟩) (by assumption) ?_
          case y1 => intro w hSw; (try dsimp only at hSw); go_simp <;> with_reducible rfl
          try simp only [List.getElem_toArray, List.getElem_cons_succ, List.getElem_cons_zero, Act.put, List.setIfInBounds_toArray, List.set_cons_zero, List.set_cons_succ]
          refine wpAnyH_take (i := 2) (v := ?v2) rfl (by kernel_rfl) (by kernel_rfl) (by kernel_rfl) (fun _ _ _ h => h) (Or.inl ⟨by rfl, ?y2⟩) (by assumption) ?_
          case y2 => intro w hSw; (try dsimp only at hSw); go_simp <;> with_reducible rfl
          try simp only [List.getElem_toArray, List.getElem_cons_succ, List.getElem_cons_zero, Act.put, List.setIfInBounds_toArray, List.set_cons_zero, List.set_cons_succ]
          refine wpAnyH_take (i := 3) (v := ?v3) rfl (by kernel_rfl) (by kernel_rfl) (by kernel_rfl) (fun _ _ _ h => h) (Or.inl ⟨by rfl, ?y3⟩) (by assumption) ?_
          case y3 => intro w hSw; (try dsimp only at hSw); go_simp <;> with_reducible rfl
          try simp only [List.getElem_toArray, List.getElem_cons_succ, List.getElem_cons_zero, Act.put, List.setIfInBounds_toArray, List.set_cons_zero, List.set_cons_succ]
          refine wpAnyH_take (i := 4) (v := ?v4) rfl (by kernel_rfl) (by kernel_rfl) (by kernel_rfl) (fun _ _ _ h => h) (Or.inl ⟨by rfl, ?y4⟩) (by assumption) ?_
          case y4 => intro w hSw; (try dsimp only at hSw); go_simp <;> with_reducible rfl
          try simp only [List.getElem_toArray, List.getElem_cons_succ, List.getElem_cons_zero, Act.put, List.setIfInBounds_toArray, List.set_cons_zero, List.set_cons_succ]
          refine wpAnyH_take (i := 5) (v := ?v5) rfl (by kernel_rfl) (by kernel_rfl) (by kernel_rfl) (fun _ _ _ h => h) (Or.inl ⟨by rfl, ?y5⟩) (by assumption) ?_
          case y5 => intro w hSw; (try dsimp only at hSw); go_simp <;> with_reducible rfl
          try simp only [List.getElem_toArray, List.getElem_cons_succ, List.getElem_cons_zero, Act.put, List.setIfInBounds_toArray, List.set_cons_zero, List.set_cons_succ]
          refine wpAnyH_take (i := 6) (v := ?v6) rfl (by kernel_rfl) (by kernel_rfl) (by kernel_rfl) (fun _ _ _ h => h) (Or.inl ⟨by rfl, ?y6⟩) (by assumption) ?_
          case y6 => intro w hSw; (try dsimp only at hSw); go_simp <;> with_reducible rfl
          try simp only [List.getElem_toArray, List.getElem_cons_succ, List.getElem_cons_zero, Act.put, List.setIfInBounds_toArray, List.set_cons_zero, List.set_cons_succ]
          refine wpAnyH_take (i := 7) (v := ?v7) rfl (by kernel_rfl) (by kernel_rfl) (by kernel_rfl) (fun _ _ _ h => h) (Or.inl ⟨by rfl, ?y7⟩) (by assumption) ?_
          case y7 => intro w hSw; (try dsimp only at hSw); go_simp <;> with_reducible rfl
          try simp only [List.getElem_toArray, List.getElem_cons_succ, List.getElem_cons_zero, Act.put, List.setIfInBounds_toArray, List.set_cons_zero, List.set_cons_succ]
          refine wpAnyH_take (i := 8) (v := ?v8) rfl (by kernel_rfl) (by kernel_rfl) (by kernel_rfl) (fun _ _ _ h => h) (Or.inl ⟨by rfl, ?y8⟩) (by assumption) ?_
          case y8 => intro w hSw; (try dsimp only at hSw); go_simp <;> with_reducible rfl
          try simp only [List.getElem_toArray, List.getElem_cons_succ, List.getElem_cons_zero, Act.put, List.setIfInBounds_toArray, List.set_cons_zero, List.set_cons_succ]
          refine wpAnyH_ready (rs := [9]) (by kernel_rfl) (by simp) ?_
          refine AllReadyH.cons rfl (fun K hK => ?_) ?z9
          case z9 => exact AllReadyH.nil
          go_simp
          refine (CK.out _).mono ?_
          rintro e w9 ⟨rfl, b9⟩
          refine hK.out _ _ (keepP2 PA.out hg.out b9 hHeld.1) (fun hNew => ?_)
          clear hHeld b9
          have hHeld := hNew
          clear hNew hK K
          try simp only [List.getElem_toArray, List.getElem_cons_succ, List.getElem_cons_zero, Act.put, List.setIfInBounds_toArray, List.set_cons_zero, List.set_cons_succ]
          refine wpAnyH_take (i := 10) (v := ?v10) rfl (by kernel_rfl) (by kernel_rfl) (by kernel_rfl) (fun _ _ _ h => h) (Or.inl ⟨by rfl, ?y10⟩) (by assumption) ?_
          case y10 => intro w hSw; (try dsimp only at hSw); go_simp <;> with_reducible rfl
          try simp only [List.getElem_toArray, List.getElem_cons_succ, List.getElem_cons_zero, Act.put, List.setIfInBounds_toArray, List.set_cons_zero, List.set_cons_succ]
          refine wpAnyH_take (i := 11) (v := ?v11) rfl (by kernel_rfl) (by kernel_rfl) (by kernel_rfl) (fun _ _ _ h => h) (Or.inl ⟨by rfl, ?y11⟩) (by assumption) ?_
          case y11 => intro w hSw; (try dsimp only at hSw); go_simp <;> with_reducible rfl
          try simp only [List.getElem_toArray, List.getElem_cons_succ, List.getElem_cons_zero, Act.put, List.setIfInBounds_toArray, List.set_cons_zero, List.set_cons_succ]
          refine wpAnyH_take (i := 12) (v := ?v12) rfl (by kernel_rfl) (by kernel_rfl) (by kernel_rfl) (fun _ _ _ h => h) (Or.inl ⟨by rfl, ?y12⟩) (by assumption) ?_
          case y12 => intro w hSw; (try dsimp only at hSw); go_simp <;> with_reducible rfl
          try simp only [List.getElem_toArray, List.getElem_cons_succ, List.getElem_cons_zero, Act.put, List.setIfInBounds_toArray, List.set_cons_zero, List.set_cons_succ]
          refine wpAnyH_take (i := 13) (v := ?v13) rfl (by kernel_rfl) (by kernel_rfl) (by kernel_rfl) (fun _ _ _ h => h) (Or.inl ⟨by rfl, ?y13⟩) (by assumption) ?_
          case y13 => intro w hSw; (try dsimp only at hSw); go_simp <;> with_reducible rfl
          try simp only [List.getElem_toArray, List.getElem_cons_succ, List.getElem_cons_zero, Act.put, List.setIfInBounds_toArray, List.set_cons_zero, List.set_cons_succ]
          refine wpAnyH_take (i := 14) (v := ?v14) rfl (by kernel_rfl) (by kernel_rfl) (by kernel_rfl) (fun _ _ _ h => h) (Or.inl ⟨by rfl, ?y14⟩) (by assumption) ?_
          case y14 => intro w hSw; (try dsimp only at hSw); go_simp <;> with_reducible rfl
          try simp only [List.getElem_toArray, List.getElem_cons_succ, List.getElem_cons_zero, Act.put, List.setIfInBounds_toArray, List.set_cons_zero, List.set_cons_succ]
          refine wpAnyH_take (i := 15) (v := ?v15) rfl (by kernel_rfl) (by kernel_rfl) (by kernel_rfl) (fun _ _ _ h => h) (Or.inl ⟨by rfl, ?y15⟩) (by assumption) ?_
          case y15 => intro w hSw; (try dsimp only at hSw); go_simp <;> with_reducible rfl
          try simp only [List.getElem_toArray, List.getElem_cons_succ, List.getElem_cons_zero, Act.put, List.setIfInBounds_toArray, List.set_cons_zero, List.set_cons_succ]
          refine wpAnyH_take (i := 16) (v := undef) rfl (by kernel_rfl) (by kernel_rfl) (by kernel_rfl) (fun _ _ _ h => h) (Or.inr ⟨by rfl, rfl⟩) (by assumption) ?_
          try simp only [List.getElem_toArray, List.getElem_cons_succ, List.getElem_cons_zero, Act.put, List.setIfInBounds_toArray, List.set_cons_zero, List.set_cons_succ]
          refine wpAnyH_take (i := 17) (v := undef) rfl (by kernel_rfl) (by kernel_rfl) (by kernel_rfl) (fun _ _ _ h => h) (Or.inr ⟨by rfl, rfl⟩) (by assumption) ?_
          try simp only [List.getElem_toArray, List.getElem_cons_succ, List.getElem_cons_zero, Act.put, List.setIfInBounds_toArray, List.set_cons_zero, List.set_cons_succ]
          refine wpAnyH_take (i := 18) (v := undef) rfl (by kernel_rfl) (by kernel_rfl) (by kernel_rfl) (fun _ _ _ h => h) (Or.inr ⟨by rfl, rfl⟩) (by assumption) ?_
          try simp only [List.getElem_toArray, List.getElem_cons_succ, List.getElem_cons_zero, Act.put, List.setIfInBounds_toArray, List.set_cons_zero, List.set_cons_succ]
          refine wpAnyH_take (i := 19) (v := undef) rfl (by kernel_rfl) (by kernel_rfl) (by kernel_rfl) (fun _ _ _ h => h) (Or.inr ⟨by rfl, rfl⟩) (by assumption) ?_
          try simp only [List.getElem_toArray, List.getElem_cons_succ, List.getElem_cons_zero, Act.put, List.setIfInBounds_toArray, List.set_cons_zero, List.set_cons_succ]
          refine wpAnyH_take (i := 20) (v := undef) rfl (by kernel_rfl) (by kernel_rfl) (by kernel_rfl) (fun _ _ _ h => h) (Or.inr ⟨by rfl, rfl⟩) (by assumption) ?_
          try simp only [List.getElem_toArray, List.getElem_cons_succ, List.getElem_cons_zero, Act.put, List.setIfInBounds_toArray, List.set_cons_zero, List.set_cons_succ]
          refine wpAnyH_take (i := 21) (v := undef) rfl (by kernel_rfl) (by kernel_rfl) (by kernel_rfl) (fun _ _ _ h => h) (Or.inr ⟨by rfl, rfl⟩) (by assumption) ?_
          try simp only [List.getElem_toArray, List.getElem_cons_succ, List.getElem_cons_zero, Act.put, List.setIfInBounds_toArray, List.set_cons_zero, List.set_cons_succ]
          refine wpAnyH_take (i := 22) (v := undef) rfl (by kernel_rfl) (by kernel_rfl) (by kernel_rfl) (fun _ _ _ h => h) (Or.inr ⟨by rfl, rfl⟩) (by assumption) ?_
          try simp only [List.getElem_toArray, List.getElem_cons_succ, List.getElem_cons_zero, Act.put, List.setIfInBounds_toArray, List.set_cons_zero, List.set_cons_succ]
          refine wpAnyH_take (i := 23) (v := ?v23) rfl (by kernel_rfl) (by kernel_rfl) (by kernel_rfl) (fun _ _ _ h => h) (Or.inl ⟨by rfl, ?y23⟩) (by assumption) ?_
          case y23 => intro w hSw; (try dsimp only at hSw); go_simp <;> with_reducible rfl
          try simp only [List.getElem_toArray, List.getElem_cons_succ, List.getElem_cons_zero, Act.put, List.setIfInBounds_toArray, List.set_cons_zero, List.set_cons_succ]
          refine wpAnyH_take (i := 24) (v := ?v24) rfl (by kernel_rfl) (by kernel_rfl) (by kernel_rfl) (fun _ _ _ h => h) (Or.inl ⟨by rfl, ?y24⟩) (by assumption) ?_
          case y24 => intro w hSw; (try dsimp only at hSw); go_simp <;> with_reducible rfl
          try simp only [List.getElem_toArray, List.getElem_cons_succ, List.getElem_cons_zero, Act.put, List.setIfInBounds_toArray, List.set_cons_zero, List.set_cons_succ]
          refine wpAnyH_take (i := 25) (v := ?v25) rfl (by kernel_rfl) (by kernel_rfl) (by kernel_rfl) (fun _ _ _ h => h) (Or.inl ⟨by rfl, ?y25⟩) (by assumption) ?_
          case y25 => intro w hSw; (try dsimp only at hSw); go_simp <;> with_reducible rfl
          try simp only [List.getElem_toArray, List.getElem_cons_succ, List.getElem_cons_zero, Act.put, List.setIfInBounds_toArray, List.set_cons_zero, List.set_cons_succ]
          refine wpAnyH_take (i := 26) (v := ?v26) rfl (by kernel_rfl) (by kernel_rfl) (by kernel_rfl) (fun _ _ _ h => h) (Or.inl ⟨by rfl, ?y26⟩) (by assumption) ?_
          case y26 => intro w hSw; (try dsimp only at hSw); go_simp <;> with_reducible rfl
          try simp only [List.getElem_toArray, List.getElem_cons_succ, List.getElem_cons_zero, Act.put, List.setIfInBounds_toArray, List.set_cons_zero, List.set_cons_succ]
          refine wpAnyH_take (i := 27) (v := ?v27) rfl (by kernel_rfl) (by kernel_rfl) (by kernel_rfl) (fun _ _ _ h => h) (Or.inl ⟨by rfl, ?y27⟩) (by assumption) ?_
          case y27 => intro w hSw; (try dsimp only at hSw); go_simp <;> with_reducible rfl
          try simp only [List.getElem_toArray, List.getElem_cons_succ, List.getElem_cons_zero, Act.put, List.setIfInBounds_toArray, List.set_cons_zero, List.set_cons_succ]
          refine wpAnyH_take (i := 28) (v := ?v28) rfl (by kernel_rfl) (by kernel_rfl) (by kernel_rfl) (fun _ _ _ h => h) (Or.inl ⟨by rfl, ?y28⟩) (by assumption) ?_
          case y28 => intro w hSw; (try dsimp only at hSw); go_simp <;> with_reducible rfl
          try simp only [List.getElem_toArray, List.getElem_cons_succ, List.getElem_cons_zero, Act.put, List.setIfInBounds_toArray, List.set_cons_zero, List.set_cons_succ]
          refine wpAnyH_take (i := 29) (v := ?v29) rfl (by kernel_rfl) (by kernel_rfl) (by kernel_rfl) (fun _ _ _ h => h) (Or.inl ⟨by rfl, ?y29⟩) (by assumption) ?_
          case y29 => intro w hSw; (try dsimp only at hSw); go_simp <;> with_reducible rfl
          try simp only [List.getElem_toArray, List.getElem_cons_succ, List.getElem_cons_zero, Act.put, List.setIfInBounds_toArray, List.set_cons_zero, List.set_cons_succ]
          refine wpAnyH_take (i := 30) (v := ?v30) rfl (by kernel_rfl) (by kernel_rfl) (by kernel_rfl) (fun _ _ _ h => h) (Or.inl ⟨by rfl, ?y30⟩) (by assumption) ?_
          case y30 => intro w hSw; (try dsimp only at hSw); go_simp <;> with_reducible rfl
          try simp only [List.getElem_toArray, List.getElem_cons_succ, List.getElem_cons_zero, Act.put, List.setIfInBounds_toArray, List.set_cons_zero, List.set_cons_succ]
          refine wpAnyH_take (i := 31) (v := ?v31) rfl (by kernel_rfl) (by kernel_rfl) (by kernel_rfl) (fun _ _ _ h => h) (Or.inl ⟨by rfl, ?y31⟩) (by assumption) ?_
          case y31 => intro w hSw; (try dsimp only at hSw); go_simp <;> with_reducible rfl
          try simp only [List.getElem_toArray, List.getElem_cons_succ, List.getElem_cons_zero, Act.put, List.setIfInBounds_toArray, List.set_cons_zero, List.set_cons_succ]
          refine wpAnyH_take (i := 32) (v := ?v32) rfl (by kernel_rfl) (by kernel_rfl) (by kernel_rfl) (fun _ _ _ h => h) (Or.inl ⟨by rfl, ?y32⟩) (by assumption) ?_
          case y32 => intro w hSw; (try dsimp only at hSw); go_simp <;> with_reducible rfl
          try simp only [List.getElem_toArray, List.getElem_cons_succ, List.getElem_cons_zero, Act.put, List.setIfInBounds_toArray, List.set_cons_zero, List.set_cons_succ]
          refine wpAnyH_take (i := 33) (v := ?v33) rfl (by kernel_rfl) (by kernel_rfl) (by kernel_rfl) (fun _ _ _ h => h) (Or.inl ⟨by rfl, ?y33⟩) (by assumption) ?_
          case y33 => intro w hSw; (try dsimp only at hSw); go_simp <;> with_reducible rfl
          try simp only [List.getElem_toArray, List.getElem_cons_succ, List.getElem_cons_zero, Act.put, List.setIfInBounds_toArray, List.set_cons_zero, List.set_cons_succ]
          refine wpAnyH_take (i := 34) (v := ?v34) rfl (by kernel_rfl) (by kernel_rfl) (by kernel_rfl) (fun _ _ _ h => h) (Or.inl ⟨by rfl, ?y34⟩) (by assumption) ?_
          case y34 => intro w hSw; (try dsimp only at hSw); go_simp <;> with_reducible rfl
          try simp only [List.getElem_toArray, List.getElem_cons_succ, List.getElem_cons_zero, Act.put, List.setIfInBounds_toArray, List.set_cons_zero, List.set_cons_succ]
          refine wpAnyH_done (by kernel_rfl) ?_ _
          go_wp2
          go_ret
          exact ⟨rfl, bt hBc.out hHeld.1⟩
        · rw [next_ok hl1 (by omega) hf1 (by rw [ht1]; exact hpt), ht1] at hnx
          obtain ⟨rfl, rfl, rfl⟩ : p + 1 = x ∧ r = y ∧ 0 = c := by
            have h1 := congrArg Prod.fst hnx
            have h2 := congrArg (fun z => z.2.1) hnx
            have h3 := congrArg (fun z => z.2.2) hnx
            exact ⟨h1, h2, h3⟩
          have u1 : ((p : Int) == 1073741824) = false := by simp; omega
          have u2 : decide (p = 1073741824) = false := decide_eq_false hpt
          have hg2 : Hid (Pair wc g (.int .u32 ((p : Int) + 1)) (.int .u8 (r : Int))) := hg.out
          have u4 : IntKind.u32.wrap ((p : Int) + 1) = (p : Int) + 1 := by rw [IntKind.wrap_u32]; omega
          clear hnx hl1 hf1 ht1 hpt hg
          go_wp2_with fail
          refine wp_region_held_drew (S := fun w' => Below wc.heap.size wc w' ∧ w'.cell? ⟨w2.heap.size, 0, none⟩ = some (.int .u32 (p : Int)) ∧ w'.cell? ⟨w2.heap.size, 1, none⟩ = some (.int .u8 (r : Int)) ∧ w'.cell? ⟨g, 0, none⟩ = some (.int .u32 ((p : Int) + 1)) ∧ w'.cell? ⟨g, 1, none⟩ = some (.int .u8 (r : Int))) (by kernel_rfl) (keepP2 PA.out hg2.out (drew1 _) (Below.refl _ _)) (fun hHeld => ?_)
          refine wpAnyH_take (i := 0) (v := ?u0) rfl (by kernel_rfl) (by kernel_rfl) (by kernel_rfl) (fun _ _ _ h => h) (Or.inl ⟨by rfl, ?x0⟩) (by assumption) ?_
          case x0 => intro w hSw; (try dsimp only at hSw); go_simp <;> with_reducible rfl
          try simp only [List.getElem_toArray, List.getElem_cons_zero, Act.put, List.setIfInBounds_toArray, List.set_cons_zero, List.set_cons_succ]
          refine wpAnyH_take (i := 1) (v := ?u1) rfl (by kernel_rfl) (by kernel_rfl) (by kernel_rfl) (fun _ _ _ h => h) (Or.inl ⟨by rfl, ?x1⟩) (by assumption) ?_
          case x1 => intro w hSw; (try dsimp only at hSw); go_simp <;> with_reducible rfl
          try simp only [List.getElem_toArray, List.getElem_cons_succ, List.getElem_cons_zero, Act.put, List.setIfInBounds_toArray, List.set_cons_zero, List.set_cons_succ]
          refine wpAnyH_take (i := 2) (v := ?u2) rfl (by kernel_rfl) (by kernel_rfl) (by kernel_rfl) (fun _ _ _ h => h) (Or.inl ⟨by rfl, ?x2⟩) (by assumption) ?_
          case x2 => intro w hSw; (try dsimp only at hSw); go_simp <;> with_reducible rfl
          try simp only [List.getElem_toArray, List.getElem_cons_succ, List.getElem_cons_zero, Act.put, List.setIfInBounds_toArray, List.set_cons_zero, List.set_cons_succ]
          refine wpAnyH_take (i := 3) (v := ?u3) rfl (by kernel_rfl) (by kernel_rfl) (by kernel_rfl) (fun _ _ _ h => h) (Or.inl ⟨by rfl, ?x3⟩) (by assumption) ?_
          case x3 => intro w hSw; (try dsimp only at hSw); go_simp <;> with_reducible rfl
          try simp only [List.getElem_toArray, List.getElem_cons_succ, List.getElem_cons_zero, Act.put, List.setIfInBounds_toArray, List.set_cons_zero, List.set_cons_succ]
          refine wpAnyH_take (i := 4) (v := ?u4) rfl (by kernel_rfl) (by kernel_rfl) (by kernel_rfl) (fun _ _ _ h => h) (Or.inl ⟨by rfl, ?x4⟩) (by assumption) ?_
          case x4 => intro w hSw; (try dsimp only at hSw); go_simp <;> with_reducible rfl
          try simp only [List.getElem_toArray, List.getElem_cons_succ, List.getElem_cons_zero, Act.put, List.setIfInBounds_toArray, List.set_cons_zero, List.set_cons_succ]
          refine wpAnyH_take (i := 5) (v := ?u5) rfl (by kernel_rfl) (by kernel_rfl) (by kernel_rfl) (fun _ _ _ h => h) (Or.inl ⟨by rfl, ?x5⟩) (by assumption) ?_
          case x5 => intro w hSw; (try dsimp only at hSw); go_simp <;> with_reducible rfl
          try simp only [List.getElem_toArray, List.getElem_cons_succ, List.getElem_cons_zero, Act.put, List.setIfInBounds_toArray, List.set_cons_zero, List.set_cons_succ]
          refine wpAnyH_take (i := 6) (v := ?u6) rfl (by kernel_rfl) (by kernel_rfl) (by kernel_rfl) (fun _ _ _ h => h) (Or.inl ⟨by rfl, ?x6⟩) (by assumption) ?_
          case x6 => intro w hSw; (try dsimp only at hSw); go_simp <;> with_reducible rfl
          try simp only [List.getElem_toArray, List.getElem_cons_succ, List.getElem_cons_zero, Act.put, List.setIfInBounds_toArray, List.set_cons_zero, List.set_cons_succ]
          refine wpAnyH_take (i := 7) (v := ?u7) rfl (by kernel_rfl) (by kernel_rfl) (by kernel_rfl) (fun _ _ _ h => h) (Or.inl ⟨by rfl, ?x7⟩) (by assumption) ?_
          case x7 => intro w hSw; (try dsimp only at hSw); go_simp <;> with_reducible rfl
          try simp only [List.getElem_toArray, List.getElem_cons_succ, List.getElem_cons_zero, Act.put, List.setIfInBounds_toArray, List.set_cons_zero, List.set_cons_succ]
          refine wpAnyH_take (i := 8) (v := ?u8) rfl (by kernel_rfl) (by kernel_rfl) (by kernel_rfl) (fun _ _ _ h => h) (Or.inl ⟨by rfl, ?x8⟩) (by assumption) ?_
          case x8 => intro w hSw; (try dsimp only at hSw); go_simp <;> with_reducible rfl
          try simp only [List.getElem_toArray, List.getElem_cons_succ, List.getElem_cons_zero, Act.put, List.setIfInBounds_toArray, List.set_cons_zero, List.set_cons_succ]
          refine wpAnyH_ready (rs := [9]) (by kernel_rfl) (by simp) ?_
          refine AllReadyH.cons rfl (fun K hK => ?_) ?zz9
          case zz9 => exact AllReadyH.nil
          go_simp
          refine (CK.out _).mono ?_
          rintro e w9 ⟨rfl, b9⟩
          refine hK.out _ _ (keepP2 PA.out hg2.out b9 hHeld.1) (fun hNew => ?_)
          clear hHeld b9
          have hHeld := hNew
          clear hNew hK K
          try simp only [List.getElem_toArray, List.getElem_cons_succ, List.getElem_cons_zero, Act.put, List.setIfInBounds_toArray, List.set_cons_zero, List.set_cons_succ]
          refine wpAnyH_take (i := 10) (v := ?u10) rfl (by kernel_rfl) (by kernel_rfl) (by kernel_rfl) (fun _ _ _ h => h) (Or.inl ⟨by rfl, ?x10⟩) (by assumption) ?_
          case x10 => intro w hSw; (try dsimp only at hSw); go_simp <;> with_reducible rfl
          try simp only [List.getElem_toArray, List.getElem_cons_succ, List.getElem_cons_zero, Act.put, List.setIfInBounds_toArray, List.set_cons_zero, List.set_cons_succ]
          refine wpAnyH_take (i := 11) (v := ?u11) rfl (by kernel_rfl) (by kernel_rfl) (by kernel_rfl) (fun _ _ _ h => h) (Or.inl ⟨by rfl, ?x11⟩) (by assumption) ?_
          case x11 => intro w hSw; (try dsimp only at hSw); go_simp <;> with_reducible rfl
          try simp only [List.getElem_toArray, List.getElem_cons_succ, List.getElem_cons_zero, Act.put, List.setIfInBounds_toArray, List.set_cons_zero, List.set_cons_succ]
          refine wpAnyH_take (i := 12) (v := ?u12) rfl (by kernel_rfl) (by kernel_rfl) (by kernel_rfl) (fun _ _ _ h => h) (Or.inl ⟨by rfl, ?x12⟩) (by assumption) ?_
          case x12 => intro w hSw; (try dsimp only at hSw); go_simp <;> with_reducible rfl
          try simp only [List.getElem_toArray, List.getElem_cons_succ, List.getElem_cons_zero, Act.put, List.setIfInBounds_toArray, List.set_cons_zero, List.set_cons_succ]
          refine wpAnyH_take (i := 13) (v := ?u13) rfl (by kernel_rfl) (by kernel_rfl) (by kernel_rfl) (fun _ _ _ h => h) (Or.inl ⟨by rfl, ?x13⟩) (by assumption) ?_
          case x13 => intro w hSw; (try dsimp only at hSw); go_simp <;> with_reducible rfl
          try simp only [List.getElem_toArray, List.getElem_cons_succ, List.getElem_cons_zero, Act.put, List.setIfInBounds_toArray, List.set_cons_zero, List.set_cons_succ]
          refine wpAnyH_take (i := 14) (v := ?u14) rfl (by kernel_rfl) (by kernel_rfl) (by kernel_rfl) (fun _ _ _ h => h) (Or.inl ⟨by rfl, ?x14⟩) (by assumption) ?_
          case x14 => intro w hSw; (try dsimp only at hSw); go_simp <;> with_reducible rfl
          try simp only [List.getElem_toArray, List.getElem_cons_succ, List.getElem_cons_zero, Act.put, List.setIfInBounds_toArray, List.set_cons_zero, List.set_cons_succ]
          refine wpAnyH_take (i := 15) (v := ?u15) rfl (by kernel_rfl) (by kernel_rfl) (by kernel_rfl) (fun _ _ _ h => h) (Or.inl ⟨by rfl, ?x15⟩) (by assumption) ?_
          case x15 => intro w hSw; (try dsimp only at hSw); go_simp <;> with_reducible rfl
          try simp only [List.getElem_toArray, List.getElem_cons_succ, List.getElem_cons_zero, Act.put, List.setIfInBounds_toArray, List.set_cons_zero, List.set_cons_succ]
          refine wpAnyH_take (i := 16) (v := ?u16) rfl (by kernel_rfl) (by kernel_rfl) (by kernel_rfl) (fun _ _ _ h => h) (Or.inl ⟨by rfl, ?x16⟩) (by assumption) ?_
          case x16 => intro w hSw; (try dsimp only at hSw); go_simp <;> with_reducible rfl
          try simp only [List.getElem_toArray, List.getElem_cons_succ, List.getElem_cons_zero, Act.put, List.setIfInBounds_toArray, List.set_cons_zero, List.set_cons_succ]
          refine wpAnyH_take (i := 17) (v := ?u17) rfl (by kernel_rfl) (by kernel_rfl) (by kernel_rfl) (fun _ _ _ h => h) (Or.inl ⟨by rfl, ?x17⟩) (by assumption) ?_
          case x17 => intro w hSw; (try dsimp only at hSw); go_simp <;> with_reducible rfl
          try simp only [List.getElem_toArray, List.getElem_cons_succ, List.getElem_cons_zero, Act.put, List.setIfInBounds_toArray, List.set_cons_zero, List.set_cons_succ]
          refine wpAnyH_take (i := 18) (v := ?u18) rfl (by kernel_rfl) (by kernel_rfl) (by kernel_rfl) (fun _ _ _ h => h) (Or.inl ⟨by rfl, ?x18⟩) (by assumption) ?_
          case x18 => intro w hSw; (try dsimp only at hSw); go_simp <;> with_reducible rfl
          try simp only [List.getElem_toArray, List.getElem_cons_succ, List.getElem_cons_zero, Act.put, List.setIfInBounds_toArray, List.set_cons_zero, List.set_cons_succ]
          refine wpAnyH_take (i := 19) (v := ?u19) rfl (by kernel_rfl) (by kernel_rfl) (by kernel_rfl) (fun _ _ _ h => h) (Or.inl ⟨by rfl, ?x19⟩) (by assumption) ?_
          case x19 => intro w hSw; (try dsimp only at hSw); go_simp <;> with_reducible rfl
          try simp only [List.getElem_toArray, List.getElem_cons_succ, List.getElem_cons_zero, Act.put, List.setIfInBounds_toArray, List.set_cons_zero, List.set_cons_succ]
          refine wpAnyH_take (i := 20) (v := ?u20) rfl (by kernel_rfl) (by kernel_rfl) (by kernel_rfl) (fun _ _ _ h => h) (Or.inl ⟨by rfl, ?x20⟩) (by assumption) ?_
          case x20 => intro w hSw; (try dsimp only at hSw); go_simp <;> with_reducible rfl
          try simp only [List.getElem_toArray, List.getElem_cons_succ, List.getElem_cons_zero, Act.put, List.setIfInBounds_toArray, List.set_cons_zero, List.set_cons_succ]
          refine wpAnyH_ready (rs := [21]) (by kernel_rfl) (by simp) ?_
          refine AllReadyH.cons rfl (fun K hK => ?_) ?zz21
          case zz21 => exact AllReadyH.nil
          go_simp
          refine (by_any _ _ _).mono ?_
          rintro e w9 ⟨rfl, b9⟩
          refine hK.out _ _ (keepP2 PA.out hg2.out b9 hHeld.1) (fun hNew => ?_)
          clear hHeld b9
          have hHeld := hNew
          clear hNew hK K
          try simp only [List.getElem_toArray, List.getElem_cons_succ, List.getElem_cons_zero, Act.put, List.setIfInBounds_toArray, List.set_cons_zero, List.set_cons_succ]
          refine wpAnyH_take (i := 22) (v := ?u22) rfl (by kernel_rfl) (by kernel_rfl) (by kernel_rfl) (fun _ _ _ h => h) (Or.inl ⟨by rfl, ?x22⟩) (by assumption) ?_
          case x22 => intro w hSw; (try dsimp only at hSw); go_simp <;> with_reducible rfl
          try simp only [List.getElem_toArray, List.getElem_cons_succ, List.getElem_cons_zero, Act.put, List.setIfInBounds_toArray, List.set_cons_zero, List.set_cons_succ]
          refine wpAnyH_take (i := 23) (v := ?u23) rfl (by kernel_rfl) (by kernel_rfl) (by kernel_rfl) (fun _ _ _ h => h) (Or.inl ⟨by rfl, ?x23⟩) (by assumption) ?_
          case x23 => intro w hSw; (try dsimp only at hSw); go_simp <;> with_reducible rfl
          try simp only [List.getElem_toArray, List.getElem_cons_succ, List.getElem_cons_zero, Act.put, List.setIfInBounds_toArray, List.set_cons_zero, List.set_cons_succ]
          refine wpAnyH_take (i := 24) (v := ?u24) rfl (by kernel_rfl) (by kernel_rfl) (by kernel_rfl) (fun _ _ _ h => h) (Or.inl ⟨by rfl, ?x24⟩) (by assumption) ?_
          case x24 => intro w hSw; (try dsimp only at hSw); go_simp <;> with_reducible rfl
          try simp only [List.getElem_toArray, List.getElem_cons_succ, List.getElem_cons_zero, Act.put, List.setIfInBounds_toArray, List.set_cons_zero, List.set_cons_succ]
          refine wpAnyH_take (i := 25) (v := undef) rfl (by kernel_rfl) (by kernel_rfl) (by kernel_rfl) (fun _ _ _ h => h) (Or.inr ⟨by rfl, rfl⟩) (by assumption) ?_
          try simp only [List.getElem_toArray, List.getElem_cons_succ, List.getElem_cons_zero, Act.put, List.setIfInBounds_toArray, List.set_cons_zero, List.set_cons_succ]
          refine wpAnyH_take (i := 26) (v := undef) rfl (by kernel_rfl) (by kernel_rfl) (by kernel_rfl) (fun _ _ _ h => h) (Or.inr ⟨by rfl, rfl⟩) (by assumption) ?_
          try simp only [List.getElem_toArray, List.getElem_cons_succ, List.getElem_cons_zero, Act.put, List.setIfInBounds_toArray, List.set_cons_zero, List.set_cons_succ]
          refine wpAnyH_take (i := 27) (v := undef) rfl (by kernel_rfl) (by kernel_rfl) (by kernel_rfl) (fun _ _ _ h => h) (Or.inr ⟨by rfl, rfl⟩) (by assumption) ?_
          try simp only [List.getElem_toArray, List.getElem_cons_succ, List.getElem_cons_zero, Act.put, List.setIfInBounds_toArray, List.set_cons_zero, List.set_cons_succ]
          refine wpAnyH_take (i := 28) (v := undef) rfl (by kernel_rfl) (by kernel_rfl) (by kernel_rfl) (fun _ _ _ h => h) (Or.inr ⟨by rfl, rfl⟩) (by assumption) ?_
          try simp only [List.getElem_toArray, List.getElem_cons_succ, List.getElem_cons_zero, Act.put, List.setIfInBounds_toArray, List.set_cons_zero, List.set_cons_succ]
          refine wpAnyH_take (i := 29) (v := undef) rfl (by kernel_rfl) (by kernel_rfl) (by kernel_rfl) (fun _ _ _ h => h) (Or.inr ⟨by rfl, rfl⟩) (by assumption) ?_
          try simp only [List.getElem_toArray, List.getElem_cons_succ, List.getElem_cons_zero, Act.put, List.setIfInBounds_toArray, List.set_cons_zero, List.set_cons_succ]
          refine wpAnyH_take (i := 30) (v := undef) rfl (by kernel_rfl) (by kernel_rfl) (by kernel_rfl) (fun _ _ _ h => h) (Or.inr ⟨by rfl, rfl⟩) (by assumption) ?_
          try simp only [List.getElem_toArray, List.getElem_cons_succ, List.getElem_cons_zero, Act.put, List.setIfInBounds_toArray, List.set_cons_zero, List.set_cons_succ]
          refine wpAnyH_take (i := 31) (v := undef) rfl (by kernel_rfl) (by kernel_rfl) (by kernel_rfl) (fun _ _ _ h => h) (Or.inr ⟨by rfl, rfl⟩) (by assumption) ?_
          try simp only [List.getElem_toArray, List.getElem_cons_succ, List.getElem_cons_zero, Act.put, List.setIfInBounds_toArray, List.set_cons_zero, List.set_cons_succ]
          refine wpAnyH_take (i := 32) (v := ?u32) rfl (by kernel_rfl) (by kernel_rfl) (by kernel_rfl) (fun _ _ _ h => h) (Or.inl ⟨by rfl, ?x32⟩) (by assumption) ?_
          case x32 => intro w hSw; (try dsimp only at hSw); go_simp <;> with_reducible rfl
          try simp only [List.getElem_toArray, List.getElem_cons_succ, List.getElem_cons_zero, Act.put, List.setIfInBounds_toArray, List.set_cons_zero, List.set_cons_succ]
          refine wpAnyH_take (i := 33) (v := ?u33) rfl (by kernel_rfl) (by kernel_rfl) (by kernel_rfl) (fun _ _ _ h => h) (Or.inl ⟨by rfl, ?x33⟩) (by assumption) ?_
          case x33 => intro w hSw; (try dsimp only at hSw); go_simp <;> with_reducible rfl
          try simp only [List.getElem_toArray, List.getElem_cons_succ, List.getElem_cons_zero, Act.put, List.setIfInBounds_toArray, List.set_cons_zero, List.set_cons_succ]
          refine wpAnyH_take (i := 34) (v := ?u34) rfl (by kernel_rfl) (by kernel_rfl) (by kernel_rfl) (fun _ _ _ h => h) (Or.inl ⟨by rfl, ?x34⟩) (by assumption) ?_
          case x34 => intro w hSw; (try dsimp only at hSw); go_simp <;> with_reducible rfl
          try simp only [List.getElem_toArray, List.getElem_cons_succ, List.getElem_cons_zero, Act.put, List.setIfInBounds_toArray, List.set_cons_zero, List.set_cons_succ]
          refine wpAnyH_done (by kernel_rfl) ?_ _
          go_wp2
          go_ret
          exact ⟨rfl, bt hBc.out hHeld.1⟩
end Go.Proofs.Ytpoheimcbfbkdaa.Stamp
