/- CrcThree answers true, and changes nothing that was there. Conditions: the slices' cells are bytes. -/
import Derived.Test.YtmhjepdnagmkpaaCrcLaws
import Derived.RegionTactic
import Derived.ChangeAlike
namespace Go.Proofs.Ytmhjepdnagmkpaa.Crc
open Go.RowKit

theorem x3_len : ∀ (xa xb xc : List UInt8), xa.length = xb.length → xb.length = xc.length → (x3 xa xb xc).length = xa.length
  | [], [], [], _, _ => rfl
  | a :: xa, b :: xb, c :: xc, h1, h2 => by simp [x3, x3_len xa xb xc (by simpa using h1) (by simpa using h2)]
  | [], _ :: _, _, h, _ => by simp at h
  | _ :: _, [], _, h, _ => by simp at h
  | _, [], _ :: _, _, h => by simp at h
  | _, _ :: _, [], _, h => by simp at h
theorem x3_get : ∀ (xa xb xc : List UInt8) (k : Nat), xa.length = xb.length → xb.length = xc.length → k < xa.length → (x3 xa xb xc).getD k 0 = xa.getD k 0 ^^^ xb.getD k 0 ^^^ xc.getD k 0
  | a :: xa, b :: xb, c :: xc, 0, _, _, _ => rfl
  | a :: xa, b :: xb, c :: xc, k + 1, h1, h2, h3 => by
    have := x3_get xa xb xc k (by simpa using h1) (by simpa using h2) (by simpa using h3)
    simpa [x3] using this
  | [], _, _, _, _, _, h => by simp at h
  | _ :: _, [], _, _, h, _, _ => by simp at h
  | _, _ :: _, [], _, _, h, _ => by simp at h
/-- What is filled in so far. -/
def fill (zs : List UInt8) (k : Nat) : List UInt8 := zs.take k ++ List.replicate (zs.length - k) 0
theorem fill_len (zs : List UInt8) (k : Nat) (h : k ≤ zs.length) : (fill zs k).length = zs.length := by simp [fill]; omega
theorem fill_set (zs : List UInt8) (k : Nat) (h : k < zs.length) : fill zs (k + 1) = (fill zs k).set k (zs.getD k 0) := by
  obtain ⟨m, hm⟩ : ∃ m, zs.length - k = m + 1 := ⟨zs.length - k - 1, by omega⟩
  have hl : (zs.take k).length = k := by simp; omega
  have e : (zs.take k ++ List.replicate (m + 1) 0).set k (zs.getD k 0) = zs.take k ++ (List.replicate (m + 1) 0).set 0 (zs.getD k 0) := by
    rw [List.set_append_right k (zs.getD k 0) (by omega), hl, Nat.sub_self]
  unfold fill
  rw [hm, e, show zs.length - (k + 1) = m by omega, List.take_succ_eq_append_getElem h, List.replicate_succ, List.set_cons_zero, List.append_assoc]
  simp [List.getD, List.getElem?_eq_getElem h]
theorem fill_zero (zs : List UInt8) : fill zs 0 = List.replicate zs.length 0 := by simp [fill]
theorem fill_all (zs : List UInt8) : fill zs zs.length = zs := by simp [fill]

theorem bs_zeros (n : Nat) : bs (List.replicate n 0) = List.replicate n (.int .u8 0) := by simp [bs]
theorem xor3 (a b c : UInt8) : bits .xor .u8 (a.toNat : Int) (b.toNat : Int) = ((a ^^^ b).toNat : Int) ∧ bits .xor .u8 ((a ^^^ b).toNat : Int) (c.toNat : Int) = ((a ^^^ b ^^^ c).toNat : Int) := by
  have h (x y : UInt8) : bits .xor .u8 (x.toNat : Int) (y.toNat : Int) = ((x ^^^ y).toNat : Int) := by
    rw [u8_xor_nat _ _ (UInt8.toNat_lt x) (UInt8.toNat_lt y), UInt8.toNat_xor]
  exact ⟨h a b, h (a ^^^ b) c⟩

def SumIs (l : List UInt8) (s : Nat) : Prop := ∀ (w : World) (v : Value), Reads w v l → Calls Try.prog 11 #[v] w fun e w' => e = .returned (.int .u32 (s : Int)) ∧ Below w.heap.size w w'
theorem keepR {w w1 w2 : World} {B : Nat} {v0 v1 v2 v3 : Value} {l0 l1 l2 l3 : List UInt8} (h : Below w1.heap.size w1 w2) (hb : Below B w w1) (hB : B ≤ w1.heap.size) (h0 : Reads w1 v0 l0) (h1 : Reads w1 v1 l1) (h2 : Reads w1 v2 l2) (h3 : Reads w1 v3 l3) :
    Below B w w2 ∧ B ≤ w2.heap.size ∧ Reads w2 v0 l0 ∧ Reads w2 v1 l1 ∧ Reads w2 v2 l2 ∧ Reads w2 v3 l3 :=
  ⟨hb.trans (h.mono hB), Nat.le_trans hB h.size, h0.keeps h, h1.keeps h, h2.keeps h, h3.keeps h⟩
theorem keepRd {w w1 : World} {B : Nat} {v0 v1 v2 v3 : Value} {l0 l1 l2 l3 : List UInt8} (hb : Below B w w1) (hB : B ≤ w1.heap.size) (h0 : Reads w1 v0 l0) (h1 : Reads w1 v1 l1) (h2 : Reads w1 v2 l2) (h3 : Reads w1 v3 l3) :
    Below B w w1.drew ∧ B ≤ w1.drew.heap.size ∧ Reads w1.drew v0 l0 ∧ Reads w1.drew v1 l1 ∧ Reads w1.drew v2 l2 ∧ Reads w1.drew v3 l3 :=
  have h : Below w1.heap.size w1 w1.drew := (Below.refl _ _).drew
  ⟨hb.drew, hB, h0.keeps h, h1.keeps h, h2.keeps h, h3.keeps h⟩

set_option maxHeartbeats 4000000 in
theorem three_walk (ao bo co : Option Addr) (ca cb cc : Nat) (xa xb xc : List UInt8) (w : World) (ha : Reads w (.slice ao xa.length ca) xa) (hb : Reads w (.slice bo xb.length cb) xb) (hc : Reads w (.slice co xc.length cc) xc) :
    Calls Try.prog 7 #[.slice ao xa.length ca, .slice bo xb.length cb, .slice co xc.length cc] w fun e w' => e = .returned (.bool true) ∧ Below w.heap.size w w' := by
  obtain ⟨n, hn⟩ : ∃ n, n = min xa.length (min xb.length xc.length) := ⟨_, rfl⟩
  have hmin : ∀ w : World, (Builtin.min_ #[3, 3, 3] 3 #[.int .i64 (xa.length : Int), .int .i64 (xb.length : Int), .int .i64 (xc.length : Int)]).run Try.prog w = .ok (.int .i64 (n : Int)) w := by
    intro w
    rw [run_min_int3]
    congr 2
    split <;> split <;> omega
  have HA := Lib.hid ha
  have HB := Lib.hid hb
  have HC := Lib.hid hc
  have HN := Lib.hid hn
  clear ha hb hc hn
  go_enter Try.func7, Try.ntmps7
  go_wp2_with fail
  refine (alive_any w).mono ?_
  rintro e w1 ⟨rfl, b1⟩
  have HA1 := Lib.hid (Reads.keeps HA.out b1)
  have HB1 := Lib.hid (Reads.keeps HB.out b1)
  have HC1 := Lib.hid (Reads.keeps HC.out b1)
  by_cases h1 : 10000 < n
  · have t1 : decide ((10000 : Int) < (n : Int)) = true := by simp; omega
    go_wp2
    go_ret
    exact ⟨rfl, b1⟩
  have t1 : decide ((10000 : Int) < (n : Int)) = false := by simp; omega
  obtain ⟨i0, hi, hz0, hz1, hz2⟩ := info_parts u8_info
  have i0b : i0.bytes * n ≤ 281474976710656 := by rw [hz2]; omega
  have I0 := Lib.hid i0b
  clear i0b
  go_wp2_with (refine wpList_make_full _ rfl (.tmp 22) (.tmp 22) 28 rfl w1.heap.size 5 i0 (.int .u8 0) 1 Try.underlying28 hi hz0 hz1 .i64 .i64 (n : Int) (n : Int) n rfl rfl rfl rfl I0.out (by unfold maxLen; omega) (Nat.le_refl _) ?_)
  intro w2 own2 grow2
  have hmn : n ≤ xa.length ∧ n ≤ xb.length ∧ n ≤ xc.length := by have := HN.out; omega
  obtain ⟨hna, hnb, hnc⟩ := hmn
  obtain ⟨Z, hZ⟩ : ∃ Z, Z = x3 (xa.take n) (xb.take n) (xc.take n) := ⟨_, rfl⟩
  have hZl : Z.length = n := by rw [hZ, x3_len _ _ _ (by simp; omega) (by simp; omega)]; simp; omega
  have hZg (k : Nat) (hk : k < n) : Z.getD k 0 = xa.getD k 0 ^^^ xb.getD k 0 ^^^ xc.getD k 0 := by
    rw [hZ, x3_get _ _ _ _ (by simp; omega) (by simp; omega) (by simp; omega)]
    simp [List.getD, hk]
  have hsum := sum3 (xa.take n) (xb.take n) (xc.take n) (by simp; omega) (by simp; omega)
  rw [← hZ] at hsum
  have HO : Hid (w2.ownsRow w1.heap.size 5 1 (.slice (some ⟨w1.heap.size, 0, none⟩) n n) n (bs (fill Z 0))) := by
    rw [fill_zero, hZl, bs_zeros, ← toList_madeCells_one]; exact own2
  have hb2 : Below w1.heap.size w1 w2 := (Below.refl _ _).grown grow2 (Nat.le_refl _) (by intro k hk; cases hk)
  have HS := Lib.hid hsum
  have HZl := Lib.hid hZl
  have HZg := Lib.hid hZg
  clear own2 grow2 hsum hZ hZl hZg hz0 hz1 hz2 hi
  go_wp2_with fail
  go_loopw [10] (fun i wr => ∃ k : Nat, k ≤ n ∧ i = .int .i64 (k : Int) ∧ Hid (wr.ownsRow w1.heap.size 5 1 (.slice (some ⟨w1.heap.size, 0, none⟩) n n) n (bs (fill Z k))) ∧ Hid (Below w1.heap.size w1 wr)) (fun i _ => n - (intOf i).toNat)
  case atStart => exact ⟨0, by omega, rfl, HO, Lib.hid hb2⟩
  case round =>
    obtain ⟨k, hk, rfl, hown, hbel⟩ := hrel
    by_cases hkn : k < n
    · have q1 : decide (k < n) = true := by simpa using hkn
      obtain ⟨ba, oa, rfl, _, hca⟩ := Reads.at (Reads.keeps HA1.out hbel.out) k (by omega)
      obtain ⟨bb, ob, rfl, _, hcb⟩ := Reads.at (Reads.keeps HB1.out hbel.out) k (by omega)
      obtain ⟨bc, oc, rfl, _, hcc⟩ := Reads.at (Reads.keeps HC1.out hbel.out) k (by omega)
      have hz := HZg.out k hkn
      obtain ⟨x, hx⟩ : ∃ x, x = xa.getD k 0 := ⟨_, rfl⟩
      obtain ⟨y, hy⟩ : ∃ y, y = xb.getD k 0 := ⟨_, rfl⟩
      obtain ⟨z, hzz⟩ : ∃ z, z = xc.getD k 0 := ⟨_, rfl⟩
      rw [← hx] at hca hz
      rw [← hy] at hcb hz
      rw [← hzz] at hcc hz
      obtain ⟨u, hu⟩ : ∃ u, u = x ^^^ y ^^^ z := ⟨_, rfl⟩
      obtain ⟨x1, x2⟩ := xor3 x y z
      obtain ⟨p, hp⟩ : ∃ p, p = (x ^^^ y).toNat := ⟨_, rfl⟩
      rw [← hu] at x2 hz
      rw [← hp] at x1 x2
      clear hp
      have hco : ∃ v, wr.cell? ⟨w1.heap.size, k, none⟩ = some v := ⟨_, by rw [hown.out.cellAt k (by omega), bs_get _ _ (by rw [fill_len _ _ (by rw [HZl.out]; omega), HZl.out]; omega)]⟩
      obtain ⟨v0, hco⟩ := hco
      have hfo : wr.frozen? ⟨w1.heap.size, k, none⟩ = false := hown.out.frozenAt k
      have q2 : (0 : Int) ≤ (k : Int) := by omega
      have q3 : (k : Int) < (n : Int) := by omega
      have q4 : (k : Int) < (xa.length : Int) := by omega
      have q5 : (k : Int) < (xb.length : Int) := by omega
      have q6 : (k : Int) < (xc.length : Int) := by omega
      have HU := Lib.hid hz
      clear hx hy hzz hu hz
      go_wp2
      go_region
      go_wp2
      go_roundw
      case rel =>
        refine ⟨k + 1, by omega, by go_num, Lib.hid ?_, Lib.hid ?_⟩
        · rw [fill_set Z k (by rw [HZl.out]; omega), HU.out]
          have e : bs ((fill Z k).set k u) = (bs (fill Z k)).set k (.int .u8 (u.toNat : Int)) := by simp [bs, List.map_set]
          rw [e]
          exact (hown.out.stored k _).1.drew
        · exact (hbel.out.setCell (p := ⟨w1.heap.size, k, none⟩) (Nat.le_refl _) _).drew
      case measure => simp [intOf]; omega
    · have q1 : decide (k < n) = false := by simpa using hkn
      obtain rfl : k = n := by omega
      have hsz : Reads wr (.slice (some ⟨w1.heap.size, 0, none⟩) k k) Z := by
        have h := hown.out
        have e : fill Z k = Z := by have := fill_all Z; rwa [HZl.out] at this
        rw [e] at h
        have h2 := HZl.out
        have h3 := Reads.own (xs := Z) (by rw [h2]; exact h)
        exact h3
      have RA := (Reads.keeps HA1.out hbel.out).take hna
      have RB := (Reads.keeps HB1.out hbel.out).take hnb
      have RC := (Reads.keeps HC1.out hbel.out).take hnc
      have hba : (k : Int) ≤ (ca : Int) := by have := (Reads.cap HA1.out).2.1; omega
      have hbb : (k : Int) ≤ (cb : Int) := by have := (Reads.cap HB1.out).2.1; omega
      have hbc : (k : Int) ≤ (cc : Int) := by have := (Reads.cap HC1.out).2.1; omega
      have hbB : Below w.heap.size w wr := bt b1 hbel.out
      have hbS := hbB.size
      obtain ⟨ZA, hZA⟩ : ∃ l, l = xa.take k := ⟨_, rfl⟩
      obtain ⟨ZB, hZB⟩ : ∃ l, l = xb.take k := ⟨_, rfl⟩
      obtain ⟨ZC, hZC⟩ : ∃ l, l = xc.take k := ⟨_, rfl⟩
      have hS := HS.out
      rw [← hZA, ← hZB, ← hZC] at hS
      rw [← hZA] at RA
      rw [← hZB] at RB
      rw [← hZC] at RC
      have lA := sumT_lt tab_lt ZA
      have lB := sumT_lt tab_lt ZB
      have lC := sumT_lt tab_lt ZC
      obtain ⟨sA, hsA⟩ : ∃ l, l = sumT entry ZA := ⟨_, rfl⟩
      obtain ⟨sB, hsB⟩ : ∃ l, l = sumT entry ZB := ⟨_, rfl⟩
      obtain ⟨sC, hsC⟩ : ∃ l, l = sumT entry ZC := ⟨_, rfl⟩
      obtain ⟨sZ, hsZ⟩ : ∃ l, l = sumT entry Z := ⟨_, rfl⟩
      rw [← hsA, ← hsB, ← hsC, ← hsZ] at hS
      rw [← hsA] at lA
      rw [← hsB] at lB
      rw [← hsC] at lC
      have x1 := entry_y sA sB lA lB
      have x2 := entry_y (sA ^^^ sB) sC (x32 lA lB) lC
      rw [← hS] at x2
      obtain ⟨sD, hsD⟩ : ∃ l, l = sA ^^^ sB := ⟨_, rfl⟩
      rw [← hsD] at x1 x2
      have CA : SumIs ZA sA := fun w v h => by rw [hsA]; exact sum_reads h
      have CB : SumIs ZB sB := fun w v h => by rw [hsB]; exact sum_reads h
      have CC : SumIs ZC sC := fun w v h => by rw [hsC]; exact sum_reads h
      have CZ : SumIs Z sZ := fun w v h => by rw [hsZ]; exact sum_reads h
      clear hZA hZB hZC hS hsA hsB hsC hsZ hsD lA lB lC HZg HS HZl
      go_wp2
      go_region_held3 (fun w' => Below w.heap.size w w' ∧ w.heap.size ≤ w'.heap.size ∧ Reads w' (.slice (some ⟨w1.heap.size, 0, none⟩) k k) Z ∧ Reads w' (.slice ao k ca) ZA ∧ Reads w' (.slice bo k cb) ZB ∧ Reads w' (.slice co k cc) ZC)
        (first | exact ⟨hbB, hbB.size, hsz, RA, RB, RC⟩ | (go_split_ands; refine keepRd ?_ ?_ ?_ ?_ ?_ ?_ <;> assumption) | (go_split_ands; exact keepR (by assumption) (by assumption) (by assumption) (by assumption) (by assumption) (by assumption) (by assumption)))
        ((first | (go_at_call 11; go_split_ands; first | (refine (CZ _ _ (by assumption)).mono ?_; rintro e w2 ⟨rfl, b2⟩) | (refine (CA _ _ (by assumption)).mono ?_; rintro e w2 ⟨rfl, b2⟩) | (refine (CB _ _ (by assumption)).mono ?_; rintro e w2 ⟨rfl, b2⟩) | (refine (CC _ _ (by assumption)).mono ?_; rintro e w2 ⟨rfl, b2⟩))))
      go_wp2
      go_ret
      go_split_ands
      exact ⟨rfl, by assumption⟩
end Go.Proofs.Ytmhjepdnagmkpaa.Crc
