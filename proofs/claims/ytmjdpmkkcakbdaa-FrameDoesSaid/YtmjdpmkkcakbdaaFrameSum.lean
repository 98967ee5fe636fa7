/- A sum's four bytes (frame.sumOf); bytes.Equal and bytes.Clone. Conditions: none. -/
import Derived.Test.YtmjdpmkkcakbdaaFrameMath
import Derived.Test.YtmjdpmkkcakbdaaCrcSum
import Derived.Test.YtmjdpmkkcakbdaaApp
namespace Go.Proofs.Ytmjdpmkkcakbdaa.Frame
open Go.RowKit Num Crc

/-- The first k of a number's four bytes. -/
def part4 (s k : Nat) : Array Value := #[.int .u8 (((if 0 < k then s % 256 else 0 : Nat)) : Int), .int .u8 (((if 1 < k then s / 256 % 256 else 0 : Nat)) : Int), .int .u8 (((if 2 < k then s / 65536 % 256 else 0 : Nat)) : Int), .int .u8 (((if 3 < k then s / 16777216 % 256 else 0 : Nat)) : Int)]
def rest4 (s : Nat) : Nat → Nat
  | 0 => s
  | k + 1 => rest4 s k / 256
theorem part4_set (s k : Nat) (hk : k < 4) : (part4 s k).setIfInBounds k (.int .u8 ((rest4 s k % 256 : Nat) : Int)) = part4 s (k + 1) := by
  match k, hk with
  | 0, _ => simp [part4, rest4]
  | 1, _ => simp [part4, rest4]
  | 2, _ => simp [part4, rest4, Nat.div_div_eq_div_mul]
  | 3, _ => simp [part4, rest4, Nat.div_div_eq_div_mul]
theorem part4_get (s k j : Nat) (hj : j < 4) : ∃ v, (part4 s k)[j]? = some v := by
  match j, hj with
  | 0, _ => exact ⟨_, rfl⟩
  | 1, _ => exact ⟨_, rfl⟩
  | 2, _ => exact ⟨_, rfl⟩
  | 3, _ => exact ⟨_, rfl⟩
theorem part4_all (s : Nat) (hs : s < 4294967296) : part4 s 4 = (bs (le4 s)).toArray := by
  have h : s / 16777216 % 256 = s / 16777216 := by omega
  simp [part4, le4, bs, h]
theorem rest4_lt (s k : Nat) (hs : s < 4294967296) : rest4 s k < 4294967296 := by
  induction k with
  | zero => exact hs
  | succ k ih => show rest4 s k / 256 < _; omega
theorem bs4_one (l : List UInt8) : (bs l).toArray.all (·.oneCell') = true := by
  rw [Array.all_eq_true]
  intro i hi
  have := bs_oneCell l ((bs l)[i]'(by simpa using hi)) (List.getElem_mem _)
  simpa using this

theorem four_info : (Try.prog.info? 31).map (fun i => (i.zero, i.size)) = some (some (.agg #[.int .u8 0, .int .u8 0, .int .u8 0, .int .u8 0]), 4) := by kernel_rfl
theorem four_zero : ∀ w, (zeroValue 31).run Try.prog w = .ok (.agg #[.int .u8 0, .int .u8 0, .int .u8 0, .int .u8 0]) w := (zero_of_info four_info).1
theorem four_size : (Try.prog.info? 31).map (·.size) = some 4 := (zero_of_info four_info).2

set_option maxHeartbeats 1000000 in
theorem sumOf_any (T : Nat → Nat) (hT : ∀ i, i < 256 → T i < 4294967296) {w : World} {v : Value} {xs : List UInt8} (hr : Reads w v xs) :
    Calls Try.prog 14 #[.agg (row T), v] w fun e w' => e = .returned (.agg (bs (le4 (sumT T xs))).toArray) ∧ Below w.heap.size w w' := by
  obtain ⟨ao, cap, rfl⟩ := hr.shape
  obtain ⟨R, hR⟩ : ∃ R, R = row T := ⟨_, rfl⟩
  obtain ⟨Z, hZ⟩ : ∃ Z : Array Value, Z = #[.int .u8 0, .int .u8 0, .int .u8 0, .int .u8 0] := ⟨_, rfl⟩
  have hz := four_zero
  rw [← hZ] at hz
  have hRs : (Try.prog.info? 37).map (·.size) = some R.size := by rw [hR, row_size]; exact tab_size
  rw [← hR]
  obtain ⟨s, hs⟩ : ∃ s, s = sumT T xs := ⟨_, rfl⟩
  have hs4 : s < 4294967296 := by rw [hs]; exact sumT_lt hT xs
  rw [← hs]
  have h0 := Lib.hid (heap_alloc2_old w (.cells R 37) (.cells Z 31))
  have hb0 : Below w.heap.size w ((w.alloc (.cells R 37)).alloc (.cells Z 31)) := ((Below.refl _ _).alloc (Nat.le_refl _) _).alloc (by simp) _
  have hr1 := Lib.hid (hr.keeps hb0)
  have hc := sum_any T hT hr1.out
  rw [← hR, ← hs] at hc
  have HC := Lib.hid hc
  have HZ := Lib.hid hZ
  have HRs := Lib.hid hRs
  clear hR hZ hs hRs hr hc
  go_enter Try.func14, Try.ntmps14
  go_wp2_with (first | fail | (refine wpList_load_row rfl 37 (.tmp 2) rfl w.heap.size rfl 37 R (0, 0) _ h0.out Try.underlying37 rfl HRs.out ?_))
  refine HC.out.mono ?_
  rintro e w1 ⟨rfl, b1⟩
  have hb1 : Below w.heap.size w w1 := hb0.trans (b1.mono hb0.size)
  have hZ1 : w1.heap[w.heap.size + 1]? = some (.cells Z 31) := (b1.block _ (by simp)).trans (heap_alloc2_new w (.cells R 37) (.cells Z 31))
  have hZ2 := Lib.hid ((heap_alloc_old w1 (.cells (part4 s 4) 31) (Array.getElem?_eq_some_iff.1 hZ1).1).trans hZ1)
  have HZs : Hid (Z.size = (part4 s 4).size) := by rw [HZ.out]; rfl
  have hz4 : ∀ w, (zeroValue 31).run Try.prog w = .ok (.agg (part4 s 0)) w := four_zero
  have HU := Lib.hid (part4_set s)
  have HG := Lib.hid (part4_get s)
  have HL := Lib.hid (rest4_lt s)
  have HA := Lib.hid (part4_all s hs4)
  clear hz b1 hb0 hr1 h0 HRs hT HC HZ hZ1
  go_wp2_with fail
  go_loopw [5, 11] (fun n i wr => ∃ k : Nat, k ≤ 4 ∧ i = .int .i64 (k : Int) ∧ n = .int .u32 (rest4 s k : Int) ∧ wr = w1.alloc (.cells (part4 s k) 31)) (fun _ i _ => 4 - (intOf i).toNat)
  case atStart => exact ⟨0, by omega, rfl, rfl, rfl⟩
  case round =>
    obtain ⟨k, hk, rfl, rfl, rfl⟩ := hrel
    by_cases hlt : k < 4
    · have t1 : decide ((k : Int) < 4) = true := by simp; omega
      obtain ⟨u, hg⟩ := HG.out k k hlt
      have e1 : IntKind.u8.wrap (rest4 s k : Int) = ((rest4 s k % 256 : Nat) : Int) := by simp [IntKind.wrap, IntKind.bits, IntKind.signed]
      have hrl := HL.out k hs4
      obtain ⟨n, hn⟩ : ∃ n, n = rest4 s k := ⟨_, rfl⟩
      obtain ⟨m, hm⟩ : ∃ m, m = n % 256 := ⟨_, rfl⟩
      rw [← hn] at e1 hrl
      rw [← hm] at e1
      have HN := Lib.hid hn
      have HM := Lib.hid hm
      rw [← hn]
      clear hn hm
      go_wp2
      go_roundw
      case rel =>
        refine ⟨k + 1, by omega, by go_num, ?_, ?_⟩
        · show Value.int .u32 ((n : Int) / 256) = .int .u32 ((rest4 s k / 256 : Nat) : Int)
          rw [← HN.out]; rfl
        · rw [HM.out, HN.out, HU.out k hlt]
      case measure => simp [intOf]; omega
    · have t1 : decide ((k : Int) < 4) = false := by simp; omega
      obtain rfl : k = 4 := by omega
      obtain ⟨Y, hY⟩ : ∃ Y, Y = part4 s 4 := ⟨_, rfl⟩
      have hYs : (Try.prog.info? 31).map (·.size) = some Y.size := by rw [hY]; exact four_size
      have hZY : Z.size = Y.size := by rw [hY]; exact HZs.out
      have hY1 : Y.all (·.oneCell') = true := by rw [hY, HA.out]; exact bs4_one _
      have h1 := Lib.hid (heap_alloc_new w1 (.cells Y 31))
      have h2 := hZ2.out
      rw [← hY] at h2
      have H2 := Lib.hid h2
      have HYs := Lib.hid hYs
      have HZY := Lib.hid hZY
      have HY := Lib.hid hY
      rw [← hY]
      clear hY hYs hZY h2 hZ2 HU HG HL HZs
      go_wp2_with (first | (refine wpList_load_row rfl 31 (.tmp 6) rfl w1.heap.size rfl 31 Y (0, 0) _ h1.out Try.underlying31 rfl HYs.out ?_) | (refine wpList_store_row rfl 31 (.tmp 4) (.tmp 21) rfl (w.heap.size + 1) Y rfl rfl 31 Z H2.out HYs.out HZY.out hY1 ?_))
      have h3 := setRow_heap _ (w.heap.size + 1) Z Y 31 (0, 0) H2.out
      refine bodyPost_ret (v := .agg Y) (results_cell_row rfl _ _ _ _ _ _ _ rfl h3 Try.underlying31 rfl HYs.out) rfl ⟨?_, ?_⟩
      · rw [HY.out, HA.out]
      · exact below_setRow (hb1.alloc hb1.size _) (by omega) _

theorem equal_any {w : World} {u v : Value} {xs ys : List UInt8} (hx : Reads w u xs) (hy : Reads w v ys) :
    Calls Try.prog 17 #[u, v] w fun e w' => e = .returned (.bool (xs == ys)) ∧ w = w' := by
  have e0 : ((str xs).toList == (str ys).toList) = (xs == ys) := by rw [ByteArray.toList_eq, ByteArray.toList_eq]; simp [str]
  have s1 := run_string hx
  have s2 := run_string hy
  have E0 := Lib.hid e0
  clear e0 hx hy
  go_enter Try.func17, Try.ntmps17
  go_wp2
  go_ret
  exact ⟨by rw [← E0.out]; rfl, rfl⟩

theorem clone_any {w : World} {a : Addr} {n cap : Nat} {xs : List UInt8} (hx : Reads w (.slice (some a) n cap) xs) (h47 : xs.length ≤ 140737488355328) :
    Calls Try.prog 18 #[.slice (some a) n cap] w fun e w' => ∃ v, e = .returned v ∧ w'.ownsRow w.heap.size 5 1 v xs.length (bs xs) ∧ Below w.heap.size w w' := by
  have hx1 := Lib.hid (hx.keeps ((Below.refl w.heap.size w).alloc (Nat.le_refl _) (.cells #[] 5)))
  have own0 := own_new w w.heap.size (Nat.le_refl _)
  have he : ∀ w : World, (binOp .eql 23 (.slice (some a) n cap) (.slice none 0 0)).run Try.prog w = .ok (.bool false) w := fun _ => rfl
  clear hx
  go_enter Try.func18, Try.ntmps18
  go_wp2_with (at_builtin; refine wpList_append_bytes rfl (.tmp 5) (.tmp 6) rfl w.heap.size _ [] rfl own0 _ xs rfl hx1.out ?k1 ?k2 ?_)
  case k1 => simp; omega
  case k2 => simp
  intro v2 w2 own2 b2
  have hb2 : Below w.heap.size w w2 := ((Below.refl _ _).alloc (Nat.le_refl _) _).trans b2
  go_wp2
  go_ret
  exact ⟨_, rfl, own2, hb2⟩
end Go.Proofs.Ytmjdpmkkcakbdaa.Frame
