/- The tables of layer 2 are Crc.row Crc.entry, in memory of their own. Conditions: none. -/
import Derived.Test.YtmjdpmkkcakbdaaCrcWalk
import Derived.Laws.CopyOwn
namespace Go.Proofs.Ytmjdpmkkcakbdaa.Crc
open Go.RowKit

/-- 256 numbers as an array's cells. -/
def row (f : Nat → Nat) : Array Value := ((List.range 256).map fun i => Value.int .u32 (f i : Int)).toArray
theorem row_size (f : Nat → Nat) : (row f).size = 256 := by simp [row]
theorem row_get (f : Nat → Nat) (i : Nat) (h : i < 256) : (row f)[i]? = some (.int .u32 (f i : Int)) := by simp [row, h]
theorem row_set (f : Nat → Nat) (i n : Nat) : (row f).setIfInBounds i (.int .u32 (n : Int)) = row (fun j => if j = i then n else f j) := by
  apply Array.ext_getElem?
  intro j
  rw [Array.getElem?_setIfInBounds]
  by_cases hj : j < 256
  · rw [row_get _ j hj, row_get _ j hj]
    by_cases hi : i = j
    · subst hi; simp [row_size, hj]
    · rw [if_neg hi, if_neg (fun e => hi e.symm)]
  · rw [Array.getElem?_eq_none (by rw [row_size]; omega), Array.getElem?_eq_none (by rw [row_size]; omega)]
    by_cases hi : i = j
    · subst hi; simp [row_size, hj]
    · rw [if_neg hi]
theorem row_one (f : Nat → Nat) : (row f).all (·.oneCell') = true := by simp [row, Value.oneCell']
theorem row_congr {f g : Nat → Nat} (h : ∀ i, i < 256 → f i = g i) : row f = row g := by
  unfold row
  congr 1
  apply List.map_congr_left
  intro i hi
  rw [h i (by simpa using hi)]

theorem tab_info : (Try.prog.info? 37).map (fun i => (i.zero, i.size)) = some (some (.agg (row fun _ => 0)), 256) := by kernel_rfl
theorem tab_zero : ∀ w, (zeroValue 37).run Try.prog w = .ok (.agg (row fun _ => 0)) w := (zero_of_info tab_info).1
theorem tab_size : (Try.prog.info? 37).map (·.size) = some 256 := (zero_of_info tab_info).2

def upto (k : Nat) : Array Value := row fun j => if j < k then entry j else 0
theorem upto_zero : row (fun _ => 0) = upto 0 := by unfold upto; exact row_congr fun i _ => by rw [if_neg (by omega)]
theorem upto_all : upto 256 = row entry := by unfold upto; exact row_congr fun i hi => by rw [if_pos hi]
theorem upto_set (k : Nat) : (upto k).setIfInBounds k (.int .u32 (entry k : Int)) = upto (k + 1) := by
  unfold upto
  rw [row_set]
  exact row_congr fun i _ => by
    by_cases h : i = k
    · subst h; rw [if_pos rfl, if_pos (by omega)]
    · rw [if_neg h]; by_cases h2 : i < k
      · rw [if_pos h2, if_pos (by omega)]
      · rw [if_neg h2, if_neg (by omega)]
theorem upto_get (k i : Nat) (h : i < 256) : (upto k)[i]? = some (.int .u32 (((if i < k then entry i else 0) : Nat) : Int)) := row_get _ i h
theorem upto_size (k : Nat) : (upto k).size = 256 := row_size _

set_option maxHeartbeats 1000000 in
theorem table_any (w : World) :
    Calls Try.prog 15 #[] w fun e w' => e = .returned (.agg (row entry)) ∧ Below w.heap.size w w' := by
  have hz := tab_zero
  rw [upto_zero] at hz
  have HU := Lib.hid upto_set
  have HG := Lib.hid upto_get
  go_enter Try.func15, Try.ntmps15
  go_wp2
  go_loopw [3] (fun i wr => ∃ k : Nat, k ≤ 256 ∧ i = .int .i64 (k : Int) ∧ wr = (w.alloc (.cells (upto 0) 37)).alloc (.cells (upto k) 37)) (fun i _ => 256 - (intOf i).toNat)
  case atStart => exact ⟨0, by omega, rfl, rfl⟩
  case round =>
    obtain ⟨k, hk, rfl, rfl⟩ := hrel
    by_cases hlt : k < 256
    · have t1 : decide ((k : Int) < 256) = true := by simp; omega
      have hg := HG.out k k hlt
      go_wp2_with fail
      refine (halved_any k (by omega) _).mono ?_
      rintro e w1 ⟨rfl, rfl⟩
      go_wp2
      go_roundw
      case rel => exact ⟨k + 1, by omega, by go_num, by rw [HU.out]⟩
      case measure => simp [intOf]; omega
    · have t1 : decide ((k : Int) < 256) = false := by simp; omega
      obtain rfl : k = 256 := by omega
      obtain ⟨T, hT⟩ : ∃ T, T = upto 256 := ⟨_, rfl⟩
      obtain ⟨Z, hZ⟩ : ∃ Z, Z = upto 0 := ⟨_, rfl⟩
      have hTs : (Try.prog.info? 37).map (·.size) = some T.size := by rw [hT, upto_size]; exact tab_size
      have hZT : Z.size = T.size := by rw [hT, hZ, upto_size, upto_size]
      have hT1 : T.all (·.oneCell') = true := by rw [hT, upto_all]; exact row_one _
      have HT := Lib.hid hT
      rw [← hT, ← hZ]
      clear hT hZ HU HG
      have h1 := Lib.hid (heap_alloc2_new w (.cells Z 37) (.cells T 37))
      have h0 := Lib.hid (heap_alloc2_old w (.cells Z 37) (.cells T 37))
      have HTs := Lib.hid hTs
      have HZT := Lib.hid hZT
      clear hTs hZT
      go_wp2_with (first | (refine wpList_load_row rfl 37 (.tmp 1) rfl (w.heap.size + 1) rfl 37 T (0, 0) _ h1.out Try.underlying37 rfl HTs.out ?_) | (refine wpList_store_row rfl 37 (.tmp 0) (.tmp 12) rfl w.heap.size T rfl rfl 37 Z h0.out HTs.out HZT.out hT1 ?_))
      have h2 := setRow_heap _ w.heap.size Z T 37 (0, 0) h0.out
      refine bodyPost_ret (v := .agg T) (results_cell_row rfl _ _ _ _ _ _ _ rfl h2 Try.underlying37 rfl HTs.out) rfl ⟨?_, ?_⟩
      · rw [HT.out, upto_all]
      · refine below_setRow (((Below.refl _ _).alloc (Nat.le_refl _) _).alloc (by simp) _) (Nat.le_refl _) _


end Go.Proofs.Ytmjdpmkkcakbdaa.Crc
