/- CrcNames and CrcTable answer true, and change nothing that was there. Conditions: none. -/
import Derived.Test.YtmhjepdnagmkpaaCrcSum
import Derived.Test.YtmhjepdnagmkpaaApp
import Derived.Deep.QuietTactic
import Derived.BigQuiet
import Derived.Deep.RegionHeld3
import Derived.Stop.BytesEq
import Derived.Lib.SlBytesConst
namespace Go.Proofs.Ytmhjepdnagmkpaa.Crc
open Go.RowKit

theorem sum_reads {w : World} {v : Value} {xs : List UInt8} (hr : Reads w v xs) :
    Calls Try.prog 11 #[v] w fun e w' => e = .returned (.int .u32 (sumT entry xs : Int)) ∧ Below w.heap.size w w' := by
  obtain ⟨ao, cap, rfl⟩ : ∃ ao cap, v = .slice ao xs.length cap := by obtain ⟨_, ao, cap, h, _⟩ := hr; exact ⟨ao, cap, h⟩
  obtain ⟨R, hR⟩ : ∃ R, R = row entry := ⟨_, rfl⟩
  have HR := Lib.hid hR
  have HX := Lib.hid hr
  clear hR hr
  go_enter Try.func11, Try.ntmps11
  go_wp2_with fail
  refine (table_any w).mono ?_
  rintro e w1 ⟨rfl, b1⟩
  rw [← HR.out]
  go_wp2_with fail
  rw [HR.out]
  refine (sum_any entry tab_lt (HX.out.below b1 (fun h => HX.out.lies h))).mono ?_
  rintro e w2 ⟨rfl, b2⟩
  rw [← HR.out]
  go_wp2
  go_ret
  exact ⟨rfl, bt b1 b2⟩

theorem alive_any (w : World) : Calls Try.prog 10 #[] w fun e w' => e = .returned (.bool true) ∧ Below w.heap.size w w' := by
  have r1 : Hid (∀ w : World, Reads (w.alloc (.cells #[.int .u8 49, .int .u8 50, .int .u8 51, .int .u8 52, .int .u8 53, .int .u8 54, .int .u8 55, .int .u8 56, .int .u8 57] 5 (9, 10))) (.slice (some ⟨w.heap.size, 0, none⟩) 9 9) [49, 50, 51, 52, 53, 54, 55, 56, 57]) := fun w => reads_new w [49, 50, 51, 52, 53, 54, 55, 56, 57] (by decide) _
  have hs : sumT entry [49, 50, 51, 52, 53, 54, 55, 56, 57] = 3421780262 := by decide +kernel
  have HS := Lib.hid hs
  clear hs
  have kc := fun (w : World) (C : Array Value) (n c : Nat) => Lib.run_convert_bytes_const (P := Try.prog) w 28 5 C n c Try.underlying28 Try.underlying5
  go_enter Try.func10, Try.ntmps10
  go_wp2_with fail
  refine (sum_reads (r1.out w)).mono ?_
  rw [HS.out]
  rintro e w1 ⟨rfl, b1⟩
  go_wp2
  go_ret
  exact ⟨rfl, ((Below.refl _ _).alloc (Nat.le_refl _) _).trans (b1.mono (by simp))⟩

set_option maxHeartbeats 1000000 in
theorem names_walk (w : World) : Calls Try.prog 3 #[] w fun e w' => e = .returned (.bool true) ∧ Below w.heap.size w w' := by
  obtain ⟨R, hR⟩ : ∃ R, R = row entry := ⟨_, rfl⟩
  obtain ⟨Z, hZ⟩ : ∃ Z, Z = row (fun _ => 0) := ⟨_, rfl⟩
  have hR0 : R[0]? = some (.int .u32 0) := by rw [hR, row_get _ _ (by decide), show entry 0 = 0 by decide +kernel]; rfl
  have hR1 : R[1]? = some (.int .u32 1996959894) := by rw [hR, row_get _ _ (by decide), show entry 1 = 1996959894 by decide +kernel]; rfl
  have hR2 : R[255]? = some (.int .u32 755167117) := by rw [hR, row_get _ _ (by decide), show entry 255 = 755167117 by decide +kernel]; rfl
  have hz := tab_zero
  rw [← hZ] at hz
  have hRs : (Try.prog.info? 23).map (·.size) = some R.size := by rw [hR, row_size]; exact tab_size
  have hZR : Z.size = R.size := by rw [hR, hZ, row_size, row_size]
  have hR1' : R.all (·.oneCell') = true := by rw [hR]; exact row_one _
  have HRs := Lib.hid hRs
  have HZR := Lib.hid hZR
  have HR1 := Lib.hid hR1'
  have HR := Lib.hid hR
  have HZ := Lib.hid hZ
  clear hR hZ hRs hZR hR1'
  go_enter Try.func3, Try.ntmps3
  go_wp2_with fail
  refine (table_any w).mono ?_
  rintro e w1 ⟨rfl, b1⟩
  rw [← HR.out]
  go_wp2_with (refine wpList_store_row rfl 23 (.tmp 1) (.tmp 2) rfl w1.heap.size R rfl rfl 23 Z (heap_alloc_new w1 _) HRs.out HZR.out HR1.out ?_; rw [World.setRow_alloc_new])
  refine (alive_any _).mono ?_
  rintro e w2 ⟨rfl, b2⟩
  have hsz : w1.heap.size < (w1.alloc (.cells R 23)).heap.size := by simp
  have hc (j : Nat) : w2.cell? ⟨w1.heap.size, j, none⟩ = R[j]? := by
    rw [b2.cell (p := ⟨w1.heap.size, j, none⟩) hsz, cell_of_row _ _ _ _ _ _ (heap_alloc_new w1 _)]
  have hb2 : Below w.heap.size w w2 := (b1.alloc b1.size _).trans (b2.mono (Nat.le_trans b1.size (by simp)))
  have c0 := (hc 0).trans hR0
  have c1 := (hc 1).trans hR1
  have c2 := (hc 255).trans hR2
  have hs0 : sumT entry [] = 0 := by decide +kernel
  have HS0 := Lib.hid hs0
  clear hc hR0 hR1 hR2 b1 b2 hs0
  go_wp2_with fail
  refine (sum_reads (Reads.nil w2)).mono ?_
  rw [HS0.out]
  rintro e w3 ⟨rfl, b3⟩
  have hb3 := bt hb2 b3
  clear hb2 b3 c0 c1 c2
  go_wp2_with fail

  rw [HZ.out]
  refine (sum_any (fun _ => 0) (fun _ _ => by decide) (reads_new w3 [0] (by decide) (0, 0))).mono ?_
  rw [← HZ.out, show sumT (fun _ => 0) [0] = 4278190080 by decide +kernel]
  rintro e w4 ⟨rfl, b4⟩
  have hb4 := bt (hb3.alloc hb3.size _) b4
  clear hb3 b4
  go_wp2
  go_ret
  exact ⟨rfl, hb4⟩

theorem entry_x (a b : Nat) (ha : a < 256) (hb : b < 256) : bits .xor .u8 (a : Int) (b : Int) = ((a ^^^ b : Nat) : Int) := u8_xor_nat a b ha hb
theorem entry_y (a b : Nat) (ha : a < 4294967296) (hb : b < 4294967296) : bits .xor .u32 (a : Int) (b : Int) = ((a ^^^ b : Nat) : Int) := u32_xor_nat a b ha hb

theorem keep3 {w w1 w2 : World} {B g a b c : Nat} {x y z : Value} (hb : Below B w w1) (hg : g < w1.heap.size) (ha : w1.cell? ⟨g, a, none⟩ = some x) (hb' : w1.cell? ⟨g, b, none⟩ = some y) (hc : w1.cell? ⟨g, c, none⟩ = some z) (h : Below w1.heap.size w1 w2) (hB : B ≤ w1.heap.size) :
    Below B w w2 ∧ g < w2.heap.size ∧ w2.cell? ⟨g, a, none⟩ = some x ∧ w2.cell? ⟨g, b, none⟩ = some y ∧ w2.cell? ⟨g, c, none⟩ = some z :=
  ⟨hb.trans (h.mono hB), Nat.lt_of_lt_of_le hg h.size, (h.cell (p := ⟨g, a, none⟩) hg).trans ha, (h.cell (p := ⟨g, b, none⟩) hg).trans hb', (h.cell (p := ⟨g, c, none⟩) hg).trans hc⟩

theorem keep3d {w w1 : World} {B g a b c : Nat} {x y z : Value} (hb : Below B w w1) (hg : g < w1.heap.size) (ha : w1.cell? ⟨g, a, none⟩ = some x) (hb' : w1.cell? ⟨g, b, none⟩ = some y) (hc : w1.cell? ⟨g, c, none⟩ = some z) :
    Below B w w1.drew ∧ g < w1.drew.heap.size ∧ w1.drew.cell? ⟨g, a, none⟩ = some x ∧ w1.drew.cell? ⟨g, b, none⟩ = some y ∧ w1.drew.cell? ⟨g, c, none⟩ = some z := ⟨hb.drew, hg, ha, hb', hc⟩

set_option maxHeartbeats 1000000 in
theorem table_walk (a b : Nat) (ha : a < 256) (hb : b < 256) (w : World) : Calls Try.prog 8 #[.int .u8 (a : Int), .int .u8 (b : Int)] w fun e w' => e = .returned (.bool true) ∧ Below w.heap.size w w' := by
  obtain ⟨R, hR⟩ : ∃ R, R = row entry := ⟨_, rfl⟩
  obtain ⟨Z, hZ⟩ : ∃ Z, Z = row (fun _ => 0) := ⟨_, rfl⟩
  have hz := tab_zero
  rw [← hZ] at hz
  have hRs : (Try.prog.info? 23).map (·.size) = some R.size := by rw [hR, row_size]; exact tab_size
  have hZR : Z.size = R.size := by rw [hR, hZ, row_size, row_size]
  have hR1' : R.all (·.oneCell') = true := by rw [hR]; exact row_one _
  have hab := x8 ha hb
  have hRa : R[a]? = some (.int .u32 (entry a : Int)) := by rw [hR]; exact row_get _ _ ha
  have hRb : R[b]? = some (.int .u32 (entry b : Int)) := by rw [hR]; exact row_get _ _ hb
  have hRc : R[a ^^^ b]? = some (.int .u32 (entry (a ^^^ b) : Int)) := by rw [hR]; exact row_get _ _ hab
  have HRs := Lib.hid hRs
  have HZR := Lib.hid hZR
  have HR1 := Lib.hid hR1'
  have HR := Lib.hid hR
  have HZ := Lib.hid hZ
  clear hR hZ hRs hZR hR1'
  have x1 := entry_x a b ha hb
  have x2 := entry_y (entry a) (entry b) (tab_lt a ha) (tab_lt b hb)
  rw [← entry_xor] at x2
  have t1 : (((entry a : Nat) : Int) == ((entry b : Nat) : Int)) = ((a : Int) == (b : Int)) := by
    rw [Bool.eq_iff_iff, beq_iff_eq, beq_iff_eq]
    constructor
    · intro h; have := entry_inj (a := a) (b := b) (by omega) (by omega) (by omega); omega
    · intro h; have h' : a = b := by omega
      rw [h']
  obtain ⟨c, hc⟩ : ∃ c, c = a ^^^ b := ⟨_, rfl⟩
  rw [← hc] at x1 x2 hab hRc
  obtain ⟨ea, he1⟩ : ∃ x, x = entry a := ⟨_, rfl⟩
  obtain ⟨eb, he2⟩ : ∃ x, x = entry b := ⟨_, rfl⟩
  obtain ⟨ec, he3⟩ : ∃ x, x = entry c := ⟨_, rfl⟩
  rw [← he1] at x2 t1 hRa
  rw [← he2] at x2 t1 hRb
  rw [← he3] at x2 hRc
  clear hc he1 he2 he3
  have i1 : (0 : Int) ≤ (a : Int) := by omega
  have i2 : (a : Int) < 256 := by omega
  have i3 : (0 : Int) ≤ (b : Int) := by omega
  have i4 : (b : Int) < 256 := by omega
  have i5 : (0 : Int) ≤ (c : Int) := by omega
  have i6 : (c : Int) < 256 := by omega
  go_enter Try.func8, Try.ntmps8
  go_wp2_with fail
  refine (table_any w).mono ?_
  rintro e w1 ⟨rfl, b1⟩
  rw [← HR.out]
  go_wp2_with (refine wpList_store_row rfl 23 (.tmp 5) (.tmp 6) rfl w1.heap.size R rfl rfl 23 Z (heap_alloc_new w1 _) HRs.out HZR.out HR1.out ?_; rw [World.setRow_alloc_new])
  have hb2 : Below w.heap.size w (w1.alloc (.cells R 23)) := b1.alloc b1.size _
  have hg2 : w1.heap.size < (w1.alloc (.cells R 23)).heap.size := by simp
  have ca := (cell_of_row _ _ a _ _ _ (heap_alloc_new w1 (.cells R 23))).trans hRa
  have cb := (cell_of_row _ _ b _ _ _ (heap_alloc_new w1 (.cells R 23))).trans hRb
  have cc := (cell_of_row _ _ c _ _ _ (heap_alloc_new w1 (.cells R 23))).trans hRc
  have hws := b1.size
  clear hRa hRb hRc b1 hz
  obtain ⟨w2, hw2⟩ : ∃ w2, w2 = w1.alloc (.cells R 23) := ⟨_, rfl⟩
  rw [← hw2] at hb2 hg2 ca cb cc ⊢
  clear hw2
  go_region_held3 (fun w' => Below w.heap.size w w' ∧ w1.heap.size < w'.heap.size ∧ w'.cell? ⟨w1.heap.size, a, none⟩ = some (.int .u32 (ea : Int)) ∧ w'.cell? ⟨w1.heap.size, b, none⟩ = some (.int .u32 (eb : Int)) ∧ w'.cell? ⟨w1.heap.size, c, none⟩ = some (.int .u32 (ec : Int)))
    (first | exact ⟨hb2, hg2, ca, cb, cc⟩ | (go_split_ands; exact keep3d (by assumption) (by assumption) (by assumption) (by assumption) (by assumption)) | (go_split_ands; exact keep3 (by assumption) (by assumption) (by assumption) (by assumption) (by assumption) (by assumption) (by omega)))
    ((first | (go_at_call 10; refine (alive_any _).mono ?_; rintro e w2 ⟨rfl, b2⟩)))
  go_wp2
  go_ret
  go_split_ands
  exact ⟨rfl, by assumption⟩
end Go.Proofs.Ytmhjepdnagmkpaa.Crc
