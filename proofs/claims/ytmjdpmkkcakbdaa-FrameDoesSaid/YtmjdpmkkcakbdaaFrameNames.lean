/- FrameNames answers true, and changes nothing that was there. Conditions: none. -/
import Derived.Test.YtmjdpmkkcakbdaaFrameOpen
import Derived.Lib.SlBytesConst
import Derived.Laws.OwnMore
namespace Go.Proofs.Ytmjdpmkkcakbdaa.Frame
open Go.RowKit Num Crc

/-- What Wrap answers to bytes that are short enough. -/
theorem wrap_yes {w : World} {v : Value} {b : List UInt8} (hr : Reads w v b) (hb : b.length ≤ 16384) :
    Calls Try.prog 9 #[v] w fun e w' => ∃ ao cap, e = .returned (.tuple #[.slice ao (framed b).length cap, .int .i64 0]) ∧ w'.ownsRow w.heap.size 5 1 (.slice ao (framed b).length cap) (framed b).length (bs (framed b)) ∧ Below w.heap.size w w' := by
  refine (wrap_any hr).mono ?_
  rintro e w' ⟨u, c, rfl, h | h, hb'⟩
  · obtain ⟨_, rfl, own⟩ := h
    obtain ⟨ao, cap, rfl⟩ := own_shape own
    exact ⟨ao, cap, rfl, own, hb'⟩
  · omega
theorem wrap_no {w : World} {v : Value} {b : List UInt8} (hr : Reads w v b) (hb : ¬ b.length ≤ 16384) :
    Calls Try.prog 9 #[v] w fun e w' => e = .returned (.tuple #[.slice none 0 0, .int .i64 4]) ∧ Below w.heap.size w w' := by
  refine (wrap_any hr).mono ?_
  rintro e w' ⟨u, c, rfl, h | h, hb'⟩
  · omega
  · obtain ⟨_, rfl, rfl⟩ := h
    exact ⟨rfl, hb'⟩
theorem open_yes {w : World} {v : Value} {b : List UInt8} (hr : Reads w v (framed b)) (hb : b.length ≤ 16384) :
    Calls Try.prog 10 #[v] w fun e w' => ∃ ao cap, e = .returned (.tuple #[.slice ao b.length cap, .int .i64 0]) ∧ w'.ownsRow w.heap.size 5 1 (.slice ao b.length cap) b.length (bs b) ∧ Below w.heap.size w w' := by
  refine (open_any hr).mono ?_
  rintro e w' ⟨u, c, rfl, h | h, hb'⟩
  · obtain ⟨x, hx, he, rfl, own⟩ := h
    obtain rfl := framed_inj hb hx he
    obtain ⟨ao, cap, rfl⟩ := own_shape own
    exact ⟨ao, cap, rfl, own, hb'⟩
  · exact absurd ⟨b, hb, rfl⟩ h.1
theorem open_no {w : World} {v : Value} {f : List UInt8} (hr : Reads w v f) (hf : ¬ IsFrame f) :
    Calls Try.prog 10 #[v] w fun e w' => e = .returned (.tuple #[.slice none 0 0, .int .i64 30]) ∧ Below w.heap.size w w' := by
  refine (open_any hr).mono ?_
  rintro e w' ⟨u, c, rfl, h | h, hb'⟩
  · obtain ⟨x, hx, he, _⟩ := h
    exact absurd ⟨x, hx, he⟩ hf
  · obtain ⟨_, rfl, rfl⟩ := h
    exact ⟨rfl, hb'⟩

theorem alive_any (w : World) : Calls Try.prog 8 #[] w fun e w' => e = .returned (.bool true) ∧ Below w.heap.size w w' := by
  have r1 : Reads (w.alloc (.cells #[.int .u8 97, .int .u8 98] 5 (2, 3))) (.slice (some ⟨w.heap.size, 0, none⟩) 2 2) [97, 98] := reads_new w [97, 98] (by decide) _
  obtain ⟨b, hb⟩ : ∃ b : List UInt8, b = [97, 98] := ⟨_, rfl⟩
  have hbl : b.length = 2 := by rw [hb]; rfl
  have hfl : (framed b).length = 8 := by rw [hb]; decide +kernel
  have hft : (framed b).take 4 = [70, 2, 97, 98] := by rw [hb]; rfl
  have s1 : ((str ((framed b).take 4)).toList == (ByteArray.mk #[70, 2, 97, 98]).toList) = true := by rw [hft, ByteArray.toList_eq, ByteArray.toList_eq]; decide
  have s2 : ((str b).toList == (ByteArray.mk #[97, 98]).toList) = true := by rw [hb, ByteArray.toList_eq, ByteArray.toList_eq]; decide
  have s3 : ((str b).toList == [97, 98]) = true := by rw [hb, ByteArray.toList_eq]; decide
  have s4 : ((str ((framed b).take 4)).toList == [70, 2, 97, 98]) = true := by rw [hft, ByteArray.toList_eq]; decide
  rw [← hb] at r1
  have kc := fun (w : World) (C : Array Value) (n c : Nat) => Lib.run_convert_bytes_const (P := Try.prog) w 23 5 C n c Try.underlying23 Try.underlying5
  have R1 := Lib.hid r1
  clear r1 hb hft
  go_enter Try.func8, Try.ntmps8
  go_wp2_with fail
  refine (wrap_yes R1.out (by rw [hbl]; decide)).mono ?_
  rintro e w1 ⟨ao, cap, rfl, own1, b1⟩
  have hb1 : Below w.heap.size w w1 := ((Below.refl w.heap.size w).alloc (Nat.le_refl _) (.cells #[.int .u8 97, .int .u8 98] 5 (2, 3))).trans (b1.mono (by simp))
  have RX := Lib.hid (Reads.own own1)
  clear own1 b1
  go_wp2_with fail
  refine (open_yes (b := b) (by have h := RX.out; first | exact h | (rw [hfl] at h; exact h)) (by rw [hbl]; decide)).mono ?_
  rintro e w2 ⟨ao2, cap2, rfl, own2, b2⟩
  have hb2 := bt hb1 b2
  have RX2 := RX.out.keeps b2
  have RY := Reads.own own2
  have RT := RX2.take (k := 4) (by rw [hfl]; decide)
  have hc8 : 8 ≤ cap := by have := (Reads.cap RX.out).2.1; omega
  have i1 : (4 : Int) ≤ (cap : Int) := by omega
  rw [hbl] at RY
  have q1 := run_string RT
  have q2 := run_string RY
  clear own2 b2 hb1 RX RX2 RT RY
  go_wp2
  go_ret
  exact ⟨rfl, hb2⟩

theorem bs_zeros (n : Nat) : bs (List.replicate n 0) = List.replicate n (.int .u8 0) := by simp [bs]

set_option maxHeartbeats 1000000 in
theorem names_walk (w : World) : Calls Try.prog 3 #[] w fun e w' => e = .returned (.bool true) ∧ Below w.heap.size w w' := by
  have r1 : Hid (∀ w : World, Reads (w.alloc (.cells #[.int .u8 97, .int .u8 98] 5 (2, 3))) (.slice (some ⟨w.heap.size, 0, none⟩) 2 2) [97, 98]) := fun w => reads_new w [97, 98] (by decide) _
  obtain ⟨b, hb⟩ : ∃ b : List UInt8, b = [97, 98] := ⟨_, rfl⟩
  have hbl : b.length = 2 := by rw [hb]; rfl
  have hfl : (framed b).length = 8 := by rw [hb]; decide +kernel
  rw [← hb] at r1
  have hnl : (framed []).length = 6 := by decide +kernel
  have hn0 : (framed []).getD 0 0 = 70 := by decide +kernel
  have hn1 : (framed []).getD 1 0 = 0 := by decide +kernel
  have hZl : (framed (List.replicate 16384 0)).length = 16392 := by rw [framed_len, List.length_replicate]; decide +kernel
  obtain ⟨Z, hZ⟩ : ∃ Z : List UInt8, Z = List.replicate 16384 0 := ⟨_, rfl⟩
  obtain ⟨V, hV⟩ : ∃ V : List UInt8, V = List.replicate 16385 0 := ⟨_, rfl⟩
  rw [← hZ] at hZl
  have hzl : Z.length = 16384 := by rw [hZ, List.length_replicate]
  have hvl : V.length = 16385 := by rw [hV, List.length_replicate]
  have kc := fun (w : World) (C : Array Value) (n c : Nat) => Lib.run_convert_bytes_const (P := Try.prog) w 23 5 C n c Try.underlying23 Try.underlying5
  have HZ : Hid (bs Z = List.replicate 16384 (.int .u8 0)) := by rw [hZ]; exact bs_zeros _
  have HV : Hid (bs V = List.replicate 16385 (.int .u8 0)) := by rw [hV]; exact bs_zeros _
  obtain ⟨i0, hi, hz0, hz1, hz2⟩ := info_parts u8_info
  have I0 : Hid (i0.bytes * 16385 ≤ 281474976710656) := by show _ ≤ _; rw [hz2]; decide
  have I1 : Hid (i0.bytes * 16384 ≤ 281474976710656) := by show _ ≤ _; rw [hz2]; decide
  clear hb hZ hV
  go_enter Try.func3, Try.ntmps3
  go_wp2_with fail
  refine (alive_any w).mono ?_
  rintro e w0 ⟨rfl, b0⟩
  go_wp2_with fail
  refine (wrap_yes (r1.out _) (by rw [hbl]; decide)).mono ?_
  rintro e w1 ⟨ao, cap, rfl, own1, b1⟩
  have hb1 : Below w.heap.size w w1 := (b0.alloc b0.size (.cells #[.int .u8 97, .int .u8 98] 5 (2, 3))).trans (b1.mono (by have := b0.size; simp; omega))
  have RX := Lib.hid (Reads.own own1)
  clear own1 b1 b0
  go_wp2_with fail
  refine (wrap_yes (Reads.nil w1) (by decide)).mono ?_
  rintro e w2 ⟨ao2, cap2, rfl, own2, b2⟩
  have hb2 := bt hb1 b2
  have RX2 := Lib.hid (RX.out.keeps b2)
  have RN := Lib.hid (Reads.own own2)
  clear own2 b2 hb1 RX
  go_wp2_with fail
  refine (open_no (Reads.nil w2) no_nil).mono ?_
  rintro e w3 ⟨rfl, b3⟩
  have hb3 := bt hb2 b3
  have RX3 := Lib.hid (RX2.out.keeps b3)
  have RN3 := Lib.hid (RN.out.keeps b3)
  have hc8 : 8 ≤ cap := by have := (Reads.cap RX2.out).2.1; omega
  have i1 : (7 : Int) ≤ (cap : Int) := by omega
  clear b3 hb2 RX2 RN
  have RT := Lib.hid (RX3.out.take (k := 7) (by rw [hfl]; decide))
  have hnot : ¬ IsFrame ((framed b).take 7) := no_less (by rw [hbl]; decide) (by rw [hfl]; decide)
  have HN := Lib.hid hnot
  clear hnot
  go_wp2_with fail
  refine (open_no RT.out HN.out).mono ?_
  rintro e w4 ⟨rfl, b4⟩
  have hb4 := bt hb3 b4
  have RN4 := Lib.hid (RN3.out.keeps b4)
  have hs4 := hb4.size
  clear b4 hb3 RN3 RT RX3
  go_wp2_with (refine wpList_make_full _ rfl _ _ 23 rfl w4.heap.size 5 i0 (.int .u8 0) 1 Try.underlying23 hi hz0 hz1 .i64 .i64 16385 16385 16385 rfl rfl rfl rfl I0.out (by unfold maxLen; omega) (Nat.le_refl _) ?_)
  intro w5 own5 grow5
  have b5 : Below w4.heap.size w4 w5 := (Below.refl _ _).grown grow5 (Nat.le_refl _) (by intro k hk; cases hk)
  have hb5 := bt hb4 b5
  have RN5 := Lib.hid (RN4.out.keeps b5)
  have RV : Hid (Reads w5 (.slice (some ⟨w4.heap.size, 0, none⟩) 16385 16385) V) := by
    have h := own5
    rw [toList_madeCells_one, ← HV.out] at h
    exact Reads.own (by rw [hvl]; exact h)
  clear own5 grow5 b5 hb4 RN4
  go_wp2_with fail
  refine (wrap_no RV.out (by rw [hvl]; decide)).mono ?_
  rintro e w6 ⟨rfl, b6⟩
  have hb6 := bt hb5 b6
  have RN6 := Lib.hid (RN5.out.keeps b6)
  clear b6 hb5 RN5
  go_wp2_with (refine wpList_make_full _ rfl _ _ 23 rfl w6.heap.size 5 i0 (.int .u8 0) 1 Try.underlying23 hi hz0 hz1 .i64 .i64 16384 16384 16384 rfl rfl rfl rfl I1.out (by unfold maxLen; omega) (Nat.le_refl _) ?_)
  intro w7 own7 grow7
  have b7 : Below w6.heap.size w6 w7 := (Below.refl _ _).grown grow7 (Nat.le_refl _) (by intro k hk; cases hk)
  have hb7 := bt hb6 b7
  have RN7 := Lib.hid (RN6.out.keeps b7)
  have RZ : Hid (Reads w7 (.slice (some ⟨w6.heap.size, 0, none⟩) 16384 16384) Z) := by
    have h := own7
    rw [toList_madeCells_one, ← HZ.out] at h
    exact Reads.own (by rw [hzl]; exact h)
  clear own7 grow7 b7 hb6 RN6
  go_wp2_with fail
  refine (wrap_yes RZ.out (by rw [hzl]; decide)).mono ?_
  rintro e w8 ⟨ao3, cap3, rfl, own8, b8⟩
  have hb8 := bt hb7 b8
  have RN8 := RN7.out.keeps b8
  rw [hZl]
  obtain ⟨g, off, rfl, _, c0⟩ := RN8.at 0 (by rw [hnl]; decide)
  obtain ⟨_, _, hx, _, c1⟩ := RN8.at 1 (by rw [hnl]; decide)
  cases hx
  rw [hn0] at c0
  rw [hn1] at c1
  have c0' : w8.cell? ⟨g, off, none⟩ = some (.int .u8 70) := c0
  have c1' : w8.cell? ⟨g, off + 1, none⟩ = some (.int .u8 0) := c1
  clear own8 b8 hb7 RN7 RN8 c0 c1 hn0 hn1
  go_wp2
  go_ret
  exact ⟨rfl, hb8⟩
end Go.Proofs.Ytmjdpmkkcakbdaa.Frame
