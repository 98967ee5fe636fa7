/- StampNames answers true, and changes nothing that was there. Conditions: none. -/
import Derived.Test.YtpoheimcbfbkdaaStampLaws
import Derived.OwnWalk
namespace Go.Proofs.Ytpoheimcbfbkdaa.Stamp
open Go.RowKit Flo
attribute [local go_sem ↓] Go.wp_at_zero Go.wp_at_succ

/-- Next, where the answer is known. -/
theorem next_is {r : Nat} (hr : r < 256) {l : List Id} {t s : Nat} {c : Int} (h : next r l = (t, s, c)) {v : Value} {w : World} (hv : Ids w v l) :
    Calls Try.prog 7 #[.int .u8 (r : Int), v] w fun e w' => e = .returned (.tuple #[.agg #[.int .u32 (t : Int), .int .u8 (s : Int)], .int .i64 c]) ∧ Below w.heap.size w w' := by
  have := next_any hr hv
  unfold nextv at this
  rw [h] at this
  exact this
theorem check_lit (t r : Nat) (c : Int) (h : chk t r = c) (w : World) :
    Calls Try.prog 10 #[.agg #[.int .u32 (t : Int), .int .u8 (r : Int)]] w fun e w' => e = .returned (.int .i64 c) ∧ Below w.heap.size w w' := by
  have := check_any t r w
  rwa [h] at this

theorem top_zeros : ∀ n : Nat, top (List.replicate n zid) = 0
  | 0 => rfl
  | n + 1 => by rw [List.replicate_succ, top, top_zeros n]; rfl
theorem fine_zeros (n : Nat) : Fine (List.replicate n zid) := fun _ ha => .inl (List.eq_of_mem_replicate ha)

set_option maxHeartbeats 4000000 in
theorem names_walk (w : World) : Calls Try.prog 3 #[] w fun e w' => e = .returned (.bool true) ∧ Below w.heap.size w w' := by
  have N1 : Hid (∀ W : World, Calls Try.prog 7 #[.int .u8 2, .slice none 0 0] W fun e w' => e = .returned (.tuple #[.agg #[.int .u32 1, .int .u8 2], .int .i64 0]) ∧ Below W.heap.size W w') := fun W =>
    next_is (r := 2) (by decide) (l := []) (t := 1) (s := 2) (c := 0) (by decide) (Ids.nil W)
  have N2 : Hid (∀ W : World, Calls Try.prog 7 #[.int .u8 2, .slice (some ⟨W.heap.size, 0, none⟩) 1 1] (W.alloc (.cells #[.int .u32 1073741824, .int .u8 0] 24)) fun e w' => e = .returned (.tuple #[.agg #[.int .u32 0, .int .u8 0], .int .i64 50]) ∧ Below (W.alloc (.cells #[.int .u32 1073741824, .int .u8 0] 24)).heap.size (W.alloc (.cells #[.int .u32 1073741824, .int .u8 0] 24)) w') := fun W =>
    next_is (r := 2) (by decide) (l := [⟨1073741824, 0, by decide, by decide⟩]) (t := 0) (s := 0) (c := 50) (by decide) (ids_new W [⟨1073741824, 0, by decide, by decide⟩] 1 rfl (by decide) _ _)
  have N3 : Hid (∀ W : World, Calls Try.prog 7 #[.int .u8 8, .slice none 0 0] W fun e w' => e = .returned (.tuple #[.agg #[.int .u32 0, .int .u8 0], .int .i64 8]) ∧ Below W.heap.size W w') := fun W =>
    next_is (r := 8) (by decide) (l := []) (t := 0) (s := 0) (c := 8) (by decide) (Ids.nil W)
  have N4 : Hid (∀ {v : Value} {W : World}, Ids W v (List.replicate 1025 zid) → Calls Try.prog 7 #[.int .u8 0, v] W fun e w' => e = .returned (.tuple #[.agg #[.int .u32 0, .int .u8 0], .int .i64 4]) ∧ Below W.heap.size W w') := fun h =>
    next_is (r := 0) (by decide) (t := 0) (s := 0) (c := 4) (next_many (by rw [List.length_replicate]; omega)) h
  have N5 : Hid (∀ {v : Value} {W : World}, Ids W v (List.replicate 1024 zid) → Calls Try.prog 7 #[.int .u8 0, v] W fun e w' => e = .returned (.tuple #[.agg #[.int .u32 1, .int .u8 0], .int .i64 0]) ∧ Below W.heap.size W w') := fun h =>
    next_is (r := 0) (by decide) (t := 1) (s := 0) (c := 0) (by rw [next_ok (by rw [List.length_replicate]; omega) (by decide) (fine_zeros _) (by rw [top_zeros]; decide), top_zeros]) h
  obtain ⟨i0, hi, hz0, hz1, hz2⟩ := info_parts id_info
  have I1 : Hid (i0.bytes * 1025 ≤ 281474976710656) := by show _ ≤ _; rw [hz2]; omega
  have I2 : Hid (i0.bytes * 1024 ≤ 281474976710656) := by show _ ≤ _; rw [hz2]; omega
  have C1 : Hid (∀ W : World, Calls Try.prog 10 #[.agg #[.int .u32 0, .int .u8 0]] W fun e w' => e = .returned (.int .i64 8) ∧ Below W.heap.size W w') := check_lit 0 0 8 (by decide)
  have C2 : Hid (∀ W : World, Calls Try.prog 10 #[.agg #[.int .u32 1, .int .u8 8]] W fun e w' => e = .returned (.int .i64 8) ∧ Below W.heap.size W w') := check_lit 1 8 8 (by decide)
  have C3 : Hid (∀ W : World, Calls Try.prog 10 #[.agg #[.int .u32 1073741824, .int .u8 7]] W fun e w' => e = .returned (.int .i64 0) ∧ Below W.heap.size W w') := check_lit 1073741824 7 0 (by decide)
  have C4 : Hid (∀ W : World, Calls Try.prog 10 #[.agg #[.int .u32 1073741825, .int .u8 7]] W fun e w' => e = .returned (.int .i64 8) ∧ Below W.heap.size W w') := check_lit 1073741825 7 8 (by decide)
  go_enter Try.func3, Try.ntmps3
  go_wp2_with fail
  refine (N1.out _).mono ?_
  rintro e w1 ⟨rfl, b1⟩
  have P1 := Lib.hid (pair_new w1 (.int .u32 1) (.int .u8 2) 24)
  have B1 : Hid (Below w.heap.size w (w1.alloc (.cells #[.int .u32 1, .int .u8 2] 24))) := b1.alloc b1.size _
  clear b1
  go_wp2_with fail
  refine (by_any _ _ _).mono ?_
  rintro e w2 ⟨rfl, b2⟩
  have P2 := Lib.hid (P1.out.keeps b2)
  have B2 := Lib.hid (B1.out.trans (b2.mono B1.out.size))
  clear P1 B1 b2
  go_wp2_with fail
  refine (N2.out _).mono ?_
  rintro e w3 ⟨rfl, b3⟩
  have P3 := Lib.hid ((P2.out.alloc _).keeps b3)
  have B3 := Lib.hid ((B2.out.alloc B2.out.size _).trans (b3.mono (by have := B2.out.size; simp; omega)))
  clear P2 B2 b3
  go_wp2_with fail
  refine (N3.out _).mono ?_
  rintro e w4 ⟨rfl, b4⟩
  have P4 := Lib.hid ((P3.out.alloc _).keeps b4)
  have B4 := Lib.hid ((B3.out.alloc B3.out.size _).trans (b4.mono (by have := B3.out.size; simp; omega)))
  clear P3 B3 b4
  go_wp2_with (refine wpList_make_full _ rfl (.const (.int .i64 1025)) (.const (.int .i64 1025)) 29 rfl (w4.heap.size + 1) 24 i0 (.agg #[.int .u32 0, .int .u8 0]) 2 Try.underlying29 hi hz0 hz1 .i64 .i64 1025 1025 1025 rfl rfl rfl rfl I1.out (by unfold maxLen; omega) (by simp) ?_)
  intro w5 own5 grow5
  have s5 : Ids w5 (.slice (some ⟨w4.heap.size + 1, 0, none⟩) 1025 1025) (List.replicate 1025 zid) := by
    have h : (madeCells #[.int .u32 0, .int .u8 0] 2050).toList = ids (List.replicate 1025 zid) := made_ids 1025
    rw [h] at own5
    exact Ids.own own5
  have S5 := Lib.hid s5
  have b5 : Below (w4.alloc (.cells #[.int .u32 0, .int .u8 0] 24)).heap.size (w4.alloc (.cells #[.int .u32 0, .int .u8 0] 24)) w5 := (Below.refl _ _).grown grow5 (Nat.le_refl _) (by intro k hk; cases hk)
  have P5 := Lib.hid ((P4.out.alloc _).keeps b5)
  have B5 := Lib.hid ((B4.out.alloc B4.out.size _).trans (b5.mono (by have := B4.out.size; simp; omega)))
  clear P4 B4 b5 own5 grow5 s5
  go_wp2_with fail
  refine (N4.out S5.out).mono ?_
  rintro e w6 ⟨rfl, b6⟩
  have P6 := Lib.hid (P5.out.keeps b6)
  have B6 := Lib.hid (B5.out.trans (b6.mono B5.out.size))
  clear P5 B5 b6 S5
  go_wp2_with (refine wpList_make_full _ rfl (.const (.int .i64 1024)) (.const (.int .i64 1024)) 29 rfl (w6.heap.size + 1) 24 i0 (.agg #[.int .u32 0, .int .u8 0]) 2 Try.underlying29 hi hz0 hz1 .i64 .i64 1024 1024 1024 rfl rfl rfl rfl I2.out (by unfold maxLen; omega) (by simp) ?_)
  intro w7 own7 grow7
  have s7 : Ids w7 (.slice (some ⟨w6.heap.size + 1, 0, none⟩) 1024 1024) (List.replicate 1024 zid) := by
    have h : (madeCells #[.int .u32 0, .int .u8 0] 2048).toList = ids (List.replicate 1024 zid) := made_ids 1024
    rw [h] at own7
    exact Ids.own own7
  have S7 := Lib.hid s7
  have b7 : Below (w6.alloc (.cells #[.int .u32 0, .int .u8 0] 24)).heap.size (w6.alloc (.cells #[.int .u32 0, .int .u8 0] 24)) w7 := (Below.refl _ _).grown grow7 (Nat.le_refl _) (by intro k hk; cases hk)
  have P7 := Lib.hid ((P6.out.alloc _).keeps b7)
  have B7 := Lib.hid ((B6.out.alloc B6.out.size _).trans (b7.mono (by have := B6.out.size; simp; omega)))
  clear P6 B6 b7 own7 grow7 s7
  go_wp2_with fail
  refine (N5.out S7.out).mono ?_
  rintro e w8 ⟨rfl, b8⟩
  have P8 := Lib.hid ((P7.out.keeps b8).alloc (.cells #[.int .u32 1, .int .u8 0] 24))
  have R8 := Lib.hid (pair_new w8 (.int .u32 1) (.int .u8 0) 24)
  have B8 := Lib.hid ((B7.out.trans (b8.mono B7.out.size)).alloc (Nat.le_trans B7.out.size b8.size) (.cells #[.int .u32 1, .int .u8 0] 24))
  clear P7 B7 b8 S7
  go_wp2
  go_region_held3 (fun w' => Below (w8.alloc (.cells #[.int .u32 1, .int .u8 0] 24)).heap.size (w8.alloc (.cells #[.int .u32 1, .int .u8 0] 24)) w' ∧ w'.cell? ⟨w1.heap.size, 0, none⟩ = some (.int .u32 1) ∧ w'.cell? ⟨w1.heap.size, 1, none⟩ = some (.int .u8 2) ∧ w'.cell? ⟨w8.heap.size, 0, none⟩ = some (.int .u32 1) ∧ w'.cell? ⟨w8.heap.size, 1, none⟩ = some (.int .u8 0))
    (first | exact keepP2 P8.out R8.out (drew1 _) (Below.refl _ _) | (go_split_ands; exact keepP2 P8.out R8.out (drew1 _) (by assumption)) | (go_split_ands; exact keepP2 P8.out R8.out (by assumption) (by assumption)))
    ((first | (go_at_call 9; refine (alive_any _).mono ?_; rintro e w9 ⟨rfl, b9⟩) | (go_at_call 8; refine (by_any _ _ _).mono ?_; rintro e w9 ⟨rfl, b9⟩) | (go_at_call 10; first | ((with_reducible refine (C1.out _).mono ?_); rintro e w9 ⟨rfl, b9⟩) | ((with_reducible refine (C2.out _).mono ?_); rintro e w9 ⟨rfl, b9⟩) | ((with_reducible refine (C3.out _).mono ?_); rintro e w9 ⟨rfl, b9⟩) | ((with_reducible refine (C4.out _).mono ?_); rintro e w9 ⟨rfl, b9⟩))))
  go_wp2
  go_ret
  go_split_ands
  exact ⟨rfl, B8.out.trans (Below.mono (by assumption) B8.out.size)⟩
end Go.Proofs.Ytpoheimcbfbkdaa.Stamp
