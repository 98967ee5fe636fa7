/- CrcTells answers true, and changes nothing that was there. Conditions: the slice's cells are bytes, the array's cells 32-bit numbers. -/
import Derived.Test.YtmhjepdnagmkpaaCrcLaws
import Derived.ChangeKeysEq
namespace Go.Proofs.Ytmhjepdnagmkpaa.Crc
open Go.RowKit

theorem u32_size : ∀ w, (sizeOf 22).run Try.prog w = .ok 1 w := fun _ => by kernel_rfl

/-- An array is equal to itself. -/
theorem eq_row (f : Nat → Nat) (w : World) : (binOp .eql 23 (.agg (row f)) (.agg (row f))).run Try.prog w = .ok (.bool true) w := by
  have he := Try.underlying22
  have h : (Op.equalIn (9998 + 2) 23 (.agg (row f)) (.agg (row f))).run Try.prog w = .ok true w := by
    rw [Op.equalIn]
    simp only [Sem.run_bind, run_underlying Try.underlying23, Result.andThen_ok, u32_size, Std.Legacy.Range.forIn_eq_forIn_range', Std.Legacy.Range.size, Nat.sub_zero, Nat.add_sub_cancel, Nat.div_one]
    have hl : ∀ i ∈ List.range' 0 256 1, i < 256 := fun i hi => by simpa using (List.mem_range'_1.1 hi).2
    generalize List.range' 0 256 1 = l at hl ⊢
    induction l with
    | nil => simp
    | cons i l ih =>
      have hi : i < 256 := hl i (by simp)
      have px : (part 22 (row f) (i * 1)).run Try.prog w = .ok (.int .u32 (f i : Int)) w := by
        have := row_get f i hi
        simp [part, isAgg, run_underlying he, this]
      have pe : (Op.equalIn (9998 + 1) 22 (.int .u32 (f i : Int)) (.int .u32 (f i : Int))).run Try.prog w = .ok true w := by
        rw [run_equalIn_int w 9998 22 .u32 .u32 _ _ he]
        simp
      simp only [List.forIn_cons, Sem.run_bind, px, pe, Result.andThen_ok, Bool.not_true, Bool.false_eq_true, if_false, Sem.run_pure]
      exact ih fun j hj => hl j (by simp [hj])
  rw [run_eql_struct, h]
  rfl

def SumBy (c : Nat) (R : Array Value) (l : List UInt8) (s : Nat) : Prop := ∀ (w : World) (v : Value), Reads w v l → Calls Try.prog c #[.agg R, v] w fun e w' => e = .returned (.int .u32 (s : Int)) ∧ Below w.heap.size w w'
def PlainIs (l : List UInt8) (s : Nat) : Prop := ∀ (w : World) (v : Value), Reads w v l → Calls Try.prog 15 #[v] w fun e w' => e = .returned (.int .u32 (s : Int)) ∧ w = w'
def TabIs (c : Nat) (R : Array Value) : Prop := ∀ (w : World), Calls Try.prog c #[] w fun e w' => e = .returned (.agg R) ∧ Below w.heap.size w w'
def StrIs (w : World) (v : Value) (l : List UInt8) : Prop := (convert 28 9 v).run Try.prog w = .ok (.string (str l)) w

theorem keepT {w w1 w2 : World} {B g : Nat} {R : List Value} {v : Value} {l : List UInt8} (h : Below w1.heap.size w1 w2) (hb : Below B w w1) (hB : B ≤ w1.heap.size) (hg : w1.rangeAt g 0 R) (hr : Hid (Reads w1 v l)) :
    Below B w w2 ∧ B ≤ w2.heap.size ∧ w2.rangeAt g 0 R ∧ Hid (Reads w2 v l) ∧ (convert 28 9 v).run Try.prog w2 = .ok (.string (str l)) w2 :=
  ⟨hb.trans (h.mono hB), Nat.le_trans hB h.size, fun j v hj => (h.cell (p := ⟨g, 0 + j, none⟩) (World.block_lt_of_cell? w1 _ (hg j v hj))).trans (hg j v hj), Lib.hid (hr.out.keeps h), run_string (hr.out.keeps h)⟩
theorem keepTd {w w1 : World} {B g : Nat} {R : List Value} {v : Value} {l : List UInt8} (hb : Below B w w1) (hB : B ≤ w1.heap.size) (hg : w1.rangeAt g 0 R) (hr : Hid (Reads w1 v l)) :
    Below B w w1.drew ∧ B ≤ w1.drew.heap.size ∧ w1.drew.rangeAt g 0 R ∧ Hid (Reads w1.drew v l) ∧ (convert 28 9 v).run Try.prog w1.drew = .ok (.string (str l)) w1.drew :=
  have h : Below w1.heap.size w1 w1.drew := (Below.refl _ _).drew
  ⟨hb.drew, hB, hg, Lib.hid (hr.out.keeps h), run_string (hr.out.keeps h)⟩

set_option maxHeartbeats 4000000 in
theorem tells_walk (T : Nat → Nat) (hT : ∀ i, i < 256 → T i < 4294967296) (ao : Option Addr) (cap : Nat) (xs : List UInt8) (w : World) (hr : Reads w (.slice ao xs.length cap) xs) :
    Calls Try.prog 4 #[.agg (row T), .slice ao xs.length cap] w fun e w' => e = .returned (.bool true) ∧ Below w.heap.size w w' := by
  obtain ⟨R, hR⟩ : ∃ R : List Value, R.toArray = row T := ⟨_, rfl⟩
  rw [← hR]
  by_cases hlen : 10000 < xs.length
  · have t1 : decide ((10000 : Int) < (xs.length : Int)) = true := by simp; omega
    have t2 : decide (10000 < xs.length) = true := by simp; omega
    clear hR hr
    go_enter Try.func4, Try.ntmps4
    go_wp2
    go_ret
    exact ⟨rfl, (Below.refl _ _).alloc (Nat.le_refl _) _⟩
  have t1 : decide ((10000 : Int) < (xs.length : Int)) = false := by simp; omega
  have t2 : decide (10000 < xs.length) = false := by simp; omega
  obtain ⟨E, hE⟩ : ∃ E, E = row entry := ⟨_, rfl⟩
  obtain ⟨sT, hsT⟩ : ∃ s, s = sumT T xs := ⟨_, rfl⟩
  obtain ⟨sE, hsE⟩ : ∃ s, s = sumT entry xs := ⟨_, rfl⟩
  have c1 : TabIs 9 E := fun w => by rw [hE]; exact table_any w
  have c2 : TabIs 13 E := fun w => by rw [hE]; exact refTable_any w
  have c3 : SumBy 12 R.toArray xs sT := fun w v h => by
    obtain ⟨ao, cap, rfl⟩ := h.shape
    rw [hR, hsT]; exact sum_any T hT h
  have c4 : SumBy 14 R.toArray xs sT := fun w v h => by
    obtain ⟨ao, cap, rfl⟩ := h.shape
    rw [hR, hsT]; exact refSum_any T hT h
  have c5 : SumBy 12 E xs sE := fun w v h => by
    obtain ⟨ao, cap, rfl⟩ := h.shape
    rw [hE, hsE]; exact sum_any entry tab_lt h
  have c6 : PlainIs xs sE := fun w v h => by
    obtain ⟨ao, cap, rfl⟩ := h.shape
    rw [hsE]; exact plain_any h
  have hq : ∀ w, (binOp .eql 23 (.agg E) (.agg E)).run Try.prog w = .ok (.bool true) w := fun w => by rw [hE]; exact eq_row entry w
  have hRl : R.length = 256 := by have := row_size T; rw [← hR] at this; simpa using this
  have hRs : (Try.prog.info? 23).map (·.size) = some R.length := by rw [hRl]; exact tab_size
  have hu := Try.underlying23
  have HRs := Lib.hid hRs
  have hbB : Below w.heap.size w (w.alloc (.cells R.toArray 23)) := (Below.refl _ _).alloc (Nat.le_refl _) _
  have hbS := hbB.size
  have hrow : (w.alloc (.cells R.toArray 23)).rangeAt w.heap.size 0 R := fun j v hj => by
    rw [cell_of_row _ _ _ _ _ _ (heap_alloc_new w (.cells R.toArray 23)), Nat.zero_add]
    simpa using hj
  have hr1 := Lib.hid (hr.keeps ((Below.refl w.heap.size w).alloc (Nat.le_refl _) (.cells R.toArray 23)))
  have hst := run_string hr1.out
  clear hR hE hsT hsE hT hRs hr hRl
  go_enter Try.func4, Try.ntmps4
  go_wp2
  obtain ⟨B, hB⟩ : ∃ B, B = w.heap.size := ⟨_, rfl⟩
  obtain ⟨wx, hwx⟩ : ∃ wx, wx = w.alloc (.cells R.toArray 23) := ⟨_, rfl⟩
  rw [← hwx] at hbB hbS hrow hr1 hst ⊢
  clear hwx
  refine wp_region_held_drew (S := fun w' => Below w.heap.size w w' ∧ w.heap.size ≤ w'.heap.size ∧ w'.rangeAt w.heap.size 0 R ∧ Hid (Reads w' (.slice ao xs.length cap) xs) ∧ (convert 28 9 (.slice ao xs.length cap)).run Try.prog w' = .ok (.string (str xs)) w') (by kernel_rfl) (keepTd hbB hbS hrow hr1) (fun hHeld => ?_)
  refine wpAnyH_ready (rs := [0]) (by kernel_rfl) (by simp) ?_
  refine AllReadyH.cons rfl (fun K hK => ?_) ?z0
  case z0 => exact AllReadyH.nil
  go_simp
  refine (c1 _).mono ?_
  rintro e w2 ⟨rfl, b2⟩
  refine hK.out _ _ (keepT b2 hHeld.1 hHeld.2.1 hHeld.2.2.1 hHeld.2.2.2.1) (fun hNew => ?_)
  clear hHeld b2
  have hHeld := hNew
  clear hNew
  clear hK K
  try simp only [Act.put, List.setIfInBounds_toArray, List.set_cons_zero, List.set_cons_succ]
  refine wpAnyH_ready (rs := [1]) (by kernel_rfl) (by simp) ?_
  refine AllReadyH.cons rfl (fun K hK => ?_) ?z1
  case z1 => exact AllReadyH.nil
  go_simp
  refine (c2 _).mono ?_
  rintro e w2 ⟨rfl, b2⟩
  refine hK.out _ _ (keepT b2 hHeld.1 hHeld.2.1 hHeld.2.2.1 hHeld.2.2.2.1) (fun hNew => ?_)
  clear hHeld b2
  have hHeld := hNew
  clear hNew
  clear hK K
  try simp only [Act.put, List.setIfInBounds_toArray, List.set_cons_zero, List.set_cons_succ]
  refine wpAnyH_take (i := 2) (v := ?v2) rfl (by kernel_rfl) (by kernel_rfl) (by kernel_rfl) (fun _ _ _ h => h) (Or.inl ⟨by rfl, ?y2⟩) (by assumption) ?_
  case y2 => intro w hSw; (try dsimp only at hSw); go_simp <;> with_reducible rfl
  try simp only [Act.put, List.setIfInBounds_toArray, List.set_cons_zero, List.set_cons_succ]
  refine wpAnyH_take (i := 3) (v := ?v3) rfl (by kernel_rfl) (by kernel_rfl) (by kernel_rfl) (fun _ _ _ h => h) (Or.inl ⟨by rfl, ?y3⟩) (by assumption) ?_
  case y3 => intro w hSw; (try dsimp only at hSw); go_simp <;> with_reducible rfl
  try simp only [Act.put, List.setIfInBounds_toArray, List.set_cons_zero, List.set_cons_succ]
  refine' wpAnyH_take (i := 4) (v := _) rfl (by kernel_rfl) (by kernel_rfl) (by kernel_rfl) (fun _ _ _ h => h) (yieldsIf_load_mid (by rfl) _ _ rfl _ _ rfl _ _ (fun w h => h.2.2.1) hu rfl HRs.out) (by assumption) ?_
  try simp only [Act.put, List.setIfInBounds_toArray, List.set_cons_zero, List.set_cons_succ]
  refine' wpAnyH_take (i := 7) (v := _) rfl (by kernel_rfl) (by kernel_rfl) (by kernel_rfl) (fun _ _ _ h => h) (yieldsIf_load_mid (by rfl) _ _ rfl _ _ rfl _ _ (fun w h => h.2.2.1) hu rfl HRs.out) (by assumption) ?_
  try simp only [Act.put, List.setIfInBounds_toArray, List.set_cons_zero, List.set_cons_succ]
  refine wpAnyH_take (i := 5) (v := ?v5) rfl (by kernel_rfl) (by kernel_rfl) (by kernel_rfl) (fun _ _ _ h => h) (Or.inl ⟨by rfl, ?y5⟩) (by assumption) ?_
  case y5 => intro w hSw; (try dsimp only at hSw); go_simp <;> with_reducible rfl
  try simp only [Act.put, List.setIfInBounds_toArray, List.set_cons_zero, List.set_cons_succ]
  refine wpAnyH_take (i := 8) (v := ?v8) rfl (by kernel_rfl) (by kernel_rfl) (by kernel_rfl) (fun _ _ _ h => h) (Or.inl ⟨by rfl, ?y8⟩) (by assumption) ?_
  case y8 => intro w hSw; (try dsimp only at hSw); go_simp <;> with_reducible rfl
  try simp only [Act.put, List.setIfInBounds_toArray, List.set_cons_zero, List.set_cons_succ]
  refine wpAnyH_ready (rs := [6]) (by kernel_rfl) (by simp) ?_
  refine AllReadyH.cons rfl (fun K hK => ?_) ?z6
  case z6 => exact AllReadyH.nil
  go_simp
  refine (c3 _ _ hHeld.2.2.2.1.out).mono ?_
  rintro e w2 ⟨rfl, b2⟩
  refine hK.out _ _ (keepT b2 hHeld.1 hHeld.2.1 hHeld.2.2.1 hHeld.2.2.2.1) (fun hNew => ?_)
  clear hHeld b2
  have hHeld := hNew
  clear hNew
  clear hK K
  try simp only [Act.put, List.setIfInBounds_toArray, List.set_cons_zero, List.set_cons_succ]
  refine wpAnyH_ready (rs := [9]) (by kernel_rfl) (by simp) ?_
  refine AllReadyH.cons rfl (fun K hK => ?_) ?z9
  case z9 => exact AllReadyH.nil
  go_simp
  refine (c4 _ _ hHeld.2.2.2.1.out).mono ?_
  rintro e w2 ⟨rfl, b2⟩
  refine hK.out _ _ (keepT b2 hHeld.1 hHeld.2.1 hHeld.2.2.1 hHeld.2.2.2.1) (fun hNew => ?_)
  clear hHeld b2
  have hHeld := hNew
  clear hNew
  clear hK K
  try simp only [Act.put, List.setIfInBounds_toArray, List.set_cons_zero, List.set_cons_succ]
  refine wpAnyH_take (i := 10) (v := ?v10) rfl (by kernel_rfl) (by kernel_rfl) (by kernel_rfl) (fun _ _ _ h => h) (Or.inl ⟨by rfl, ?y10⟩) (by assumption) ?_
  case y10 => intro w hSw; (try dsimp only at hSw); go_simp <;> with_reducible rfl
  try simp only [Act.put, List.setIfInBounds_toArray, List.set_cons_zero, List.set_cons_succ]
  refine wpAnyH_take (i := 11) (v := ?v11) rfl (by kernel_rfl) (by kernel_rfl) (by kernel_rfl) (fun _ _ _ h => h) (Or.inl ⟨by rfl, ?y11⟩) (by assumption) ?_
  case y11 => intro w hSw; (try dsimp only at hSw); go_simp <;> with_reducible rfl
  try simp only [Act.put, List.setIfInBounds_toArray, List.set_cons_zero, List.set_cons_succ]
  refine wpAnyH_take (i := 12) (v := ?v12) rfl (by kernel_rfl) (by kernel_rfl) (by kernel_rfl) (fun _ _ _ h => h) (Or.inl ⟨by rfl, ?y12⟩) (by assumption) ?_
  case y12 => intro w hSw; (try dsimp only at hSw); go_simp <;> with_reducible rfl
  try simp only [Act.put, List.setIfInBounds_toArray, List.set_cons_zero, List.set_cons_succ]
  refine wpAnyH_take (i := 14) (v := ?v14) rfl (by kernel_rfl) (by kernel_rfl) (by kernel_rfl) (fun _ _ _ h => h) (Or.inl ⟨by rfl, ?y14⟩) (by assumption) ?_
  case y14 => intro w hSw; (try dsimp only at hSw); go_simp <;> with_reducible rfl
  try simp only [Act.put, List.setIfInBounds_toArray, List.set_cons_zero, List.set_cons_succ]
  refine wpAnyH_take (i := 16) (v := ?v16) rfl (by kernel_rfl) (by kernel_rfl) (by kernel_rfl) (fun _ _ _ h => h) (Or.inl ⟨by rfl, ?y16⟩) (by assumption) ?_
  case y16 => intro w hSw; (try dsimp only at hSw); go_simp <;> with_reducible rfl
  try simp only [Act.put, List.setIfInBounds_toArray, List.set_cons_zero, List.set_cons_succ]
  refine wpAnyH_ready (rs := [13]) (by kernel_rfl) (by simp) ?_
  refine AllReadyH.cons rfl (fun K hK => ?_) ?z13
  case z13 => exact AllReadyH.nil
  go_simp
  refine (c1 _).mono ?_
  rintro e w2 ⟨rfl, b2⟩
  refine hK.out _ _ (keepT b2 hHeld.1 hHeld.2.1 hHeld.2.2.1 hHeld.2.2.2.1) (fun hNew => ?_)
  clear hHeld b2
  have hHeld := hNew
  clear hNew
  clear hK K
  try simp only [Act.put, List.setIfInBounds_toArray, List.set_cons_zero, List.set_cons_succ]
  refine wpAnyH_ready (rs := [15]) (by kernel_rfl) (by simp) ?_
  refine AllReadyH.cons rfl (fun K hK => ?_) ?z15
  case z15 => exact AllReadyH.nil
  go_simp
  refine (c5 _ _ hHeld.2.2.2.1.out).mono ?_
  rintro e w2 ⟨rfl, b2⟩
  refine hK.out _ _ (keepT b2 hHeld.1 hHeld.2.1 hHeld.2.2.1 hHeld.2.2.2.1) (fun hNew => ?_)
  clear hHeld b2
  have hHeld := hNew
  clear hNew
  clear hK K
  try simp only [Act.put, List.setIfInBounds_toArray, List.set_cons_zero, List.set_cons_succ]
  refine wpAnyH_ready (rs := [17]) (by kernel_rfl) (by simp) ?_
  refine AllReadyH.cons rfl (fun K hK => ?_) ?z17
  case z17 => exact AllReadyH.nil
  go_simp
  refine (c6 _ _ hHeld.2.2.2.1.out).mono ?_
  rintro e w2 ⟨rfl, rfl⟩
  refine hK.out _ _ hHeld (fun _ => ?_)
  clear hK K
  try simp only [Act.put, List.setIfInBounds_toArray, List.set_cons_zero, List.set_cons_succ]
  refine wpAnyH_take (i := 18) (v := ?v18) rfl (by kernel_rfl) (by kernel_rfl) (by kernel_rfl) (fun _ _ _ h => h) (Or.inl ⟨by rfl, ?y18⟩) (by assumption) ?_
  case y18 => intro w hSw; (try dsimp only at hSw); go_simp <;> with_reducible rfl
  try simp only [Act.put, List.setIfInBounds_toArray, List.set_cons_zero, List.set_cons_succ]
  refine wpAnyH_take (i := 19) (v := ?v19) rfl (by kernel_rfl) (by kernel_rfl) (by kernel_rfl) (fun _ _ _ h => h) (Or.inl ⟨by rfl, ?y19⟩) (by assumption) ?_
  case y19 => intro w hSw; (try dsimp only at hSw); go_simp <;> with_reducible rfl
  try simp only [Act.put, List.setIfInBounds_toArray, List.set_cons_zero, List.set_cons_succ]
  refine wpAnyH_take (i := 20) (v := ?v20) rfl (by kernel_rfl) (by kernel_rfl) (by kernel_rfl) (fun _ _ _ h => h) (Or.inl ⟨by rfl, ?y20⟩) (by assumption) ?_
  case y20 => intro w hSw; (try dsimp only at hSw); go_simp <;> with_reducible rfl
  try simp only [Act.put, List.setIfInBounds_toArray, List.set_cons_zero, List.set_cons_succ]
  refine wpAnyH_take (i := 21) (v := ?v21) rfl (by kernel_rfl) (by kernel_rfl) (by kernel_rfl) (fun _ _ _ h => h) (Or.inl ⟨by rfl, ?y21⟩) (by assumption) ?_
  case y21 => intro w hSw; (try dsimp only at hSw); go_simp <;> with_reducible rfl
  try simp only [Act.put, List.setIfInBounds_toArray, List.set_cons_zero, List.set_cons_succ]
  refine wpAnyH_take (i := 22) (v := ?v22) rfl (by kernel_rfl) (by kernel_rfl) (by kernel_rfl) (fun _ _ _ h => h) (Or.inl ⟨by rfl, ?y22⟩) (by assumption) ?_
  case y22 => intro w hSw; (try dsimp only at hSw); go_simp <;> with_reducible rfl
  try simp only [Act.put, List.setIfInBounds_toArray, List.set_cons_zero, List.set_cons_succ]
  refine wpAnyH_take (i := 23) (v := ?v23) rfl (by kernel_rfl) (by kernel_rfl) (by kernel_rfl) (fun _ _ _ h => h) (Or.inl ⟨by rfl, ?y23⟩) (by assumption) ?_
  case y23 => intro w hSw; (try dsimp only at hSw); go_simp <;> with_reducible rfl
  try simp only [Act.put, List.setIfInBounds_toArray, List.set_cons_zero, List.set_cons_succ]
  refine wpAnyH_take (i := 24) (v := ?v24) rfl (by kernel_rfl) (by kernel_rfl) (by kernel_rfl) (fun _ _ _ h => h) (Or.inl ⟨by rfl, ?y24⟩) (by assumption) ?_
  case y24 => intro w hSw; (try dsimp only at hSw); go_simp <;> with_reducible rfl
  try simp only [Act.put, List.setIfInBounds_toArray, List.set_cons_zero, List.set_cons_succ]
  refine wpAnyH_take (i := 25) (v := ?v25) rfl (by kernel_rfl) (by kernel_rfl) (by kernel_rfl) (fun _ _ _ h => h) (Or.inl ⟨by rfl, ?y25⟩) (by assumption) ?_
  case y25 => intro w hSw; (try dsimp only at hSw); go_simp <;> with_reducible rfl
  try simp only [Act.put, List.setIfInBounds_toArray, List.set_cons_zero, List.set_cons_succ]
  refine wpAnyH_take (i := 26) (v := ?v26) rfl (by kernel_rfl) (by kernel_rfl) (by kernel_rfl) (fun _ _ _ h => h) (Or.inl ⟨by rfl, ?y26⟩) (by assumption) ?_
  case y26 => intro w hSw; (try dsimp only at hSw); go_simp <;> with_reducible rfl
  try simp only [Act.put, List.setIfInBounds_toArray, List.set_cons_zero, List.set_cons_succ]
  simp only [List.getElem_toArray, List.getElem_cons_succ, List.getElem_cons_zero, Act.put, List.setIfInBounds_toArray, List.set_cons_zero, List.set_cons_succ]
  refine wpAnyH_done (by kernel_rfl) ?_ _
  go_wp2
  go_ret
  exact ⟨rfl, hHeld.1⟩
end Go.Proofs.Ytmhjepdnagmkpaa.Crc
