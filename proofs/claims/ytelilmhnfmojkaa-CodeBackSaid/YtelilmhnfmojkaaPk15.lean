/- CodeNames answers true, and changes nothing that was there. Conditions: none. -/
import Derived.Lib.SmallJoins
import Derived.Test.YtelilmhnfmojkaaPk14
import Derived.Test.YtelilmhnfmojkaaPk01
import Derived.Test.YtelilmhnfmojkaaPk06
import Derived.Test.YtelilmhnfmojkaaPk10

namespace Go.Proofs.Ytelilmhnfmojkaa.Codes
open Go.RowKit Go.WideShapes Num Go.Proofs.Ytelilmhnfmojkaa.Place Ops
attribute [local go_sem ↓] Go.wp_at_zero Go.wp_at_succ

theorem cAll_big (ao : Option Addr) (n cap : Nat) (hn : 1024 < n) (w : World) :
    Calls Try.prog 8 #[.slice ao n cap] w fun e w' => e = .returned (.tuple #[.slice none 0 0, .int .i64 4]) ∧ w = w' := by
  have q1 : decide ((1024 : Int) < (n : Int)) = true := decide_eq_true (by omega)
  have q2 : decide (1024 < n) = true := decide_eq_true hn
  go_enter Try.func8, Try.ntmps8
  go_wp2
  go_ret2
  exact ⟨rfl, rfl⟩
theorem ansL_none : ansL [0, 7] = ([], 1, 0) := by
  have h := ansL_yes (xs := [0, 7]) (l := []) ⟨by simp, by simp, [7], by decide +kernel⟩
  rw [h]
  rw [show (listB []).length = 1 by decide +kernel]
theorem ansL_many : ansL [129, 8] = ([], 0, 8) := ansL_no (fun l h => by
  obtain ⟨h1, h2, _⟩ := isList_iff.1 h
  rw [show Num.get [129, 8] = (1025, 2, 0) by decide +kernel] at h1
  simp only [Prod.mk.injEq] at h1
  omega)

theorem made_ops : ∃ Z : Array Value, ∀ w : World, (Instr.makeSlice 26 (.int .i64 1025) (.int .i64 1025)).run Try.prog w = .ok (.slice (some ⟨w.heap.size, 0, none⟩) 1025 1025) (w.alloc (.cells Z 35)) := by
  obtain ⟨i, hi, hz0, hz1, hz2⟩ := info_parts op_info
  refine ⟨madeCells (Value.agg #[.int .u8 0, .int .u32 0, .int .u8 0, .slice none 0 0, .int .i64 0]).cells ((1025 : Int).toNat * i.size), fun w => ?_⟩
  exact run_makeSlice w 26 35 i _ Try.underlying26 hi hz0 .i64 .i64 1025 1025 (by decide) (by decide) (by rw [hz1]; decide) (by rw [hz2]; decide) (by decide)

set_option maxRecDepth 100000 in
set_option maxHeartbeats 8000000 in
theorem names_walk (w : World) : Calls Try.prog 3 #[] w fun e w' => e = .returned (.bool true) ∧ Below w.heap.size w w' := by
  have A0 : Hid (∀ W : World, Calls Try.prog 8 #[.slice none 0 0] W (Put2 0 [0] W)) := fun W => by
    have := cAll_any (l := []) (Seq.nil opE W)
    rw [show allC [] = 0 by decide, show allB [] = [0] by decide +kernel] at this
    exact this
  have R0 : Hid (∀ (W : World) (v : Value), Reads W v [0, 7] → Calls Try.prog 9 #[v] W fun e w' => ∃ ao cap, e = .returned (.tuple #[.slice ao 0 cap, .int .i64 1, .int .i64 0]) ∧ Below W.heap.size W w') := fun W v h => by
    obtain ⟨ao, cap, rfl⟩ := h.shape
    have := cRead_any rfl (by simp) h
    rw [ansL_none] at this
    refine this.mono ?_
    rintro e w' ⟨u, rfl, ho, hb⟩
    obtain ⟨ao, cap, rfl⟩ := ho.opl.shape
    exact ⟨ao, cap, rfl, hb⟩
  have R1 : Hid (∀ (W : World) (v : Value), Reads W v [129, 8] → Calls Try.prog 9 #[v] W fun e w' => ∃ ao cap, e = .returned (.tuple #[.slice ao 0 cap, .int .i64 0, .int .i64 8]) ∧ Below W.heap.size W w') := fun W v h => by
    obtain ⟨ao, cap, rfl⟩ := h.shape
    have := cRead_any rfl (by simp) h
    rw [ansL_many] at this
    refine this.mono ?_
    rintro e w' ⟨u, rfl, ho, hb⟩
    obtain ⟨ao, cap, rfl⟩ := ho.opl.shape
    exact ⟨ao, cap, rfl, hb⟩
  have PZ : Hid (∀ W : World, Calls Try.prog 10 #[.agg #[.int .u8 0, .int .u32 0, .int .u8 0, .slice none 0 0, .int .i64 0]] W (Put2 8 [] W)) := fun W => by
    have := cPut_any (o := zop) (Runs.nil W)
    rw [show chkO zop = 8 by decide +kernel, show putB zop = [] by decide +kernel] at this
    exact this
  have n1 : (getO [1, 1, 1, 0, 3]).isNone = true := by decide +kernel
  have n2 : (getO [9, 1, 1, 0, 3, 97]).isNone = true := by decide +kernel
  have n3 : (getO []).isNone = true := by decide +kernel
  have BD : Hid (∀ (W : World) (v : Value) (xs : List UInt8), Reads W v xs → xs.length ≤ 100 → (getO xs).isNone = true → Calls Try.prog 12 #[v] W fun e w' => e = .returned (.bool true) ∧ Below W.heap.size W w') := fun W v xs h h1 h2 => bad_any h h1 h2
  have N1 := Lib.hid n1
  have N2 := Lib.hid n2
  have N3 := Lib.hid n3
  have s1 : ((str [0]).toList == (ByteArray.mk #[0]).toList) = true := by rw [ByteArray.toList_eq, ByteArray.toList_eq]; decide
  have s1' : ((str [0]).toList == [0]) = true := by rw [ByteArray.toList_eq]; decide
  obtain ⟨A, hA⟩ : ∃ A, A = str [0] := ⟨_, rfl⟩
  rw [← hA] at s1 s1'
  have HA := Lib.hid hA
  obtain ⟨Z, hZ⟩ := made_ops
  clear hA n1 n2 n3
  go_enter Try.func3, Try.ntmps3
  go_wp2_with fail
  refine (A0.out _).mono ?_
  rintro e w1 ⟨va, rfl, o1, b1⟩
  have RA1 := Lib.hid (Reads.own o1)
  have bo := (Below.refl w1.heap.size w1).alloc (Nat.le_refl _) (.cells (bs [0, 7]).toArray 5)
  have RN := Lib.hid (reads_new w1 [0, 7] (by simp) (0, 0))
  have RA2 := Lib.hid (RA1.out.keeps bo)
  have B2 := Lib.hid (bt b1 bo)
  clear o1 b1 bo RA1
  go_wp2_with fail
  refine (R0.out _ _ RN.out).mono ?_
  rintro e w3 ⟨ao3, cap3, rfl, b3⟩
  have RA3 := Lib.hid (RA2.out.keeps b3)
  have B3 := Lib.hid (bt B2.out b3)
  clear b3 RN RA2 B2
  go_wp2_with fail
  have b4 := (Below.refl w3.heap.size w3).alloc (Nat.le_refl _) (.cells Z 35)
  have RA4 := Lib.hid (RA3.out.keeps b4)
  have B4 := Lib.hid (bt B3.out b4)
  clear b4 RA3 B3
  refine (cAll_big _ 1025 1025 (by decide) _).mono ?_
  rintro e w5 ⟨rfl, rfl⟩
  go_wp2_with fail
  refine (PZ.out _).mono ?_
  rintro e w6 ⟨vz, rfl, o6, b6⟩
  have b7 := b6.alloc b6.size (.cells (bs [129, 8]).toArray 5)
  have RA6 := Lib.hid (RA4.out.keeps b7)
  have B6 := Lib.hid (bt B4.out b7)
  have RM := Lib.hid (reads_new w6 [129, 8] (by simp) (0, 0))
  clear o6 b6 b7 RA4 B4
  go_wp2_with fail
  refine (R1.out _ _ RM.out).mono ?_
  rintro e w7 ⟨ao7, cap7, rfl, b7⟩
  have RA7 := Lib.hid (RA6.out.keeps b7)
  have B7 := Lib.hid (bt B6.out b7)
  clear b7 RA6 B6 RM
  go_wp2_with fail
  refine (alive10_any _).mono ?_
  rintro e w8 ⟨rfl, b8⟩
  have RA8 := RA7.out.keeps b8
  have sa := run_string RA8
  rw [← HA.out] at sa
  have B8 := Lib.hid (bt B7.out b8)
  have b9 := (Below.refl w8.heap.size w8).alloc (Nat.le_refl _) (.cells (bs [1, 1, 1, 0, 3]).toArray 5)
  have RP := Lib.hid (reads_new w8 [1, 1, 1, 0, 3] (by simp) (0, 0))
  have B9 := Lib.hid (bt B8.out b9)
  clear b8 b9 RA7 RA8 B7 B8
  go_wp2_with fail
  refine (BD.out _ _ _ RP.out (by simp) N1.out).mono ?_
  rintro e w10 ⟨rfl, b10⟩
  have b11 := b10.alloc b10.size (.cells (bs [9, 1, 1, 0, 3, 97]).toArray 5)
  have RQ := Lib.hid (reads_new w10 [9, 1, 1, 0, 3, 97] (by simp) (0, 0))
  have B11 := Lib.hid (bt B9.out b11)
  clear b10 b11 B9 RP sa
  go_wp2_with fail
  refine (BD.out _ _ _ RQ.out (by simp) N2.out).mono ?_
  rintro e w12 ⟨rfl, b12⟩
  have B12 := Lib.hid (bt B11.out b12)
  clear b12 B11 RQ
  go_wp2_with fail
  refine (BD.out _ _ _ (Reads.nil _) (by simp) N3.out).mono ?_
  rintro e w13 ⟨rfl, b13⟩
  have B13 := Lib.hid (bt B12.out b13)
  clear b13 B12
  go_wp2
  go_ret
  exact ⟨rfl, B13.out⟩
end Go.Proofs.Ytelilmhnfmojkaa.Codes

/- A stamp, a slice of stamps that came in: what it holds. Conditions: none. -/
namespace Go.Proofs.Ytelilmhnfmojkaa
open Go.Joins Go.ChangeShapes Go.WideShapes Go.ChangeAt Go.RowKit Go.Deep

set_option maxRecDepth 100000 in
theorem kit_cellsId : Try.prog.cellsOf 32 = 2 := by kernel_rfl

set_option maxRecDepth 100000 in
theorem wf_u32 {a : Int} (h : (Lit.int .u32 a).wf = true) : ∃ n : Nat, a = (n : Int) ∧ n < 4294967296 := by
  have hb : 0 ≤ a ∧ a ≤ 4294967295 := by simpa [Lit.wf, IntKind.min, IntKind.max, IntKind.signed, IntKind.bits] using h
  exact ⟨a.toNat, by omega, by omega⟩
set_option maxRecDepth 100000 in
theorem wf_u8 {a : Int} (h : (Lit.int .u8 a).wf = true) : ∃ n : Nat, a = (n : Int) ∧ n < 256 := by
  have hb : 0 ≤ a ∧ a ≤ 255 := by simpa [Lit.wf, IntKind.min, IntKind.max, IntKind.signed, IntKind.bits] using h
  exact ⟨a.toNat, by omega, by omega⟩

set_option maxRecDepth 100000 in
theorem id_of {H : Type} {enc : TypeId × Value → H} {W : World} {v : Value} {d : DataW H} {p : List MemPlace} {base : Nat}
    (hv : Value.okWide Try.prog W .any base 32 v) (h : DataW.Trod enc Try.prog W 0 (fun _ => true) true 32 v d p) :
    ∃ a : Id, v = .agg #[.int .u32 (a.t : Int), .int .u8 (a.r : Int)] := by
  obtain ⟨c0, c1, y0, y1, m, rfl, -, -, hy0, hy1⟩ := open_agg2 Try.underlying32 (by kernel_rfl) kit_cellsId hv h
  obtain ⟨a, e0, -, wa⟩ := DataW.trod_int Try.underlying30 hy0
  obtain ⟨b, e1, -, wb⟩ := DataW.trod_int Try.underlying5 hy1
  simp at e0 e1
  subst e0 e1
  obtain ⟨n, rfl, hn⟩ := wf_u32 wa
  obtain ⟨q, rfl, hq⟩ := wf_u8 wb
  exact ⟨⟨n, q, hn, hq⟩, rfl⟩

end Go.Proofs.Ytelilmhnfmojkaa

/- A slice of runs that came in: what it holds. Conditions: none. -/
namespace Go.Proofs.Ytelilmhnfmojkaa
open Go.Joins Go.ChangeShapes Go.WideShapes Go.ChangeAt Go.RowKit Go.Deep

set_option maxRecDepth 100000 in
theorem kit_cellsRun : Try.prog.cellsOf 71 = 3 := by kernel_rfl

set_option maxRecDepth 100000 in
theorem runs_of {H : Type} {enc : TypeId × Value → H} {W : World} {v : Value} {d : DataW H} {p : List MemPlace} {base : Nat}
    (hv : Value.okWide Try.prog W .any base 33 v) (h : DataW.Trod enc Try.prog W 0 (fun _ => true) true 33 v d p) :
    ∃ (ao : Option Addr) (cap : Nat) (l : List Run), v = .slice ao l.length cap ∧ Runs W (.slice ao l.length cap) l := by
  obtain ⟨a0, len, cap, rfl⟩ := okWide_slice Try.underlying33 hv
  obtain ⟨fuel, hf⟩ := h
  rcases open_slice Try.underlying33 hf with ⟨hcs, hx⟩ | ⟨a, len', cap', m, n, D, Pl, hcs, _, hl, hm, hmm, hx, hi⟩
  · simp [Value.cells] at hcs
    obtain ⟨rfl, rfl, rfl⟩ := hcs
    exact ⟨none, 0, [], rfl, Runs.nil W⟩
  · simp [Value.cells] at hcs
    obtain ⟨rfl, rfl, rfl⟩ := hcs
    simp only [if_true] at hmm
    subst hmm
    unfold maxLen at hm
    have each : ∀ i, i < m → ∃ x : Run, W.cell? (a.add (i * 3)) = some (.int .u32 (x.t : Int)) ∧ W.cell? ((a.add (i * 3)).add 1) = some (.int .u8 (x.r : Int)) ∧ W.cell? ((a.add (i * 3)).add 2) = some (.int .i64 x.m) := by
      intro i him
      obtain ⟨cs, hc, ht⟩ := hi i him
      rw [kit_cellsRun] at hc
      obtain ⟨_, hcl, hat⟩ := World.cells?_some hc
      obtain ⟨y0, y1, y2, n2, -, hlen, h0, h1, h2⟩ := trod_struct3 Try.underlying71 ht
      match cs, hcl with
      | [c0, c1, c2], _ =>
        have h0' : DataW.trod enc Try.prog W 0 (fun _ => true) true n2 30 [c0] = some y0 := h0
        have h1' : DataW.trod enc Try.prog W 0 (fun _ => true) true n2 5 [c1] = some y1 := h1
        have h2' : DataW.trod enc Try.prog W 0 (fun _ => true) true n2 3 [c2] = some y2 := h2
        obtain ⟨z, e0, -, wz⟩ := DataW.trod_int Try.underlying30 h0'
        obtain ⟨u, e1, -, wu⟩ := DataW.trod_int Try.underlying5 h1'
        obtain ⟨mm, e2, -, wm⟩ := DataW.trod_int Try.underlying3 h2'
        simp at e0 e1 e2
        subst e0 e1 e2
        have hmb : -9223372036854775808 ≤ mm ∧ mm ≤ 9223372036854775807 := by simpa [Lit.wf, IntKind.min, IntKind.max, IntKind.signed, IntKind.bits] using wm
        obtain ⟨tn, rfl, hn⟩ := wf_u32 wz
        obtain ⟨q, rfl, hq⟩ := wf_u8 wu
        have g0 := hat 0 (by omega)
        have g1 := hat 1 (by omega)
        have g2 := hat 2 (by omega)
        exact ⟨⟨tn, q, mm, hn, hq, hmb⟩, by simpa [Addr.add] using g0, by simpa using g1, by simpa using g2⟩
    have hsel : ∃ f : Nat → Run, ∀ i, i < m → W.cell? (a.add (i * 3)) = some (.int .u32 ((f i).t : Int)) ∧ W.cell? ((a.add (i * 3)).add 1) = some (.int .u8 ((f i).r : Int)) ∧ W.cell? ((a.add (i * 3)).add 2) = some (.int .i64 (f i).m) :=
      ⟨fun i => if h : i < m then Classical.choose (each i h) else zrun, fun i h => by simp only [h, dif_pos]; exact Classical.choose_spec (each i h)⟩
    obtain ⟨f, hf⟩ := hsel
    have hxl : ((List.range len).map f).length = len := by simp
    refine ⟨some a, m, (List.range len).map f, by rw [hxl], by rw [runs_len], some a, m, rfl, by omega, hm, by simp, ?_⟩
    by_cases hl0 : len = 0
    · left; subst hl0; rfl
    · right
      obtain ⟨b, off, spot⟩ := a
      have hspot : spot = none := by simpa [Addr.add] using World.cell?_spot (hf 0 (by omega)).1
      subst hspot
      refine ⟨b, off, rfl, World.block_lt_of_cell? W ⟨b, off, none⟩ (by simpa [Addr.add] using (hf 0 (by omega)).1), fun j u hj => ?_⟩
      have hjl : j < (runs ((List.range len).map f)).length := (List.getElem?_eq_some_iff.1 hj).1
      rw [runs_len, hxl] at hjl
      obtain ⟨i, hij⟩ : ∃ i, j = i * 3 ∨ j = i * 3 + 1 ∨ j = i * 3 + 2 := ⟨j / 3, by omega⟩
      have e := runs_get ((List.range len).map f) i (by rw [hxl]; omega)
      have ef : ((List.range len).map f).getD i zrun = f i := by simp [List.getD, show i < len by omega]
      rw [ef] at e
      have g := hf i (by omega)
      rw [add_plain, add_plain, add_plain] at g
      rcases hij with rfl | rfl | rfl
      · rw [e.1] at hj
        rw [← hj]
        exact g.1
      · rw [e.2.1] at hj
        rw [← hj]
        exact g.2.1
      · rw [e.2.2] at hj
        rw [← hj]
        exact g.2.2
end Go.Proofs.Ytelilmhnfmojkaa

/- An operation that came in: what it holds. Conditions: none. -/
namespace Go.Proofs.Ytelilmhnfmojkaa
open Go.Joins Go.ChangeShapes Go.WideShapes Go.ChangeAt Go.RowKit Go.Deep Go.Proofs.Ytelilmhnfmojkaa.Ops

set_option maxRecDepth 100000 in
theorem runs_cells {H : Type} {enc : TypeId × Value → H} {W : World} {v : Value} {fuel : Nat} {y : DataW H × List MemPlace}
    (hf : DataW.trod enc Try.prog W 0 (fun _ => true) true fuel 33 [v] = some y) :
    ∃ (ao : Option Addr) (cap : Nat) (l : List Run), v = .slice ao l.length cap ∧ Runs W (.slice ao l.length cap) l := by
  rcases open_slice Try.underlying33 hf with ⟨hcs, hx⟩ | ⟨a, len, cap, m, n, D, Pl, hcs, _, hl, hm, hmm, hx, hi⟩
  · obtain rfl : v = .slice none 0 0 := by simpa using hcs
    exact ⟨none, 0, [], rfl, Runs.nil W⟩
  · obtain rfl : v = .slice (some a) len cap := by simpa using hcs
    simp only [if_true] at hmm
    subst hmm
    unfold maxLen at hm
    have each : ∀ i, i < m → ∃ x : Run, W.cell? (a.add (i * 3)) = some (.int .u32 (x.t : Int)) ∧ W.cell? ((a.add (i * 3)).add 1) = some (.int .u8 (x.r : Int)) ∧ W.cell? ((a.add (i * 3)).add 2) = some (.int .i64 x.m) := by
      intro i him
      obtain ⟨cs, hc, ht⟩ := hi i him
      rw [kit_cellsRun] at hc
      obtain ⟨_, hcl, hat⟩ := World.cells?_some hc
      obtain ⟨y0, y1, y2, n2, -, hlen, h0, h1, h2⟩ := trod_struct3 Try.underlying71 ht
      match cs, hcl with
      | [c0, c1, c2], _ =>
        have h0' : DataW.trod enc Try.prog W 0 (fun _ => true) true n2 30 [c0] = some y0 := h0
        have h1' : DataW.trod enc Try.prog W 0 (fun _ => true) true n2 5 [c1] = some y1 := h1
        have h2' : DataW.trod enc Try.prog W 0 (fun _ => true) true n2 3 [c2] = some y2 := h2
        obtain ⟨z, e0, -, wz⟩ := DataW.trod_int Try.underlying30 h0'
        obtain ⟨u, e1, -, wu⟩ := DataW.trod_int Try.underlying5 h1'
        obtain ⟨mm, e2, -, wm⟩ := DataW.trod_int Try.underlying3 h2'
        simp at e0 e1 e2
        subst e0 e1 e2
        have hmb : -9223372036854775808 ≤ mm ∧ mm ≤ 9223372036854775807 := by simpa [Lit.wf, IntKind.min, IntKind.max, IntKind.signed, IntKind.bits] using wm
        obtain ⟨tn, rfl, hn⟩ := wf_u32 wz
        obtain ⟨q, rfl, hq⟩ := wf_u8 wu
        have g0 := hat 0 (by omega)
        have g1 := hat 1 (by omega)
        have g2 := hat 2 (by omega)
        exact ⟨⟨tn, q, mm, hn, hq, hmb⟩, by simpa [Addr.add] using g0, by simpa using g1, by simpa using g2⟩
    have hsel : ∃ f : Nat → Run, ∀ i, i < m → W.cell? (a.add (i * 3)) = some (.int .u32 ((f i).t : Int)) ∧ W.cell? ((a.add (i * 3)).add 1) = some (.int .u8 ((f i).r : Int)) ∧ W.cell? ((a.add (i * 3)).add 2) = some (.int .i64 (f i).m) :=
      ⟨fun i => if h : i < m then Classical.choose (each i h) else zrun, fun i h => by simp only [h, dif_pos]; exact Classical.choose_spec (each i h)⟩
    obtain ⟨f, hf⟩ := hsel
    have hxl : ((List.range len).map f).length = len := by simp
    refine ⟨some a, m, (List.range len).map f, by rw [hxl], by rw [runs_len], some a, m, rfl, by omega, hm, by simp, ?_⟩
    by_cases hl0 : len = 0
    · left; subst hl0; rfl
    · right
      obtain ⟨b, off, spot⟩ := a
      have hspot : spot = none := by simpa [Addr.add] using World.cell?_spot (hf 0 (by omega)).1
      subst hspot
      refine ⟨b, off, rfl, World.block_lt_of_cell? W ⟨b, off, none⟩ (by simpa [Addr.add] using (hf 0 (by omega)).1), fun j u hj => ?_⟩
      have hjl : j < (runs ((List.range len).map f)).length := (List.getElem?_eq_some_iff.1 hj).1
      rw [runs_len, hxl] at hjl
      obtain ⟨i, hij⟩ : ∃ i, j = i * 3 ∨ j = i * 3 + 1 ∨ j = i * 3 + 2 := ⟨j / 3, by omega⟩
      have e := runs_get ((List.range len).map f) i (by rw [hxl]; omega)
      have ef : ((List.range len).map f).getD i zrun = f i := by simp [List.getD, show i < len by omega]
      rw [ef] at e
      have g := hf i (by omega)
      rw [add_plain, add_plain, add_plain] at g
      rcases hij with rfl | rfl | rfl
      · rw [e.1] at hj
        rw [← hj]
        exact g.1
      · rw [e.2.1] at hj
        rw [← hj]
        exact g.2.1
      · rw [e.2.2] at hj
        rw [← hj]
        exact g.2.2

theorem array5 {α : Type} {cs : Array α} (h : cs.size = 5) : ∃ c0 c1 c2 c3 c4, cs = #[c0, c1, c2, c3, c4] := by
  obtain ⟨l⟩ := cs
  match l, h with
  | [c0, c1, c2, c3, c4], _ => exact ⟨c0, c1, c2, c3, c4, rfl⟩
set_option maxRecDepth 100000 in
theorem kit_cellsOp : Try.prog.cellsOf 35 = 5 := by kernel_rfl

set_option maxRecDepth 100000 in
theorem op_of {H : Type} {enc : TypeId × Value → H} {W : World} {v : Value} {d : DataW H} {p : List MemPlace} {base : Nat}
    (hv : Value.okWide Try.prog W .any base 35 v) (h : DataW.Trod enc Try.prog W 0 (fun _ => true) true 35 v d p) :
    ∃ (o : Opn) (ao : Option Addr) (cap : Nat), v = opv o (.slice ao o.pl.length cap) ∧ Runs W (.slice ao o.pl.length cap) o.pl := by
  obtain ⟨cs, rfl, hsz⟩ := okWide_struct Try.underlying35 hv
  obtain ⟨c0, c1, c2, c3, c4, rfl⟩ := array5 (hsz.trans kit_cellsOp)
  obtain ⟨fuel, hf⟩ := h
  obtain ⟨y0, y1, y2, y3, n, -, -, h0, h1, h2, h3⟩ := trod_struct4 Try.underlying35 hf
  have h0' : DataW.trod enc Try.prog W 0 (fun _ => true) true n 5 [c0] = some y0 := h0
  have h1' : DataW.trod enc Try.prog W 0 (fun _ => true) true n 32 [c1, c2] = some y1 := h1
  have h2' : DataW.trod enc Try.prog W 0 (fun _ => true) true n 33 [c3] = some y2 := h2
  have h3' : DataW.trod enc Try.prog W 0 (fun _ => true) true n 3 [c4] = some y3 := h3
  obtain ⟨z0, z1, n2, -, -, g0, g1⟩ := trod_struct2 Try.underlying32 h1'
  have g0' : DataW.trod enc Try.prog W 0 (fun _ => true) true n2 30 [c1] = some z0 := g0
  have g1' : DataW.trod enc Try.prog W 0 (fun _ => true) true n2 5 [c2] = some z1 := g1
  obtain ⟨k, e0, -, wk⟩ := DataW.trod_int Try.underlying5 h0'
  obtain ⟨t, e1, -, wt⟩ := DataW.trod_int Try.underlying30 g0'
  obtain ⟨r, e2, -, wr⟩ := DataW.trod_int Try.underlying5 g1'
  obtain ⟨q, e4, -, wq⟩ := DataW.trod_int Try.underlying3 h3'
  obtain ⟨ao, cap, l, e3, hl⟩ := runs_cells h2'
  simp at e0 e1 e2 e4
  subst e0 e1 e2 e3 e4
  have hq : -9223372036854775808 ≤ q ∧ q ≤ 9223372036854775807 := by simpa [Lit.wf, IntKind.min, IntKind.max, IntKind.signed, IntKind.bits] using wq
  obtain ⟨k, rfl, hk⟩ := wf_u8 wk
  obtain ⟨t, rfl, ht⟩ := wf_u32 wt
  obtain ⟨r, rfl, hr⟩ := wf_u8 wr
  exact ⟨⟨k, t, r, l, q, hk, ht, hr, hq⟩, ao, cap, rfl, hl⟩
end Go.Proofs.Ytelilmhnfmojkaa

/- octavoref10.Get: what it answers. Conditions: the bytes read as such; at most a million of them. -/
namespace Go.Proofs.Ytelilmhnfmojkaa.Codes
open Go.RowKit Go.WideShapes Num Go.Proofs.Ytelilmhnfmojkaa.Place Ops
attribute [local go_sem ↓] Go.wp_at_zero Go.wp_at_succ

theorem str_list (l : List UInt8) : (str l).toList = l := by unfold str; rw [ByteArray.toList_eq]
theorem beq_dec (a b : List UInt8) : (a == b) = decide (a = b) := by by_cases h : a = b <;> simp [h]
theorem numbers_reads {ys : List UInt8} {v : Value} {w : World} (hr : Reads w v ys) (hl : ys.length ≤ 1000000) (m high : Nat) (hm : m ≤ 1000) :
    Calls Try.prog 33 #[v, .int .i64 (m : Int), .int .i64 (high : Int)] w (NumsOut (numsOf high m ys) w.heap.size w) := by
  obtain ⟨ao, cap, rfl⟩ := hr.shape
  exact refNumbers_any rfl hl hr m high hm
/-- What stands behind a call of Numbers, slot by slot. -/
def Cut (F : Option (List Nat)) (w : World) (i l s : Value) (w' : World) : Prop :=
  Hid (Below w.heap.size w w') ∧ ((∃ L, Hid (F = some L) ∧ Hid (Nums w' l L) ∧ s = .int .i64 ((nums L).length : Int) ∧ i = .bool true) ∨ (Hid (F = none) ∧ i = .bool false))
theorem cut_of {F : Option (List Nat)} {w w1 w2 : World} {i l s : Value} (hb : Below w.heap.size w w1) (h : NumsOut F w1.heap.size w1 (.returned (.tuple #[l, s, i])) w2) : Cut F w i l s w2 := by
  rcases h with ⟨L, v, h1, h2, h3, h4⟩ | ⟨h1, h2, h3⟩
  · simp only [Ending.returned.injEq, Value.tuple.injEq, Array.mk.injEq, List.cons.injEq, and_true] at h2
    obtain ⟨rfl, rfl, rfl⟩ := h2
    exact ⟨bt hb h4, .inl ⟨L, h1, Sees.own h3, rfl, rfl⟩⟩
  · simp only [Ending.returned.injEq, Value.tuple.injEq, Array.mk.injEq, List.cons.injEq, and_true] at h2
    obtain ⟨rfl, rfl, rfl⟩ := h2
    exact ⟨bt hb h3, .inr ⟨h1, rfl⟩⟩
theorem out_shape {F : Option (List Nat)} {B : Nat} {w w2 : World} {e : Ending} (h : NumsOut F B w e w2) : ∃ l s i, e = .returned (.tuple #[l, s, i]) := by
  rcases h with ⟨L, v, _, h2, _⟩ | ⟨_, h2, _⟩
  · exact ⟨_, _, _, h2⟩
  · exact ⟨_, _, _, h2⟩

theorem reads_part {w : World} {ao : Option Addr} {n cap s : Nat} {xs : List UInt8} (h : Reads w (.slice ao n cap) xs) (hs : s ≤ n) (hx : xs ≠ []) :
    ∃ b off o', ao = some ⟨b, off, none⟩ ∧ (if cap = s then (some ⟨b, off, none⟩ : Option Addr) else some ⟨b, off + s, none⟩) = some ⟨b, o', none⟩ ∧ Reads w (.slice (some ⟨b, o', none⟩) (n - s) (cap - s)) (xs.drop s) := by
  rcases reads_from h hs with ⟨_, _, h1, _⟩ | ⟨h1, _⟩ | ⟨b, off, h1, ⟨h2, h3, h4⟩ | ⟨h2, h3⟩⟩
  · exact absurd h1 hx
  · exact absurd h1 hx
  · exact ⟨b, off, off, h1, by rw [if_pos h2], by rw [h2, h3, Nat.sub_self]; exact h4⟩
  · exact ⟨b, off, off + s, h1, by rw [if_neg h2], h3⟩

set_option maxRecDepth 100000 in
set_option maxHeartbeats 16000000 in
theorem refGetO_any {xs : List UInt8} {ao : Option Addr} {n cap : Nat} {w : World} (hn : n = xs.length) (hl : n ≤ 1000000) (hr : Reads w (.slice ao n cap) xs) :
    Calls Try.prog 16 #[.slice ao n cap] w (GotO (ansO xs).1 (ansO xs).2.1 (ansO xs).2.2 w) := by
  have HRD : Hid (∀ W : World, Below w.heap.size w W → Reads W (.slice ao n cap) xs) := fun W h => hr.keeps h
  have HN := Lib.hid hn
  obtain ⟨⟨oa, sa, ca⟩, ha⟩ : ∃ z, ansO xs = z := ⟨_, rfl⟩
  have HB : Hid ((∀ o, ¬ IsAt xs 0 o) → (oa, sa, ca) = (zop, 0, 8)) := fun h => by rw [← ha]; exact none_found h
  have HG : Hid (∀ o, IsAt xs 0 o → (oa, sa, ca) = (o, (bytesO o).length, 0)) := fun o h => by rw [← ha]; exact one_found h
  rw [ha]
  simp only
  have X1 : Hid ((w.alloc (.cells #[.int .u8 0, .int .u32 0, .int .u8 0, .slice none 0 0, .int .i64 0] 35)).heap[w.heap.size]? = some (.cells #[.int .u8 0, .int .u32 0, .int .u8 0, .slice none 0 0, .int .i64 0] 35)) := blk_new rfl
  have B1 : Hid (Below w.heap.size w (w.alloc (.cells #[.int .u8 0, .int .u32 0, .int .u8 0, .slice none 0 0, .int .i64 0] 35))) := (Below.refl _ _).alloc (Nat.le_refl _) _
  have NU : Hid (∀ (W : World) (v : Value) (ys : List UInt8) (m : Nat), Reads W v ys → ys.length ≤ 1000000 → m ≤ 1000 → Calls Try.prog 33 #[v, .int .i64 (m : Int), .int .i64 1073741824] W (NumsOut (numsOf 1073741824 m ys) W.heap.size W)) := fun W v ys m h h2 h3 => numbers_reads h h2 m 1073741824 h3
  clear hn hr ha
  go_enter Try.func16, Try.ntmps16
  go_wp2_with fail
  refine (NU.out _ _ xs 2 (HRD.out _ B1.out) (by rw [← HN.out]; exact hl) (by omega)).mono ?_
  intro e w1 h1
  obtain ⟨l0, s0, i0, rfl⟩ := out_shape h1
  obtain ⟨b1, h1⟩ := cut_of (Below.refl _ _) h1
  have B2 := Lib.hid (bt B1.out b1.out)
  have X2 : Hid (w1.heap[w.heap.size]? = some (.cells #[.int .u8 0, .int .u32 0, .int .u8 0, .slice none 0 0, .int .i64 0] 35)) := blk_below b1.out X1.out
  obtain ⟨x0, x1, x2, x3, x4⟩ := cells5 X2.out
  have f0 : ∀ o, w1.frozen? ⟨w.heap.size, o, none⟩ = false := fun o => free5 X2.out o
  clear b1 X1 B1
  rcases h1 with ⟨L, hF, hN, rfl, rfl⟩ | ⟨hF, rfl⟩
  rotate_left
  · clear HG NU
    go_wp2_with fail
    obtain ⟨WF, hWF⟩ : ∃ WF, WF = put5 w1 w.heap.size (.int .u8 0) (.int .u32 0) (.int .u8 0) (.slice none 0 0) (.int .i64 0) := ⟨_, rfl⟩
    have HF := put5_same (.int .u8 0) (.int .u32 0) (.int .u8 0) (.slice none 0 0) (.int .i64 0) X2.out
    have BF := put5_below (.int .u8 0) (.int .u32 0) (.int .u8 0) (.slice none 0 0) (.int .i64 0) (Nat.le_refl w.heap.size) B2.out
    rw [← hWF] at HF BF
    unfold put5 at hWF
    rw [← hWF]
    obtain ⟨e0, e1, e2, e3, e4⟩ := cells5 HF
    have hbad := HB.out (fun o h => by have := (ahead_found h).1; rw [hF.out] at this; cases this)
    obtain ⟨rfl, rfl, rfl⟩ : oa = zop ∧ sa = 0 ∧ ca = 8 := by simpa using hbad
    exact bodyPost_ret (v := .tuple #[.agg #[.int .u8 0, .int .u32 0, .int .u8 0, .slice none 0 0, .int .i64 0], .int .i64 0, .int .i64 8]) (by simp [results, Try.results16, go_sem, e0, e1, e2, e3, e4]) rfl ⟨none, 0, rfl, World.ownsRow_nil _ _ _ _, BF⟩
  obtain ⟨hlen, hle, hpre⟩ := numsOf_some hF.out
  obtain ⟨k, m, rfl⟩ : ∃ k m, L = [k, m] := by
    match L, hlen with
    | [k, m], _ => exact ⟨k, m, rfl⟩
  have hk30 : k ≤ 1073741824 := hle k (by simp)
  have hm30 : m ≤ 1073741824 := hle m (by simp)
  obtain ⟨s1, hs1⟩ : ∃ s, s = (nums [k, m]).length := ⟨_, rfl⟩
  have hs1n : s1 ≤ n := by
    obtain ⟨t, ht⟩ := hpre
    rw [HN.out, ht, List.length_append, ← hs1]; omega
  have hpos : 1 ≤ s1 := by rw [hs1]; have := (encF_len 5 k).1; simp only [nums, List.length_append, enc]; omega
  have HSEP : Hid (∀ o, IsAt xs 0 o → k = o.k ∧ m = o.pl.length) := fun o h => by
    have := (ahead_found h).1
    rw [hF.out] at this
    simpa using this
  have HS1 := Lib.hid hs1
  obtain ⟨lo0, lc0, rfl⟩ : ∃ ao cap, l0 = .slice ao 2 cap := Sees.shape hN.out
  obtain ⟨nb, no, rfl, hnb, hnc⟩ := Nums.at hN.out (by simp)
  have hn0 : w1.cell? ⟨nb, no, none⟩ = some (.int .i64 (k : Int)) := by simpa using hnc 0 (by simp)
  have hn1 : w1.cell? ⟨nb, no + 1, none⟩ = some (.int .i64 (m : Int)) := by simpa using hnc 1 (by simp)
  have HNB : Hid (nb < w1.heap.size) := hnb
  rw [← hs1]
  clear hlen hle hpre hs1 hnc hF hnb
  by_cases k1 : k < 1
  · have q1 : decide ((k : Int) < 1) = true := by simp; omega
    obtain rfl : k = 0 := by omega
    go_wp2_with fail
    obtain ⟨WF, hWF⟩ : ∃ WF, WF = put5 w1 w.heap.size (.int .u8 0) (.int .u32 0) (.int .u8 0) (.slice none 0 0) (.int .i64 0) := ⟨_, rfl⟩
    have HF := put5_same (.int .u8 0) (.int .u32 0) (.int .u8 0) (.slice none 0 0) (.int .i64 0) X2.out
    have BF := put5_below (.int .u8 0) (.int .u32 0) (.int .u8 0) (.slice none 0 0) (.int .i64 0) (Nat.le_refl w.heap.size) B2.out
    rw [← hWF] at HF BF
    unfold put5 at hWF
    rw [← hWF]
    obtain ⟨e0, e1, e2, e3, e4⟩ := cells5 HF
    have hbad := HB.out (fun o h => by have := (HSEP.out o h).1; have := kind_le h.1; omega)
    obtain ⟨rfl, rfl, rfl⟩ : oa = zop ∧ sa = 0 ∧ ca = 8 := by simpa using hbad
    exact bodyPost_ret (v := .tuple #[.agg #[.int .u8 0, .int .u32 0, .int .u8 0, .slice none 0 0, .int .i64 0], .int .i64 0, .int .i64 8]) (by simp [results, Try.results16, go_sem, e0, e1, e2, e3, e4]) rfl ⟨none, 0, rfl, World.ownsRow_nil _ _ _ _, BF⟩
  have q1 : decide ((k : Int) < 1) = false := by simp; omega
  by_cases k4 : 4 < k
  · have q2 : decide (4 < (k : Int)) = true := by simp; omega
    have q2' : decide (4 < k) = true := by simp; omega
    go_wp2_with fail
    obtain ⟨WF, hWF⟩ : ∃ WF, WF = put5 w1 w.heap.size (.int .u8 0) (.int .u32 0) (.int .u8 0) (.slice none 0 0) (.int .i64 0) := ⟨_, rfl⟩
    have HF := put5_same (.int .u8 0) (.int .u32 0) (.int .u8 0) (.slice none 0 0) (.int .i64 0) X2.out
    have BF := put5_below (.int .u8 0) (.int .u32 0) (.int .u8 0) (.slice none 0 0) (.int .i64 0) (Nat.le_refl w.heap.size) B2.out
    rw [← hWF] at HF BF
    unfold put5 at hWF
    rw [← hWF]
    obtain ⟨e0, e1, e2, e3, e4⟩ := cells5 HF
    have hbad := HB.out (fun o h => by have := (HSEP.out o h).1; have := kind_le h.1; omega)
    obtain ⟨rfl, rfl, rfl⟩ : oa = zop ∧ sa = 0 ∧ ca = 8 := by simpa using hbad
    exact bodyPost_ret (v := .tuple #[.agg #[.int .u8 0, .int .u32 0, .int .u8 0, .slice none 0 0, .int .i64 0], .int .i64 0, .int .i64 8]) (by simp [results, Try.results16, go_sem, e0, e1, e2, e3, e4]) rfl ⟨none, 0, rfl, World.ownsRow_nil _ _ _ _, BF⟩
  have q2 : decide (4 < (k : Int)) = false := by simp; omega
  have q2' : decide (4 < k) = false := by simp; omega
  by_cases m1 : m < 1
  · have q3 : decide ((m : Int) < 1) = true := by simp; omega
    obtain rfl : m = 0 := by omega
    go_wp2_with fail
    obtain ⟨WF, hWF⟩ : ∃ WF, WF = put5 w1 w.heap.size (.int .u8 0) (.int .u32 0) (.int .u8 0) (.slice none 0 0) (.int .i64 0) := ⟨_, rfl⟩
    have HF := put5_same (.int .u8 0) (.int .u32 0) (.int .u8 0) (.slice none 0 0) (.int .i64 0) X2.out
    have BF := put5_below (.int .u8 0) (.int .u32 0) (.int .u8 0) (.slice none 0 0) (.int .i64 0) (Nat.le_refl w.heap.size) B2.out
    rw [← hWF] at HF BF
    unfold put5 at hWF
    rw [← hWF]
    obtain ⟨e0, e1, e2, e3, e4⟩ := cells5 HF
    have hbad := HB.out (fun o h => by have := (HSEP.out o h).2; have := kind_le h.1; omega)
    obtain ⟨rfl, rfl, rfl⟩ : oa = zop ∧ sa = 0 ∧ ca = 8 := by simpa using hbad
    exact bodyPost_ret (v := .tuple #[.agg #[.int .u8 0, .int .u32 0, .int .u8 0, .slice none 0 0, .int .i64 0], .int .i64 0, .int .i64 8]) (by simp [results, Try.results16, go_sem, e0, e1, e2, e3, e4]) rfl ⟨none, 0, rfl, World.ownsRow_nil _ _ _ _, BF⟩
  have q3 : decide ((m : Int) < 1) = false := by simp; omega
  by_cases m4 : 64 < m
  · have q4 : decide (64 < (m : Int)) = true := by simp; omega
    have q4' : decide (64 < m) = true := by simp; omega
    go_wp2_with fail
    obtain ⟨WF, hWF⟩ : ∃ WF, WF = put5 w1 w.heap.size (.int .u8 0) (.int .u32 0) (.int .u8 0) (.slice none 0 0) (.int .i64 0) := ⟨_, rfl⟩
    have HF := put5_same (.int .u8 0) (.int .u32 0) (.int .u8 0) (.slice none 0 0) (.int .i64 0) X2.out
    have BF := put5_below (.int .u8 0) (.int .u32 0) (.int .u8 0) (.slice none 0 0) (.int .i64 0) (Nat.le_refl w.heap.size) B2.out
    rw [← hWF] at HF BF
    unfold put5 at hWF
    rw [← hWF]
    obtain ⟨e0, e1, e2, e3, e4⟩ := cells5 HF
    have hbad := HB.out (fun o h => by have := (HSEP.out o h).2; have := kind_le h.1; omega)
    obtain ⟨rfl, rfl, rfl⟩ : oa = zop ∧ sa = 0 ∧ ca = 8 := by simpa using hbad
    exact bodyPost_ret (v := .tuple #[.agg #[.int .u8 0, .int .u32 0, .int .u8 0, .slice none 0 0, .int .i64 0], .int .i64 0, .int .i64 8]) (by simp [results, Try.results16, go_sem, e0, e1, e2, e3, e4]) rfl ⟨none, 0, rfl, World.ownsRow_nil _ _ _ _, BF⟩
  have q4 : decide (64 < (m : Int)) = false := by simp; omega
  have q4' : decide (64 < m) = false := by simp; omega
  have hxne : xs ≠ [] := by intro h; have := HN.out; rw [h] at this; simp at this; omega
  have HXNE := Lib.hid hxne
  obtain ⟨bx, ox, o1, rfl, hif1, hr2⟩ := reads_part (HRD.out w1 B2.out) hs1n hxne
  clear hxne
  obtain ⟨m3, hm3⟩ : ∃ m3 : Nat, 3 * (m : Int) = (m3 : Int) := ⟨3 * m, by omega⟩
  have hm3' : m3 = 3 * m := by omega
  have e3 : IntKind.i64.wrap (m3 : Int) = (m3 : Int) := IntWalk.i64_in _ (by omega)
  have p1 : (0 : Int) ≤ (s1 : Int) := by omega
  have p2 : (s1 : Int) ≤ (n : Int) := by omega
  have HM3 := Lib.hid hm3'
  have hdl : (xs.drop s1).length ≤ 1000000 := by rw [List.length_drop, ← HN.out]; omega
  have HDL := Lib.hid hdl
  have hm1000 : m3 ≤ 1000 := by omega
  clear hm3' hdl
  go_upto_region 4 with fail
  go_cut [7, 8, 9] (fun i l s wx => Cut (numsOf 1073741824 m3 (xs.drop s1)) w1 i l s wx)
  case first =>
    have HR2 := Lib.hid hr2
    clear hr2
    go_region_with (first | (go_at_call 33; refine (NU.out w1.drew _ (xs.drop s1) m3 HR2.out HDL.out hm1000).mono ?_; intro e w2 h2; have h9 := out_shape h2; obtain ⟨l2, s2, i2, rfl⟩ := h9))
    all_goals (go_wp2_with fail; go_meet)
    all_goals exact cut_of (w1 := w1.drew) ((Below.refl _ _).drew) h2
  case rest =>
    obtain ⟨wd, rfl⟩ : ∃ wd : World, wd = wc := ⟨_, rfl⟩
    obtain ⟨hbw, hcut⟩ := hcut
    have B3 := Lib.hid (bt B2.out hbw.out)
    have X3 : Hid (wd.heap[w.heap.size]? = some (.cells #[.int .u8 0, .int .u32 0, .int .u8 0, .slice none 0 0, .int .i64 0] 35)) := blk_below hbw.out X2.out
    have hn0' : wd.cell? ⟨nb, no, none⟩ = some (.int .i64 (k : Int)) := (hbw.out.cell (p := ⟨nb, no, none⟩) HNB.out).trans hn0
    have hn1' : wd.cell? ⟨nb, no + 1, none⟩ = some (.int .i64 (m : Int)) := (hbw.out.cell (p := ⟨nb, no + 1, none⟩) HNB.out).trans hn1
    have HNB3 : Hid (nb < wd.heap.size) := Nat.lt_of_lt_of_le HNB.out hbw.out.size
    clear hbw x0 x1 x2 x3 x4 f0 X2 B2 hn0 hn1 HNB hif1 hr2
    obtain ⟨x0, x1, x2, x3, x4⟩ := cells5 X3.out
    have f0 : ∀ o, wd.frozen? ⟨w.heap.size, o, none⟩ = false := fun o => free5 X3.out o
    rcases hcut with ⟨L, hF, hNl, rfl, rfl⟩ | ⟨hF, rfl⟩
    rotate_left
    · clear HG NU
      go_wp2_with fail
      obtain ⟨WF, hWF⟩ : ∃ WF, WF = put5 wd w.heap.size (.int .u8 0) (.int .u32 0) (.int .u8 0) (.slice none 0 0) (.int .i64 0) := ⟨_, rfl⟩
      have HF := put5_same (.int .u8 0) (.int .u32 0) (.int .u8 0) (.slice none 0 0) (.int .i64 0) X3.out
      have BF := put5_below (.int .u8 0) (.int .u32 0) (.int .u8 0) (.slice none 0 0) (.int .i64 0) (Nat.le_refl w.heap.size) B3.out
      rw [← hWF] at HF BF
      unfold put5 at hWF
      rw [← hWF]
      obtain ⟨e0, e1, e2, e3, e4⟩ := cells5 HF
      have hbad := HB.out (fun o h => by have e := HSEP.out o h; have := (ahead_found h).2.1; rw [← e.1, ← e.2, ← HS1.out, ← HM3.out, hF.out] at this; cases this)
      obtain ⟨rfl, rfl, rfl⟩ : oa = zop ∧ sa = 0 ∧ ca = 8 := by simpa using hbad
      exact bodyPost_ret (v := .tuple #[.agg #[.int .u8 0, .int .u32 0, .int .u8 0, .slice none 0 0, .int .i64 0], .int .i64 0, .int .i64 8]) (by simp [results, Try.results16, go_sem, e0, e1, e2, e3, e4]) rfl ⟨none, 0, rfl, World.ownsRow_nil _ _ _ _, BF⟩
    obtain ⟨hlen, hle, hpre⟩ := numsOf_some hF.out
    obtain ⟨s2, hs2⟩ : ∃ s, s = (nums L).length := ⟨_, rfl⟩
    have hs12 : s1 + s2 ≤ n := by
      obtain ⟨t, ht⟩ := hpre
      have := congrArg List.length ht
      rw [List.length_drop, List.length_append, ← HN.out, ← hs2] at this
      omega
    have HSEP2 : Hid (∀ o, IsAt xs 0 o → L = runNums 0 o.pl) := fun o h => by
      have e := HSEP.out o h
      have := (ahead_found h).2.1
      rw [← e.1, ← e.2, ← HS1.out, ← HM3.out, hF.out] at this
      simpa using this
    have HLEN := Lib.hid hlen
    have HLE := Lib.hid hle
    have HS2 := Lib.hid hs2
    rw [← hs2]
    obtain ⟨s12, hs12'⟩ : ∃ s : Nat, (s1 : Int) + (s2 : Int) = (s : Int) := ⟨s1 + s2, by omega⟩
    have e4 : IntKind.i64.wrap (s12 : Int) = (s12 : Int) := IntWalk.i64_in _ (by omega)
    have HS12 : Hid (s12 = s1 + s2) := by unfold Hid; omega
    have hs12n : s12 ≤ n := by omega
    obtain ⟨nb2, hnb2⟩ : ∃ b : Nat, b = if k = 1 then 1 else if k = 2 then 0 else 2 := ⟨_, rfl⟩
    have BH : Hid (∀ W : World, Calls Try.prog 34 #[.int .i64 (k : Int)] W fun e w' => e = .returned (.int .i64 (nb2 : Int)) ∧ W = w') := fun W => by
      have := behind_any (k : Int) W
      rw [show (if (k : Int) = 1 then 1 else if (k : Int) = 2 then 0 else 2 : Int) = (nb2 : Int) by rw [hnb2]; by_cases a : k = 1 <;> by_cases b : k = 2 <;> simp [a, b] <;> omega] at this
      exact this
    have hnb3 : nb2 ≤ 1000 := by rw [hnb2]; split; omega; split <;> omega
    have HNB2 := Lib.hid hnb2
    obtain ⟨bx', ox', o2, hao, hif2, hr2⟩ := reads_part (HRD.out wd B3.out) hs12n HXNE.out
    cases hao
    have p3 : (0 : Int) ≤ (s12 : Int) := by omega
    have p4 : (s12 : Int) ≤ (n : Int) := by omega
    have HDL2 : Hid ((xs.drop s12).length ≤ 1000000) := by unfold Hid; rw [List.length_drop, ← HN.out]; omega
    clear hlen hle hpre hs2 hF hnb2 HDL
    go_upto_region 7 with fail
    go_cut [7, 10, 11] (fun i l s wx => Cut (numsOf 1073741824 nb2 (xs.drop s12)) wd i l s wx)
    case first =>
      have HR2 := Lib.hid hr2
      clear hr2
      go_region_with (first | (go_at_call 34; refine (BH.out _).mono ?_; rintro e w9 ⟨rfl, rfl⟩) | (go_at_call 33; refine (NU.out wd.drew _ (xs.drop s12) nb2 HR2.out HDL2.out hnb3).mono ?_; intro e w2 h2; have h9 := out_shape h2; obtain ⟨l2, s2', i2, rfl⟩ := h9))
      all_goals (go_wp2_with fail; go_meet)
      all_goals exact cut_of (w1 := wd.drew) ((Below.refl _ _).drew) h2
    case rest =>
      obtain ⟨we, rfl⟩ : ∃ we : World, we = wc := ⟨_, rfl⟩
      obtain ⟨hbw, hcut⟩ := hcut
      have B4 := Lib.hid (bt B3.out hbw.out)
      have X4 : Hid (we.heap[w.heap.size]? = some (.cells #[.int .u8 0, .int .u32 0, .int .u8 0, .slice none 0 0, .int .i64 0] 35)) := blk_below hbw.out X3.out
      have hn0 : we.cell? ⟨nb, no, none⟩ = some (.int .i64 (k : Int)) := (hbw.out.cell (p := ⟨nb, no, none⟩) HNB3.out).trans hn0'
      have hNl4 : Hid (Nums we u8 L) := hNl.out.keeps hbw.out
      have HNB4 : Hid (nb < we.heap.size) := Nat.lt_of_lt_of_le HNB3.out hbw.out.size
      clear hbw x0 x1 x2 x3 x4 f0 X3 B3 hn0' hn1' HNB3 hif2 hr2 hNl
      obtain ⟨x0, x1, x2, x3, x4⟩ := cells5 X4.out
      have f0 : ∀ o, we.frozen? ⟨w.heap.size, o, none⟩ = false := fun o => free5 X4.out o
      rcases hcut with ⟨M, hF, hNm, rfl, rfl⟩ | ⟨hF, rfl⟩
      rotate_left
      · clear HG NU
        go_wp2_with fail
        obtain ⟨WF, hWF⟩ : ∃ WF, WF = put5 we w.heap.size (.int .u8 0) (.int .u32 0) (.int .u8 0) (.slice none 0 0) (.int .i64 0) := ⟨_, rfl⟩
        have HF := put5_same (.int .u8 0) (.int .u32 0) (.int .u8 0) (.slice none 0 0) (.int .i64 0) X4.out
        have BF := put5_below (.int .u8 0) (.int .u32 0) (.int .u8 0) (.slice none 0 0) (.int .i64 0) (Nat.le_refl w.heap.size) B4.out
        rw [← hWF] at HF BF
        unfold put5 at hWF
        rw [← hWF]
        obtain ⟨e0, e1, e2, e3, e4⟩ := cells5 HF
        have hbad := HB.out (fun o h => by have e := HSEP.out o h; have e2 := HSEP2.out o h; have := (ahead_found h).2.2.1; rw [← e.1, ← e.2, ← e2, ← HS1.out, ← HS2.out, ← HS12.out, ← HNB2.out, hF.out] at this; cases this)
        obtain ⟨rfl, rfl, rfl⟩ : oa = zop ∧ sa = 0 ∧ ca = 8 := by simpa using hbad
        exact bodyPost_ret (v := .tuple #[.agg #[.int .u8 0, .int .u32 0, .int .u8 0, .slice none 0 0, .int .i64 0], .int .i64 0, .int .i64 8]) (by simp [results, Try.results16, go_sem, e0, e1, e2, e3, e4]) rfl ⟨none, 0, rfl, World.ownsRow_nil _ _ _ _, BF⟩
      obtain ⟨hlen, hle, hpre⟩ := numsOf_some hF.out
      obtain ⟨s3, hs3⟩ : ∃ s, s = (nums M).length := ⟨_, rfl⟩
      have hs123 : s12 + s3 ≤ n := by
        obtain ⟨t, ht⟩ := hpre
        have := congrArg List.length ht
        rw [List.length_drop, List.length_append, ← HN.out, ← hs3] at this
        omega
      have HSEP3 : Hid (∀ o, IsAt xs 0 o → M = tailNums o ∧ fitsF 0 L = true ∧ wholeF k L M = o ∧ (bytesO o).length = s12 + s3 ∧ xs.take (s12 + s3) = bytesO o) := fun o h => by
        have e := HSEP.out o h
        have e2 := HSEP2.out o h
        obtain ⟨_, _, a1, a2, a3, a4, a5⟩ := ahead_found h
        rw [← e.1, ← e.2, ← e2, ← HS1.out, ← HS2.out, ← HS12.out, ← HNB2.out, hF.out] at a1
        have e3 : M = tailNums o := by simpa using a1
        rw [← e.1, ← e.2, ← e2, ← e3, ← HS1.out, ← HS2.out, ← hs3, ← HS12.out] at a4
        rw [← e2] at a2
        rw [← e.1, ← e2, ← e3] at a3
        rw [a4] at a5
        exact ⟨e3, a2, a3, a4, a5⟩
      have FI := Lib.hid (fits_any hNl4.out (by rw [HLEN.out]; omega) HLE.out)
      obtain ⟨ft, hft⟩ : ∃ b, fitsF 0 L = b := ⟨_, rfl⟩
      rw [hft] at FI HSEP3
      have HFT := Lib.hid hft
      have HMLEN : Hid (M.length = if k = 1 then 1 else if k = 2 then 0 else 2) := by rw [← HNB2.out]; exact hlen
      have HMLE := Lib.hid hle
      rw [← hs3]
      have HS3 := Lib.hid hs3
      clear hlen hle hpre hs3 hF hft
      cases ft
      · go_wp2_with fail
        refine FI.out.mono ?_
        rintro e w5 ⟨rfl, b5⟩
        have B5 := Lib.hid (bt B4.out b5)
        have X5 := Lib.hid (blk_below b5 X4.out)
        clear b5 x0 x1 x2 x3 x4 f0
        obtain ⟨x0, x1, x2, x3, x4⟩ := cells5 X5.out
        have f0 : ∀ o, w5.frozen? ⟨w.heap.size, o, none⟩ = false := fun o => free5 X5.out o
        go_wp2_with fail
        obtain ⟨WF, hWF⟩ : ∃ WF, WF = put5 w5 w.heap.size (.int .u8 0) (.int .u32 0) (.int .u8 0) (.slice none 0 0) (.int .i64 0) := ⟨_, rfl⟩
        have HF := put5_same (.int .u8 0) (.int .u32 0) (.int .u8 0) (.slice none 0 0) (.int .i64 0) X5.out
        have BF := put5_below (.int .u8 0) (.int .u32 0) (.int .u8 0) (.slice none 0 0) (.int .i64 0) (Nat.le_refl w.heap.size) B5.out
        rw [← hWF] at HF BF
        unfold put5 at hWF
        rw [← hWF]
        obtain ⟨e0, e1, e2, e3, e4⟩ := cells5 HF
        have hbad := HB.out (fun o h => by have := (HSEP3.out o h).2.1; cases this)
        obtain ⟨rfl, rfl, rfl⟩ : oa = zop ∧ sa = 0 ∧ ca = 8 := by simpa using hbad
        exact bodyPost_ret (v := .tuple #[.agg #[.int .u8 0, .int .u32 0, .int .u8 0, .slice none 0 0, .int .i64 0], .int .i64 0, .int .i64 8]) (by simp [results, Try.results16, go_sem, e0, e1, e2, e3, e4]) rfl ⟨none, 0, rfl, World.ownsRow_nil _ _ _ _, BF⟩
      have WH := Lib.hid (fun (W : World) (h : Below we.heap.size we W) => whole_any (w := W) (k := k) (m := m) (hNl4.out.keeps h) (hNm.out.keeps h) (by rw [HLEN.out, HM3.out]; omega) (by omega) HFT.out HMLE.out (by omega) HMLEN.out)
      obtain ⟨oW, hoW⟩ : ∃ o, wholeF k L M = o := ⟨_, rfl⟩
      rw [hoW] at WH HSEP3
      have HOW : Hid (∀ v : Value, opv oW v = .agg #[.int .u8 (oW.k : Int), .int .u32 (oW.t : Int), .int .u8 (oW.r : Int), v, .int .i64 oW.p]) := fun v => rfl
      have MAY : Hid (∀ (W : World) (v : Value), Runs W v oW.pl → Calls Try.prog 31 #[opv oW v] W fun e w' => e = .returned (.bool (mayO oW)) ∧ Below W.heap.size W w') := fun W v h => refMayO_any h
      have BYT : Hid (∀ (W : World) (v : Value), mayO oW = true → Runs W v oW.pl → Calls Try.prog 32 #[opv oW v] W (Gave (bytesO oW) W)) := fun W v h h2 => refBytesO_any h2 h
      obtain ⟨kk, hkk⟩ : ∃ k, oW.k = k := ⟨_, rfl⟩
      obtain ⟨tt, htt⟩ : ∃ k, oW.t = k := ⟨_, rfl⟩
      obtain ⟨rr, hrr⟩ : ∃ k, oW.r = k := ⟨_, rfl⟩
      obtain ⟨pp, hpp⟩ : ∃ k, oW.p = k := ⟨_, rfl⟩
      rw [hkk, htt, hrr, hpp] at HOW
      simp only [HOW.out] at WH MAY BYT
      obtain ⟨my, hmy⟩ : ∃ b, mayO oW = b := ⟨_, rfl⟩
      obtain ⟨BY, hBY⟩ : ∃ b, bytesO oW = b := ⟨_, rfl⟩
      have HMY := Lib.hid hmy
      have HBY := Lib.hid hBY
      rw [hmy] at MAY BYT
      rw [hBY] at BYT
      clear hkk htt hrr hpp hmy hBY
      obtain ⟨s, hs⟩ : ∃ s : Nat, (s12 : Int) + (s3 : Int) = (s : Int) := ⟨s12 + s3, by omega⟩
      have hss : s12 + s3 = s := by omega
      rw [hss] at HSEP3
      have e5 : IntKind.i64.wrap (s : Int) = (s : Int) := IntWalk.i64_in _ (by omega)
      have hsn : s ≤ n := by omega
      have hs1' : 1 ≤ s := by have := HS12.out; omega
      clear hoW hss
      go_wp2_with fail
      refine FI.out.mono ?_
      rintro e w5 ⟨rfl, b5⟩
      have B5 := Lib.hid (bt B4.out b5)
      have X5 : Hid (w5.heap[w.heap.size]? = some (.cells #[.int .u8 0, .int .u32 0, .int .u8 0, .slice none 0 0, .int .i64 0] 35)) := blk_below b5 X4.out
      have hn5 : w5.cell? ⟨nb, no, none⟩ = some (.int .i64 (k : Int)) := (b5.cell (p := ⟨nb, no, none⟩) HNB4.out).trans hn0
      have WH5 := Lib.hid (WH.out w5 b5)
      clear b5 x0 x1 x2 x3 x4 f0 hn0 X4 B4 WH FI hNl4 hNm
      go_wp2_with fail
      refine WH5.out.mono ?_
      rintro e w6 ⟨wo, wcp, rfl, ow6, b6⟩
      obtain ⟨lw, hlw⟩ : ∃ n, n = oW.pl.length := ⟨_, rfl⟩
      have HLW := Lib.hid hlw
      rw [← hlw] at ow6 ⊢
      have bA : Below w5.heap.size w5 (w6.alloc (.cells #[.int .u8 (kk : Int), .int .u32 (tt : Int), .int .u8 (rr : Int), .slice wo lw wcp, .int .i64 pp] 35)) := b6.alloc b6.size _
      have B7 := Lib.hid (bt B5.out bA)
      have X7 := Lib.hid (blk_below bA X5.out)
      have Y7 : Hid ((w6.alloc (.cells #[.int .u8 (kk : Int), .int .u32 (tt : Int), .int .u8 (rr : Int), .slice wo lw wcp, .int .i64 pp] 35)).heap[w6.heap.size]? = some (.cells #[.int .u8 (kk : Int), .int .u32 (tt : Int), .int .u8 (rr : Int), .slice wo lw wcp, .int .i64 pp] 35)) := blk_new rfl
      have O7 : Hid ((w6.alloc (.cells #[.int .u8 (kk : Int), .int .u32 (tt : Int), .int .u8 (rr : Int), .slice wo lw wcp, .int .i64 pp] 35)).ownsRow w.heap.size 71 3 (.slice wo lw wcp) lw (runs oW.pl)) := own_stays (op_base ow6 B5.out.size) ((Below.refl _ _).alloc (Nat.le_refl _) _)
      have hT : Hid (w.heap.size < w6.heap.size) := by have := (Array.getElem?_eq_some_iff.1 X5.out).1; have := b6.size; unfold Hid; omega
      have NA : Hid ((Value.slice wo lw wcp).ownBlock ≠ some w.heap.size) := own_ne O7.out X7.out (by intro c h; injection h with h1 h2 h3; exact absurd h2 (by decide))
      clear ow6 b6 bA X5 B5 hn5 WH5 hlw
      go_upto_region 12 with fail
      generalize w6.alloc (.cells #[.int .u8 (kk : Int), .int .u32 (tt : Int), .int .u8 (rr : Int), .slice wo lw wcp, .int .i64 pp] 35) = wg at B7 X7 Y7 O7 ⊢
      generalize w6.heap.size = T at Y7 hT ⊢
      have RW : Hid (Runs wg (.slice wo lw wcp) oW.pl) := by have := O7.out; rw [HLW.out] at this ⊢; exact Runs.own this
      have RB := Lib.hid (HRD.out wg B7.out)
      obtain ⟨q, hq⟩ : ∃ q, decide (BY = xs.take s) = q := ⟨_, rfl⟩
      have HQ := Lib.hid hq
      have q9 : ((str BY).toList == (str (xs.take s)).toList) = q := by rw [str_list, str_list, ← hq]; exact beq_dec _ _
      have hcap : s ≤ cap := by
        obtain ⟨_, _, _, he, hc, _⟩ := RB.out
        obtain ⟨_, rfl, rfl⟩ := Value.slice.inj he
        omega
      have TK : Hid (∀ W : World, Below wg.heap.size wg W → (convert 22 9 (.slice (some ⟨bx, ox, none⟩) s cap)).run Try.prog W = .ok (.string (str (xs.take s))) W) := fun W h => by
        have h1 := RB.out.keeps h
        have h2 : Reads W (.slice (some ⟨bx, ox, none⟩) s cap) (xs.take s) := by
          rw [HN.out] at h1
          exact h1.take (by rw [← HN.out]; exact hsn)
        exact run_string h2
      have KY : Hid (∀ W : World, Below wg.heap.size wg W → W.cell? ⟨T, 0, none⟩ = some (.int .u8 (kk : Int)) ∧ W.cell? ⟨T, 1, none⟩ = some (.int .u32 (tt : Int)) ∧ W.cell? ⟨T, 2, none⟩ = some (.int .u8 (rr : Int)) ∧ W.cell? ⟨T, 3, none⟩ = some (.slice wo lw wcp) ∧ W.cell? ⟨T, 4, none⟩ = some (.int .i64 pp)) := fun W h => cells5 (blk_below h Y7.out)
      obtain ⟨y0, y1, y2, y3, y4⟩ := cells5 Y7.out
      clear hq
      go_cut [107] (fun c wx => c = .bool (!(my && q)) ∧ Hid (Below wg.heap.size wg wx))
      case first =>
        cases my
        · refine wp_region_held_drew (S := fun w' => Below wg.heap.size wg w' ∧ w'.cell? ⟨T, 0, none⟩ = some (.int .u8 (kk : Int)) ∧ w'.cell? ⟨T, 1, none⟩ = some (.int .u32 (tt : Int)) ∧ w'.cell? ⟨T, 2, none⟩ = some (.int .u8 (rr : Int)) ∧ w'.cell? ⟨T, 3, none⟩ = some (.slice wo lw wcp) ∧ w'.cell? ⟨T, 4, none⟩ = some (.int .i64 pp)) (by kernel_rfl) (⟨drew1 _, KY.out _ (drew1 _)⟩) (fun hHeld => ?_)
          refine wpAnyH_take (i := 0) (v := ?vm0) rfl (by kernel_rfl) (by kernel_rfl) (by kernel_rfl) (fun _ _ _ h => h) (Or.inl ⟨by rfl, ?ym0⟩) (by assumption) ?_
          case ym0 => intro w hSw; (try dsimp only at hSw); go_simp <;> with_reducible rfl
          try simp only [List.getElem_toArray, List.getElem_cons_zero, Act.put, List.setIfInBounds_toArray, List.set_cons_zero, List.set_cons_succ]
          refine wpAnyH_ready (rs := [1]) (by kernel_rfl) (by simp) ?_
          refine AllReadyH.cons rfl (fun K hK => ?_) ?zm1
          case zm1 => exact AllReadyH.nil
          go_simp
          refine (MAY.out _ _ (RW.out.keeps hHeld.1)).mono ?_
          rintro e w9 ⟨rfl, b9⟩
          refine hK.out _ _ ((show _ from ⟨bt hHeld.1 b9, KY.out _ (bt hHeld.1 b9)⟩)) (fun hNew => ?_)
          clear hHeld b9
          have hHeld := hNew
          clear hNew hK K
          try simp only [List.getElem_toArray, List.getElem_cons_succ, List.getElem_cons_zero, Act.put, List.setIfInBounds_toArray, List.set_cons_zero, List.set_cons_succ]
          refine wpAnyH_take (i := 2) (v := ?vm2) rfl (by kernel_rfl) (by kernel_rfl) (by kernel_rfl) (fun _ _ _ h => h) (Or.inl ⟨by rfl, ?ym2⟩) (by assumption) ?_
          case ym2 => intro w hSw; (try dsimp only at hSw); go_simp <;> with_reducible rfl
          try simp only [List.getElem_toArray, List.getElem_cons_succ, List.getElem_cons_zero, Act.put, List.setIfInBounds_toArray, List.set_cons_zero, List.set_cons_succ]
          refine wpAnyH_take (i := 3) (v := ?vm3) rfl (by kernel_rfl) (by kernel_rfl) (by kernel_rfl) (fun _ _ _ h => h) (Or.inl ⟨by rfl, ?ym3⟩) (by assumption) ?_
          case ym3 => intro w hSw; (try dsimp only at hSw); go_simp <;> with_reducible rfl
          try simp only [List.getElem_toArray, List.getElem_cons_succ, List.getElem_cons_zero, Act.put, List.setIfInBounds_toArray, List.set_cons_zero, List.set_cons_succ]
          refine wpAnyH_take (i := 4) (v := undef) rfl (by kernel_rfl) (by kernel_rfl) (by kernel_rfl) (fun _ _ _ h => h) (Or.inr ⟨by rfl, rfl⟩) (by assumption) ?_
          try simp only [List.getElem_toArray, List.getElem_cons_succ, List.getElem_cons_zero, Act.put, List.setIfInBounds_toArray, List.set_cons_zero, List.set_cons_succ]
          refine wpAnyH_take (i := 5) (v := undef) rfl (by kernel_rfl) (by kernel_rfl) (by kernel_rfl) (fun _ _ _ h => h) (Or.inr ⟨by rfl, rfl⟩) (by assumption) ?_
          try simp only [List.getElem_toArray, List.getElem_cons_succ, List.getElem_cons_zero, Act.put, List.setIfInBounds_toArray, List.set_cons_zero, List.set_cons_succ]
          refine wpAnyH_take (i := 6) (v := undef) rfl (by kernel_rfl) (by kernel_rfl) (by kernel_rfl) (fun _ _ _ h => h) (Or.inr ⟨by rfl, rfl⟩) (by assumption) ?_
          try simp only [List.getElem_toArray, List.getElem_cons_succ, List.getElem_cons_zero, Act.put, List.setIfInBounds_toArray, List.set_cons_zero, List.set_cons_succ]
          refine wpAnyH_take (i := 7) (v := undef) rfl (by kernel_rfl) (by kernel_rfl) (by kernel_rfl) (fun _ _ _ h => h) (Or.inr ⟨by rfl, rfl⟩) (by assumption) ?_
          try simp only [List.getElem_toArray, List.getElem_cons_succ, List.getElem_cons_zero, Act.put, List.setIfInBounds_toArray, List.set_cons_zero, List.set_cons_succ]
          refine wpAnyH_take (i := 8) (v := undef) rfl (by kernel_rfl) (by kernel_rfl) (by kernel_rfl) (fun _ _ _ h => h) (Or.inr ⟨by rfl, rfl⟩) (by assumption) ?_
          try simp only [List.getElem_toArray, List.getElem_cons_succ, List.getElem_cons_zero, Act.put, List.setIfInBounds_toArray, List.set_cons_zero, List.set_cons_succ]
          refine wpAnyH_take (i := 9) (v := undef) rfl (by kernel_rfl) (by kernel_rfl) (by kernel_rfl) (fun _ _ _ h => h) (Or.inr ⟨by rfl, rfl⟩) (by assumption) ?_
          try simp only [List.getElem_toArray, List.getElem_cons_succ, List.getElem_cons_zero, Act.put, List.setIfInBounds_toArray, List.set_cons_zero, List.set_cons_succ]
          refine wpAnyH_take (i := 10) (v := undef) rfl (by kernel_rfl) (by kernel_rfl) (by kernel_rfl) (fun _ _ _ h => h) (Or.inr ⟨by rfl, rfl⟩) (by assumption) ?_
          try simp only [List.getElem_toArray, List.getElem_cons_succ, List.getElem_cons_zero, Act.put, List.setIfInBounds_toArray, List.set_cons_zero, List.set_cons_succ]
          refine wpAnyH_take (i := 11) (v := undef) rfl (by kernel_rfl) (by kernel_rfl) (by kernel_rfl) (fun _ _ _ h => h) (Or.inr ⟨by rfl, rfl⟩) (by assumption) ?_
          try simp only [List.getElem_toArray, List.getElem_cons_succ, List.getElem_cons_zero, Act.put, List.setIfInBounds_toArray, List.set_cons_zero, List.set_cons_succ]
          refine wpAnyH_take (i := 12) (v := ?vm12) rfl (by kernel_rfl) (by kernel_rfl) (by kernel_rfl) (fun _ _ _ h => h) (Or.inl ⟨by rfl, ?ym12⟩) (by assumption) ?_
          case ym12 => intro w hSw; (try dsimp only at hSw); go_simp <;> with_reducible rfl
          try simp only [List.getElem_toArray, List.getElem_cons_succ, List.getElem_cons_zero, Act.put, List.setIfInBounds_toArray, List.set_cons_zero, List.set_cons_succ]
          refine wpAnyH_done (by kernel_rfl) ?_ _
          go_wp2_with fail
          go_meet
          exact ⟨rfl, hHeld.1⟩
        · have rf := (Below.refl wg.heap.size wg).drew
          go_region_with (first | (go_at_call 31; refine (MAY.out wg.drew _ RW.out).mono ?_; rintro e w8 ⟨rfl, b8⟩; have b8' : Below wg.heap.size wg w8 := rf.trans b8; have t8 := TK.out w8 b8'; have k8 := KY.out w8 b8'; obtain ⟨z0, z1, z2, z3, z4⟩ := k8) | (go_at_call 32; refine (BYT.out w8 _ (by trivial) (RW.out.keeps b8')).mono ?_; rintro e w9 ⟨v9, rfl, ow9, b9⟩; have b9' : Below wg.heap.size wg w9 := bt b8' b9; have t9 := TK.out w9 b9'; have t9b := run_string (Reads.own ow9)))
          all_goals (go_wp2_with fail; go_meet)
          all_goals exact ⟨by simp, b9'⟩
      case rest =>
        obtain ⟨wh, rfl⟩ : ∃ wh : World, wh = wc := ⟨_, rfl⟩
        obtain ⟨rfl, hbf⟩ := hcut
        have B8 := Lib.hid (bt B7.out hbf.out)
        have X8 := Lib.hid (blk_below hbf.out X7.out)
        have Y8 := Lib.hid (blk_below hbf.out Y7.out)
        have O8 := Lib.hid (own_stays O7.out hbf.out)
        obtain ⟨x0, x1, x2, x3, x4⟩ := cells5 X8.out
        have f0 : ∀ o, wh.frozen? ⟨w.heap.size, o, none⟩ = false := fun o => free5 X8.out o
        obtain ⟨z0, z1, z2, z3, z4⟩ := cells5 Y8.out
        clear hbf B7 X7 Y7 O7 y0 y1 y2 y3 y4 RW RB TK KY MAY BYT q9
        obtain ⟨mq, hmq⟩ : ∃ b, (my && q) = b := ⟨_, rfl⟩
        rw [hmq]
        cases mq
        · have hmq2 : Hid ((my && q) = false) := hmq
          clear hmq
          go_wp2_with fail
          obtain ⟨WF, hWF⟩ : ∃ WF, WF = put5 wh w.heap.size (.int .u8 0) (.int .u32 0) (.int .u8 0) (.slice none 0 0) (.int .i64 0) := ⟨_, rfl⟩
          have HF := put5_same (.int .u8 0) (.int .u32 0) (.int .u8 0) (.slice none 0 0) (.int .i64 0) X8.out
          have BF := put5_below (.int .u8 0) (.int .u32 0) (.int .u8 0) (.slice none 0 0) (.int .i64 0) (Nat.le_refl w.heap.size) B8.out
          rw [← hWF] at HF BF
          unfold put5 at hWF
          rw [← hWF]
          obtain ⟨e0, e1, e2, e3, e4⟩ := cells5 HF
          have hbad := HB.out (fun o h => by
            have h3 := HSEP3.out o h
            have h4 : mayO oW = true := by rw [h3.2.2.1]; exact h.1
            have h5 : BY = xs.take s := by rw [← HBY.out, h3.2.2.1]; exact h3.2.2.2.2.symm
            have h6 := HQ.out
            rw [decide_eq_true h5] at h6
            rw [HMY.out] at h4
            subst h4 h6
            have h7 := hmq2.out
            simp at h7)
          obtain ⟨rfl, rfl, rfl⟩ : oa = zop ∧ sa = 0 ∧ ca = 8 := by simpa using hbad
          exact bodyPost_ret (v := .tuple #[.agg #[.int .u8 0, .int .u32 0, .int .u8 0, .slice none 0 0, .int .i64 0], .int .i64 0, .int .i64 8]) (by simp [results, Try.results16, go_sem, e0, e1, e2, e3, e4]) rfl ⟨none, 0, rfl, World.ownsRow_nil _ _ _ _, BF⟩
        · obtain ⟨rfl, rfl⟩ : my = true ∧ q = true := by simpa using hmq
          have hAt : IsAt xs 0 oW := take_isAt HMY.out (by rw [HBY.out]; exact of_decide_eq_true HQ.out)
          have hlen : (bytesO oW).length = s := by
            rw [HBY.out, of_decide_eq_true HQ.out, List.length_take, ← HN.out]; omega
          have hgood := HG.out oW hAt
          rw [hlen] at hgood
          obtain ⟨rfl, rfl, rfl⟩ : oa = oW ∧ sa = s ∧ ca = 0 := by simpa using hgood
          clear hgood hAt hlen HSEP3 hmq HB HG
          go_wp2_with fail
          obtain ⟨WF, hWF⟩ : ∃ WF, WF = put5 wh w.heap.size (.int .u8 (kk : Int)) (.int .u32 (tt : Int)) (.int .u8 (rr : Int)) (.slice wo lw wcp) (.int .i64 pp) := ⟨_, rfl⟩
          have HF := put5_same (.int .u8 (kk : Int)) (.int .u32 (tt : Int)) (.int .u8 (rr : Int)) (.slice wo lw wcp) (.int .i64 pp) X8.out
          have BF := put5_below (.int .u8 (kk : Int)) (.int .u32 (tt : Int)) (.int .u8 (rr : Int)) (.slice wo lw wcp) (.int .i64 pp) (Nat.le_refl w.heap.size) B8.out
          have OF := own_put5 (.int .u8 (kk : Int)) (.int .u32 (tt : Int)) (.int .u8 (rr : Int)) (.slice wo lw wcp) (.int .i64 pp) O8.out NA.out
          rw [← hWF] at HF BF OF
          unfold put5 at hWF
          rw [← hWF]
          obtain ⟨e0, e1, e2, e3, e4⟩ := cells5 HF
          exact bodyPost_ret (v := .tuple #[.agg #[.int .u8 (kk : Int), .int .u32 (tt : Int), .int .u8 (rr : Int), .slice wo lw wcp, .int .i64 pp], .int .i64 (sa : Int), .int .i64 0]) (by simp [results, Try.results16, go_sem, e0, e1, e2, e3, e4]) rfl ⟨wo, wcp, by rw [HOW.out, ← HLW.out]; rfl, by rw [← HLW.out]; exact OF, BF⟩
end Go.Proofs.Ytelilmhnfmojkaa.Codes
