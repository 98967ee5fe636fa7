/- octavo/stamp.Next: what it answers. Conditions: the slice's cells are stamps. -/
import Derived.Test.YtpoheimcbfbkdaaStamp
namespace Go.Proofs.Ytpoheimcbfbkdaa.Stamp
open Go.RowKit Flo

/-- A block of two cells, behind calls that write nothing that was there. -/
theorem two_cells {w w2 : World} {c0 c1 : Value} {e : TypeId} (h : Below (w.alloc (.cells #[c0, c1] e)).heap.size (w.alloc (.cells #[c0, c1] e)) w2) :
    w2.cell? ⟨w.heap.size, 0, none⟩ = some c0 ∧ w2.cell? ⟨w.heap.size, 1, none⟩ = some c1 ∧ w2.frozen? ⟨w.heap.size, 0, none⟩ = false ∧ w2.frozen? ⟨w.heap.size, 1, none⟩ = false := by
  have hh : w2.heap[w.heap.size]? = some (.cells #[c0, c1] e (0, 0)) := (h.block w.heap.size (by simp)).trans (heap_alloc_new w _)
  refine ⟨cell_of_row _ w.heap.size 0 #[c0, c1] e _ hh, cell_of_row _ w.heap.size 1 #[c0, c1] e _ hh, ?_, ?_⟩
  · simp [World.frozen?, hh]
  · simp [World.frozen?, hh]

theorem step3 {w1 w2 w3 : World} {o : Obj} (h : Below w1.heap.size w1 w2) (h3 : Below (w2.alloc o).heap.size (w2.alloc o) w3) : Below w1.heap.size w1 w3 :=
  (h.alloc h.size o).trans (h3.mono (by have := h.size; simp; omega))
theorem below_of3 {w w3 : World} {o : Obj} (h : Below (w.alloc o).heap.size (w.alloc o) w3) : Below w.heap.size w w3 :=
  ((Below.refl _ _).alloc (Nat.le_refl _) o).trans (h.mono (by simp))

theorem set2 {w w3 : World} {o : Obj} {c0 c1 : Value} (h : Below (w.alloc o).heap.size (w.alloc o) w3) : Below w.heap.size w ((w3.setCell ⟨w.heap.size, 0, none⟩ c0).setCell ⟨w.heap.size, 1, none⟩ c1) :=
  ((below_of3 h).setCell (p := ⟨w.heap.size, 0, none⟩) (Nat.le_refl _) _).setCell (p := ⟨w.heap.size, 1, none⟩) (Nat.le_refl _) _

set_option maxHeartbeats 2000000 in
theorem next_any {r : Nat} (hr : r < 256) {v : Value} {l : List Id} {w : World} (hv : Ids w v l) :
    Calls Try.prog 7 #[.int .u8 (r : Int), v] w fun e w' => e = .returned (nextv r l) ∧ Below w.heap.size w w' := by
  obtain ⟨ao, cap, rfl⟩ := hv.shape
  obtain ⟨n, hn⟩ : ∃ n, n = l.length := ⟨_, rfl⟩
  have HV := Lib.hid hv
  have HN := Lib.hid hn
  rw [← hn]
  clear hv
  by_cases h1 : 1024 < n
  · have t1 : decide ((1024 : Int) < (n : Int)) = true := decide_eq_true (by omega)
    have t2 : decide (1024 < n) = true := decide_eq_true h1
    have e1 : nextv r l = .tuple #[.agg #[.int .u32 0, .int .u8 0], .int .i64 4] := by unfold nextv; rw [next_many (by omega)]; rfl
    rw [e1]
    clear hn e1
    go_enter Try.func7, Try.ntmps7
    go_wp2
    exact bodyPost_ret (v := .tuple #[.agg #[.int .u32 0, .int .u8 0], .int .i64 4]) (by simp [results, Try.results7, go_sem]) rfl ⟨rfl, (Below.refl _ _).alloc (Nat.le_refl _) _⟩
  have t1 : decide ((1024 : Int) < (n : Int)) = false := decide_eq_false (by omega)
  have t2 : decide (1024 < n) = false := decide_eq_false h1
  by_cases h2 : 8 ≤ r
  · have t3 : decide ((8 : Int) ≤ (r : Int)) = true := decide_eq_true (by omega)
    have t4 : decide (8 ≤ r) = true := decide_eq_true h2
    have e1 : nextv r l = .tuple #[.agg #[.int .u32 0, .int .u8 0], .int .i64 8] := by unfold nextv; rw [next_r (by omega) h2]; rfl
    rw [e1]
    clear hn e1
    go_enter Try.func7, Try.ntmps7
    go_wp2
    exact bodyPost_ret (v := .tuple #[.agg #[.int .u32 0, .int .u8 0], .int .i64 8]) (by simp [results, Try.results7, go_sem]) rfl ⟨rfl, (Below.refl _ _).alloc (Nat.le_refl _) _⟩
  have t3 : decide ((8 : Int) ≤ (r : Int)) = false := decide_eq_false (by omega)
  have t4 : decide (8 ≤ r) = false := decide_eq_false h2
  have f2 : floatOfInt .f64 (r : Int) = fl r := ofInt_fl r
  have B0 : Hid (Below (w.alloc (.cells #[.int .u32 0, .int .u8 0] 24)).heap.size (w.alloc (.cells #[.int .u32 0, .int .u8 0] 24)) (w.alloc (.cells #[.int .u32 0, .int .u8 0] 24))) := Below.refl _ _
  clear hn
  go_enter Try.func7, Try.ntmps7
  go_wp2
  go_loopw [6, 21] (fun nx i wr => ∃ k p : Nat, k ≤ n ∧ i = .int .i64 (k : Int) ∧ nx = .complex .f64 (fl p) (fl r) ∧ Hid (p = top (l.take k) + 1) ∧ Hid (Fine (l.take k)) ∧ Hid (Below (w.alloc (.cells #[.int .u32 0, .int .u8 0] 24)).heap.size (w.alloc (.cells #[.int .u32 0, .int .u8 0] 24)) wr)) (fun _ i _ => n - (intOf i).toNat)
  case atStart => exact ⟨0, 1, by omega, rfl, by rw [fl_1], Lib.hid rfl, Lib.hid (by intro a ha; simp at ha), B0⟩
  case round =>
    obtain ⟨k, p, hk, rfl, rfl, hp, hfi, hbel⟩ := hrel
    by_cases hkn : k < n
    · have q1 : decide (k < n) = true := by simpa using hkn
      obtain ⟨b, off, rfl, hb, hc0, hc1⟩ := HV.out.at k (by rw [← HN.out]; exact hkn)
      have hlt : b < (w.alloc (.cells #[.int .u32 0, .int .u8 0] 24)).heap.size := by simp; omega
      have hx0 : wr.cell? ⟨b, off + k * 2, none⟩ = some (.int .u32 ((l.getD k zid).t : Int)) :=
        (hbel.out.cell (p := ⟨b, off + k * 2, none⟩) hlt).trans ((((Below.refl _ _).alloc (Nat.le_refl _) _).cell (p := ⟨b, off + k * 2, none⟩) hb).trans hc0)
      have hx1 : wr.cell? ⟨b, off + k * 2 + 1, none⟩ = some (.int .u8 ((l.getD k zid).r : Int)) :=
        (hbel.out.cell (p := ⟨b, off + k * 2 + 1, none⟩) hlt).trans ((((Below.refl _ _).alloc (Nat.le_refl _) _).cell (p := ⟨b, off + k * 2 + 1, none⟩) hb).trans hc1)
      clear hc0 hc1 hlt
      obtain ⟨x, hx⟩ : ∃ x, x = l.getD k zid := ⟨_, rfl⟩
      rw [← hx] at hx0 hx1
      obtain ⟨t, s, ht, hs⟩ := x
      simp only at hx0 hx1
      have HX := Lib.hid hx
      clear hx
      have q2 : (0 : Int) ≤ (k : Int) := by omega
      have q3 : (k : Int) < (n : Int) := by omega
      by_cases hz : t = 0 ∧ s = 0
      · obtain ⟨rfl, rfl⟩ := hz
        have hx0' : wr.cell? ⟨b, off + k * 2, none⟩ = some (.int .u32 0) := hx0
        have hx1' : wr.cell? ⟨b, off + k * 2 + 1, none⟩ = some (.int .u8 0) := hx1
        clear hx0 hx1
        go_wp2_with fail
        refine (underWay_any 0 0 _).mono ?_
        rintro e w3 ⟨rfl, b3⟩
        have hb3 := Lib.hid (step3 hbel.out b3)
        clear b3
        have hp1 : p < 4294967299 := by have := top_fine hfi.out; have := hp.out; omega
        go_wp2_with fail
        refine (above_any p r 0 0 hp1 (by omega) _).mono ?_
        rintro e w4 ⟨rfl, rfl⟩
        go_wp2
        go_roundw
        case rel =>
          refine ⟨k + 1, _, by omega, by go_num, rfl, Lib.hid ?_, Lib.hid ?_, hb3⟩
          · rw [top_take l k (by rw [← HN.out]; exact hkn), ← HX.out, hp.out]; simp only; omega
          · exact Fine.take_snoc (by rw [← HN.out]; exact hkn) hfi.out (by rw [← HX.out]; exact .inl rfl)
        case measure => simp [intOf]; omega
      · by_cases hm : may t s = true
        · have ht0 : ¬ t = 0 := by have := (may_iff.1 hm).1; omega
          have HM := Lib.hid hm
          clear hz hm
          go_wp2_with fail
          refine (check_yes t s HM.out _).mono ?_
          rintro e w3 ⟨rfl, b3⟩
          obtain ⟨c0, c1, _, _⟩ := two_cells b3
          have hb3 := Lib.hid (step3 hbel.out b3)
          clear b3
          go_wp2_with fail
          refine (underWay_any _ _ _).mono ?_
          rintro e w4 ⟨rfl, b4⟩
          have hb4 : Hid (Below (w.alloc (.cells #[.int .u32 0, .int .u8 0] 24)).heap.size (w.alloc (.cells #[.int .u32 0, .int .u8 0] 24)) w4) := hb3.out.trans (b4.mono hb3.out.size)
          clear b4 hb3 c0 c1
          have hp1 : p < 4294967299 := by have := top_fine hfi.out; have := hp.out; omega
          go_wp2_with fail
          refine (above_any p r t s hp1 ht _).mono ?_
          rintro e w5 ⟨rfl, rfl⟩
          go_wp2
          go_roundw
          case rel =>
            refine ⟨k + 1, _, by omega, by go_num, rfl, Lib.hid ?_, Lib.hid ?_, hb4⟩
            · rw [top_take l k (by rw [← HN.out]; exact hkn), ← HX.out, hp.out]; simp only; omega
            · exact Fine.take_snoc (by rw [← HN.out]; exact hkn) hfi.out (by rw [← HX.out]; exact .inr HM.out)
          case measure => simp [intOf]; omega
        · have hno : ¬ Fine l := fun h => by
            have h1 := h _ (getD_mem l k (by rw [← HN.out]; exact hkn))
            rw [← HX.out] at h1
            rcases h1 with h1 | h1
            · exact hz (by simpa [zid, Id.eq_iff] using h1)
            · exact hm h1
          have e1 : nextv r l = .tuple #[.agg #[.int .u32 0, .int .u8 0], .int .i64 8] := by unfold nextv; rw [next_bad (by rw [← HN.out]; exact h1) hno]; rfl
          have HE := Lib.hid e1
          have HM := Lib.hid ((Bool.not_eq_true _).mp hm)
          clear e1 hno hm
          by_cases ht0 : t = 0
          · have hs0 : ¬ s = 0 := fun h => hz ⟨ht0, h⟩
            clear hz
            subst ht0
            have hx0' : wr.cell? ⟨b, off + k * 2, none⟩ = some (.int .u32 0) := hx0
            clear hx0
            go_wp2_with fail
            refine (check_no 0 s HM.out _).mono ?_
            rintro e w3 ⟨rfl, b3⟩
            have hb3 := step3 hbel.out b3
            obtain ⟨c0, c1, c2, c3⟩ := two_cells hb3
            have HB3 := Lib.hid hb3
            clear b3 hb3
            go_wp2
            refine bodyPost_ret (v := .tuple #[.agg #[.int .u32 0, .int .u8 0], .int .i64 8]) (by simp [results, Try.results7, go_sem, c0, c1]) rfl ⟨by rw [HE.out], ?_⟩
            exact set2 HB3.out
          · clear hz
            go_wp2_with fail
            refine (check_no t s HM.out _).mono ?_
            rintro e w3 ⟨rfl, b3⟩
            have hb3 := step3 hbel.out b3
            obtain ⟨c0, c1, c2, c3⟩ := two_cells hb3
            have HB3 := Lib.hid hb3
            clear b3 hb3
            go_wp2
            refine bodyPost_ret (v := .tuple #[.agg #[.int .u32 0, .int .u8 0], .int .i64 8]) (by simp [results, Try.results7, go_sem, c0, c1]) rfl ⟨by rw [HE.out], ?_⟩
            exact set2 HB3.out
    · have q1 : decide (k < n) = false := by simpa using hkn
      have hkk : l.take k = l := List.take_of_length_le (by have := HN.out; omega)
      have hfl : Fine l := by have := hfi.out; rwa [hkk] at this
      have hpl : p = top l + 1 := by have := hp.out; rwa [hkk] at this
      have htf := top_fine hfl
      obtain ⟨c0, c1, c2, c3⟩ := two_cells hbel.out
      have g := gt_fl p 1073741824 (by omega) (by omega)
      rw [fl_30] at g
      by_cases htop : top l = 1073741824
      · rw [decide_eq_true (by omega)] at g
        have e1 : nextv r l = .tuple #[.agg #[.int .u32 0, .int .u8 0], .int .i64 50] := by unfold nextv; rw [next_time (by rw [← HN.out]; exact h1) h2 hfl htop]; rfl
        have HE := Lib.hid e1
        clear e1 hkk hfl hpl htf htop
        go_wp2
        refine bodyPost_ret (v := .tuple #[.agg #[.int .u32 0, .int .u8 0], .int .i64 50]) (by simp [results, Try.results7, go_sem, c0, c1]) rfl ⟨by rw [HE.out], ?_⟩
        exact set2 hbel.out
      · rw [decide_eq_false (by omega)] at g
        have e1 : nextv r l = .tuple #[.agg #[.int .u32 (p : Int), .int .u8 (r : Int)], .int .i64 0] := by unfold nextv; rw [next_ok (by rw [← HN.out]; exact h1) h2 hfl htop, hpl]
        have hp1 : p < 4294967296 := by omega
        have HE := Lib.hid e1
        clear e1 hkk hfl hpl htf htop
        go_wp2_with fail
        refine (told_any p r hp1 hr _).mono ?_
        rintro e w3 ⟨rfl, b3⟩
        have hb3 := hbel.out.trans (b3.mono hbel.out.size)
        clear c0 c1 c2 c3
        obtain ⟨c0, c1, c2, c3⟩ := two_cells hb3
        have HB3 := Lib.hid hb3
        clear b3 hb3
        go_wp2
        refine bodyPost_ret (v := .tuple #[.agg #[.int .u32 (p : Int), .int .u8 (r : Int)], .int .i64 0]) (by simp [results, Try.results7, go_sem, c0, c1]) rfl ⟨by rw [HE.out], ?_⟩
        exact set2 HB3.out
end Go.Proofs.Ytpoheimcbfbkdaa.Stamp
