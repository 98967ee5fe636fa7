/- octavoref05.Next: what it answers. Conditions: the slice's cells are stamps. -/
import Derived.Test.YtpoheimcbfbkdaaStampRef
namespace Go.Proofs.Ytpoheimcbfbkdaa.Stamp
open Go.RowKit Flo

theorem refMay_yes (t r : Nat) (h : may t r = true) (w : World) : Calls Try.prog 18 #[.agg #[.int .u32 (t : Int), .int .u8 (r : Int)]] w fun e w' => e = .returned (.bool true) ∧ Below w.heap.size w w' := by
  have := refMay_any t r w
  rwa [h] at this
theorem refMay_no (t r : Nat) (h : may t r = false) (w : World) : Calls Try.prog 18 #[.agg #[.int .u32 (t : Int), .int .u8 (r : Int)]] w fun e w' => e = .returned (.bool false) ∧ Below w.heap.size w w' := by
  have := refMay_any t r w
  rwa [h] at this

set_option maxHeartbeats 2000000 in
theorem refNext_any {r : Nat} {v : Value} {l : List Id} {w : World} (hv : Ids w v l) :
    Calls Try.prog 11 #[.int .u8 (r : Int), v] w fun e w' => e = .returned (nextv r l) ∧ Below w.heap.size w w' := by
  obtain ⟨ao, cap, rfl⟩ := hv.shape
  obtain ⟨n, hn⟩ : ∃ n, n = l.length := ⟨_, rfl⟩
  have HV := Lib.hid hv
  have HN := Lib.hid hn
  rw [← hn]
  clear hv
  by_cases h1 : 1024 < n
  · have t1 : decide ((1024 : Int) < (n : Int)) = true := decide_eq_true (by omega)
    have t2 : decide (1024 < n) = true := decide_eq_true h1
    have e1 : nextv r l = .tuple #[.agg #[.int .u32 0, .int .u8 0], .int .i64 4] := by unfold nextv; rw [next_many (by omega)]; rfl
    rw [e1]
    clear hn e1
    go_enter Try.func11, Try.ntmps11
    go_wp2
    exact bodyPost_ret (v := .tuple #[.agg #[.int .u32 0, .int .u8 0], .int .i64 4]) (by simp [results, Try.results11, go_sem]) rfl ⟨rfl, (Below.refl _ _).alloc (Nat.le_refl _) _⟩
  have t1 : decide ((1024 : Int) < (n : Int)) = false := decide_eq_false (by omega)
  have t2 : decide (1024 < n) = false := decide_eq_false h1
  by_cases h2 : 8 ≤ r
  · have t3 : decide ((8 : Int) ≤ (r : Int)) = true := decide_eq_true (by omega)
    have t4 : decide (8 ≤ r) = true := decide_eq_true h2
    have e1 : nextv r l = .tuple #[.agg #[.int .u32 0, .int .u8 0], .int .i64 8] := by unfold nextv; rw [next_r (by omega) h2]; rfl
    rw [e1]
    clear hn e1
    go_enter Try.func11, Try.ntmps11
    go_wp2
    exact bodyPost_ret (v := .tuple #[.agg #[.int .u32 0, .int .u8 0], .int .i64 8]) (by simp [results, Try.results11, go_sem]) rfl ⟨rfl, (Below.refl _ _).alloc (Nat.le_refl _) _⟩
  have t3 : decide ((8 : Int) ≤ (r : Int)) = false := decide_eq_false (by omega)
  have t4 : decide (8 ≤ r) = false := decide_eq_false h2
  have B0 : Hid (Below (w.alloc (.cells #[.int .u32 0, .int .u8 0] 24)).heap.size (w.alloc (.cells #[.int .u32 0, .int .u8 0] 24)) (w.alloc (.cells #[.int .u32 0, .int .u8 0] 24))) := Below.refl _ _
  clear hn
  go_enter Try.func11, Try.ntmps11
  go_wp2
  go_loopw [6] (fun i wr => ∃ k : Nat, k ≤ n ∧ i = .int .i64 (k : Int) ∧ Hid (Fine (l.take k)) ∧ Hid (Below (w.alloc (.cells #[.int .u32 0, .int .u8 0] 24)).heap.size (w.alloc (.cells #[.int .u32 0, .int .u8 0] 24)) wr)) (fun i _ => n - (intOf i).toNat)
  case atStart => exact ⟨0, by omega, rfl, Lib.hid (by intro a ha; simp at ha), B0⟩
  case round =>
    obtain ⟨k, hk, rfl, hfi, hbel⟩ := hrel
    by_cases hkn : k < n
    · have q1 : decide (k < n) = true := by simpa using hkn
      obtain ⟨b, off, rfl, hb, hc0, hc1⟩ := HV.out.at k (by rw [← HN.out]; exact hkn)
      have hlt : b < (w.alloc (.cells #[.int .u32 0, .int .u8 0] 24)).heap.size := by simp; omega
      have hx0 : wr.cell? ⟨b, off + k * 2, none⟩ = some (.int .u32 ((l.getD k zid).t : Int)) :=
        (hbel.out.cell (p := ⟨b, off + k * 2, none⟩) hlt).trans ((((Below.refl _ _).alloc (Nat.le_refl _) _).cell (p := ⟨b, off + k * 2, none⟩) hb).trans hc0)
      have hx1 : wr.cell? ⟨b, off + k * 2 + 1, none⟩ = some (.int .u8 ((l.getD k zid).r : Int)) :=
        (hbel.out.cell (p := ⟨b, off + k * 2 + 1, none⟩) hlt).trans ((((Below.refl _ _).alloc (Nat.le_refl _) _).cell (p := ⟨b, off + k * 2 + 1, none⟩) hb).trans hc1)
      clear hc0 hc1 hlt
      obtain ⟨x, hx⟩ : ∃ x, x = l.getD k zid := ⟨_, rfl⟩
      rw [← hx] at hx0 hx1
      obtain ⟨t, s, ht, hs⟩ := x
      simp only at hx0 hx1
      have HX := Lib.hid hx
      clear hx
      have q2 : (0 : Int) ≤ (k : Int) := by omega
      have q3 : (k : Int) < (n : Int) := by omega
      by_cases hz : t = 0 ∧ s = 0
      · obtain ⟨rfl, rfl⟩ := hz
        have hx0' : wr.cell? ⟨b, off + k * 2, none⟩ = some (.int .u32 0) := hx0
        have hx1' : wr.cell? ⟨b, off + k * 2 + 1, none⟩ = some (.int .u8 0) := hx1
        clear hx0 hx1
        go_wp2
        go_roundw
        case rel => exact ⟨k + 1, by omega, by go_num, Lib.hid (Fine.take_snoc (by rw [← HN.out]; exact hkn) hfi.out (by rw [← HX.out]; exact .inl rfl)), hbel⟩
        case measure => simp [intOf]; omega
      · by_cases hm : may t s = true
        · have ht0 : ¬ t = 0 := by have := (may_iff.1 hm).1; omega
          have HM := Lib.hid hm
          clear hz hm
          go_wp2_with fail
          refine (refMay_yes t s HM.out _).mono ?_
          rintro e w3 ⟨rfl, b3⟩
          have hb3 := Lib.hid (hbel.out.trans (b3.mono hbel.out.size))
          clear b3
          go_wp2
          go_roundw
          case rel => exact ⟨k + 1, by omega, by go_num, Lib.hid (Fine.take_snoc (by rw [← HN.out]; exact hkn) hfi.out (by rw [← HX.out]; exact .inr HM.out)), hb3⟩
          case measure => simp [intOf]; omega
        · have hno : ¬ Fine l := fun h => by
            have h1 := h _ (getD_mem l k (by rw [← HN.out]; exact hkn))
            rw [← HX.out] at h1
            rcases h1 with h1 | h1
            · exact hz (by simpa [zid, Id.eq_iff] using h1)
            · exact hm h1
          have e1 : nextv r l = .tuple #[.agg #[.int .u32 0, .int .u8 0], .int .i64 8] := by unfold nextv; rw [next_bad (by rw [← HN.out]; exact h1) hno]; rfl
          have HE := Lib.hid e1
          have HM := Lib.hid ((Bool.not_eq_true _).mp hm)
          clear e1 hno hm
          by_cases ht0 : t = 0
          · have hs0 : ¬ s = 0 := fun h => hz ⟨ht0, h⟩
            clear hz
            subst ht0
            have hx0' : wr.cell? ⟨b, off + k * 2, none⟩ = some (.int .u32 0) := hx0
            clear hx0
            go_wp2_with fail
            refine (refMay_no 0 s HM.out _).mono ?_
            rintro e w3 ⟨rfl, b3⟩
            have hb3 := hbel.out.trans (b3.mono hbel.out.size)
            obtain ⟨c0, c1, c2, c3⟩ := two_cells hb3
            have HB3 := Lib.hid hb3
            clear b3 hb3
            go_wp2
            refine bodyPost_ret (v := .tuple #[.agg #[.int .u32 0, .int .u8 0], .int .i64 8]) (by simp [results, Try.results11, go_sem, c0, c1]) rfl ⟨by rw [HE.out], ?_⟩
            exact set2 HB3.out
          · clear hz
            go_wp2_with fail
            refine (refMay_no t s HM.out _).mono ?_
            rintro e w3 ⟨rfl, b3⟩
            have hb3 := hbel.out.trans (b3.mono hbel.out.size)
            obtain ⟨c0, c1, c2, c3⟩ := two_cells hb3
            have HB3 := Lib.hid hb3
            clear b3 hb3
            go_wp2
            refine bodyPost_ret (v := .tuple #[.agg #[.int .u32 0, .int .u8 0], .int .i64 8]) (by simp [results, Try.results11, go_sem, c0, c1]) rfl ⟨by rw [HE.out], ?_⟩
            exact set2 HB3.out
    · have q1 : decide (k < n) = false := by simpa using hkn
      have hkk : l.take k = l := List.take_of_length_le (by have := HN.out; omega)
      have hfl : Fine l := by have := hfi.out; rwa [hkk] at this
      obtain ⟨p, hp⟩ : ∃ p, p = top l := ⟨_, rfl⟩
      have htf := top_fine hfl
      rw [← hp] at htf
      obtain ⟨c0, c1, c2, c3⟩ := two_cells hbel.out
      have hvr : Ids wr (.slice ao n cap) l := by
        have h2 := HV.out.keeps (below_of3 hbel.out)
        rwa [← HN.out] at h2
      have HT : Hid (Calls Try.prog 19 #[.slice ao n cap] wr (fun e w' => e = .returned (.int .u32 (p : Int)) ∧ wr = w')) := by rw [hp]; exact refTop_any hvr
      clear hvr
      by_cases htop : p = 1073741824
      · have e1 : nextv r l = .tuple #[.agg #[.int .u32 0, .int .u8 0], .int .i64 50] := by unfold nextv; rw [next_time (by rw [← HN.out]; exact h1) h2 hfl (by rw [← hp]; exact htop)]; rfl
        have HE := Lib.hid e1
        have d1 : ((p : Int) == 1073741824) = true := by simp; omega
        have d2 : decide (p = 1073741824) = true := by simpa using htop
        clear e1 hkk hfl hp htop htf
        go_wp2_with fail
        refine HT.out.mono ?_
        rintro e w3 ⟨rfl, rfl⟩
        go_wp2
        refine bodyPost_ret (v := .tuple #[.agg #[.int .u32 0, .int .u8 0], .int .i64 50]) (by simp [results, Try.results11, go_sem, c0, c1]) rfl ⟨by rw [HE.out], ?_⟩
        exact set2 hbel.out
      · have e1 : nextv r l = .tuple #[.agg #[.int .u32 ((p : Int) + 1), .int .u8 (r : Int)], .int .i64 0] := by unfold nextv; rw [next_ok (by rw [← HN.out]; exact h1) h2 hfl (by rw [← hp]; exact htop), ← hp]; rfl
        have HE := Lib.hid e1
        have d1 : ((p : Int) == 1073741824) = false := by simp; omega
        have d2 : decide (p = 1073741824) = false := by simpa using htop
        clear e1 hkk hfl hp htop
        go_wp2_with fail
        refine HT.out.mono ?_
        rintro e w3 ⟨rfl, rfl⟩
        go_wp2_with fail
        refine HT.out.mono ?_
        rintro e w3 ⟨rfl, rfl⟩
        go_wp2
        refine bodyPost_ret (v := .tuple #[.agg #[.int .u32 ((p : Int) + 1), .int .u8 (r : Int)], .int .i64 0]) (by simp [results, Try.results11, go_sem, c0, c1]) rfl ⟨by rw [HE.out], ?_⟩
        exact set2 hbel.out
end Go.Proofs.Ytpoheimcbfbkdaa.Stamp
