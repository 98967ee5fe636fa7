/- octavoref08: Among, Of, Top, Same: what each answers. Conditions: the slices' cells are replicas' spans, stamps. -/
import Derived.Test.YtinglfhndlklaaaClockRef5
namespace Go.Proofs.Ytinglfhndlklaaa.Clocks
open Go.RowKit Go.Proofs.Ytinglfhndlklaaa.Spans
attribute [local go_sem ↓] Go.wp_at_zero Go.wp_at_succ

theorem id_take_snoc (l : List Id) (k : Nat) (h : k < l.length) : l.take (k + 1) = l.take k ++ [l.getD k zid] := by
  rw [List.take_succ_eq_append_getElem h]
  simp [List.getD, List.getElem?_eq_getElem h]
theorem id_mem {l : List Id} {k : Nat} (h : k < l.length) : l.getD k zid ∈ l := by
  rw [List.getD, List.getElem?_eq_getElem h]
  exact List.getElem_mem _

set_option maxRecDepth 100000 in
set_option maxHeartbeats 1000000 in
theorem among_any {v : Value} {l : List Id} {w : World} (hv : Ids w v l) (hm : ∀ a ∈ l, mayI a) (hl : l.length ≤ 1024) :
    Calls Try.prog 57 #[v] w fun e w' => ∃ v', e = .returned v' ∧ OwnC w' w.heap.size v' (among l) ∧ Below w.heap.size w w' := by
  obtain ⟨ao, cap, rfl⟩ := hv.shape
  obtain ⟨n, hn⟩ : ∃ n, n = l.length := ⟨_, rfl⟩
  have HV := Lib.hid hv
  have HN := Lib.hid hn
  have HM := Lib.hid hm
  rw [← hn] at hl ⊢
  have O0 : Hid (OwnC w w.heap.size (.slice none 0 0) (among (l.take 0))) := OwnC.nil _ _
  have B0 := Lib.hid (Below.refl w.heap.size w)
  clear hv hn hm
  go_enter Try.func57, Try.ntmps57
  go_wp2
  go_loopw [3, 4] (fun o i wr => ∃ k : Nat, k ≤ n ∧ i = .int .i64 (k : Int) ∧ Hid (OwnC wr w.heap.size o (among (l.take k))) ∧ Hid (Below w.heap.size w wr)) (fun _ i _ => n - (intOf i).toNat)
  case atStart => exact ⟨0, by omega, rfl, O0, B0⟩
  case round =>
    obtain ⟨k, hk, rfl, hown, hbel⟩ := hrel
    by_cases hkn : k < n
    · have q1 : decide (k < n) = true := by simpa using hkn
      have q2 : (0 : Int) ≤ (k : Int) := by omega
      have q3 : (k : Int) < (n : Int) := by omega
      have hkl : k < l.length := by rw [← HN.out]; exact hkn
      obtain ⟨b1, o1, rfl, hb1, ha0, ha1⟩ := (HV.out.keeps hbel.out).at k hkl
      have hs := id_take_snoc l k hkl
      have hx1 := HM.out _ (id_mem hkl)
      obtain ⟨x, hx⟩ : ∃ x, x = l.getD k zid := ⟨_, rfl⟩
      rw [← hx] at ha0 ha1 hs hx1
      have hsn : among (l.take (k + 1)) = bothC (among (l.take k)) (one x) := by rw [hs]; exact among_snoc _ _
      obtain ⟨g1, g2, _⟩ := among_ok (l.take k) (fun a ha => HM.out a (List.mem_of_mem_take ha)) (by rw [List.length_take]; omega)
      have hfew : Few (among (l.take k)) (one x) := fun r => by
        have h1 := g2 r
        have h2 := spn_one_len x r
        rw [List.length_take] at h1
        omega
      have HSN := Lib.hid hsn
      have OA := Lib.hid (one_any x wr)
      have BO : Hid (∀ (W : World) (u c : Value), Tms W c (among (l.take k)) → Tms W u (one x) → Calls Try.prog 51 #[c, u] W fun e w' => ∃ v', e = .returned (.tuple #[v', .bool true]) ∧ OwnC w' W.heap.size v' (bothC (among (l.take k)) (one x)) ∧ Below W.heap.size W w') := fun W u c h1 h2 => refBothC_any h1 h2 g1 (one_ok hx1) hfew
      have hsz := hbel.out.size
      clear hx hs hsn g1 g2 hfew hx1
      go_wp2_with fail
      refine OA.out.mono ?_
      rintro e w2 ⟨v2, rfl, o2, b2⟩
      have B2 := Lib.hid (bt hbel.out b2)
      have BC := Lib.hid (BO.out _ _ _ (hown.out.tms.keeps b2) o2.tms)
      clear o2 b2
      go_wp2_with fail
      refine BC.out.mono ?_
      rintro e w3 ⟨v3, rfl, o3, b3⟩
      have O3 := Lib.hid (OwnC.base o3 B2.out.size)
      have B3 := Lib.hid (bt B2.out b3)
      clear o3 b3
      go_wp2
      go_roundw
      case rel => exact ⟨k + 1, by omega, by go_num, Lib.hid (by rw [HSN.out]; exact O3.out), B3⟩
      case measure => simp [intOf]; omega
    · have q1 : decide (k < n) = false := by simpa using hkn
      have hkk : l.take k = l := List.take_of_length_le (by have := HN.out; omega)
      rw [hkk] at hown
      clear hkk
      go_wp2
      go_ret
      exact ⟨_, rfl, hown.out, hbel.out⟩

set_option maxRecDepth 100000 in
set_option maxHeartbeats 1000000 in
theorem refOfC_any {v : Value} {l : List Id} {w : World} (hv : Ids w v l) :
    Calls Try.prog 29 #[v] w (DoneC (ofC l).1 (ofC l).2 w) := by
  obtain ⟨ao, cap, rfl⟩ := hv.shape
  obtain ⟨n, hn⟩ : ∃ n, n = l.length := ⟨_, rfl⟩
  have hm : n ≤ 9223372036854775807 := by rw [hn]; exact Sees.max hv
  have HV := Lib.hid hv
  have HN := Lib.hid hn
  obtain ⟨L, x, hd⟩ : ∃ L x, ofC l = (L, x) := ⟨_, _, rfl⟩
  rw [hd, ← hn]
  unfold ofC at hd
  by_cases hbig : 1024 < n
  · rw [if_pos (by rw [← hn]; exact hbig)] at hd
    obtain ⟨rfl, rfl⟩ : [] = L ∧ (4 : Int) = x := Prod.mk.inj hd
    have t1 : decide ((1024 : Int) < (n : Int)) = true := decide_eq_true (by omega)
    have t2 : decide (1024 < n) = true := decide_eq_true hbig
    clear hv hn hd
    go_enter Try.func29, Try.ntmps29
    go_wp2
    go_ret2
    exact ⟨_, rfl, OwnC.nil _ _, Below.refl _ _⟩
  rw [if_neg (by rw [← hn]; exact hbig)] at hd
  have t1 : decide ((1024 : Int) < (n : Int)) = false := decide_eq_false (by omega)
  have t2 : decide (1024 < n) = false := decide_eq_false hbig
  have HNo : Hid ((∃ a ∈ l, ¬ mayI a) → L = [] ∧ x = 8) := by
    rintro ⟨a, ha, h⟩
    rw [if_neg (fun hb => h ((allMay_iff l).1 hb a ha))] at hd
    exact ⟨(Prod.mk.inj hd).1.symm, (Prod.mk.inj hd).2.symm⟩
  have HYes : Hid ((∀ a ∈ l, mayI a) → L = among l ∧ x = 0) := fun h => by
    rw [if_pos ((allMay_iff l).2 h)] at hd
    exact ⟨(Prod.mk.inj hd).1.symm, (Prod.mk.inj hd).2.symm⟩
  have B0 := Lib.hid (Below.refl w.heap.size w)
  clear hv hn hd
  simp only
  go_enter Try.func29, Try.ntmps29
  go_wp2
  go_loopw [4] (fun i wr => ∃ k : Nat, k ≤ n ∧ i = .int .i64 (k : Int) ∧ Hid (∀ a ∈ l.take k, mayI a) ∧ Hid (Below w.heap.size w wr)) (fun i _ => n - (intOf i).toNat)
  case atStart => exact ⟨0, by omega, rfl, Lib.hid (by simp), B0⟩
  case round =>
    obtain ⟨k, hk, rfl, hal, hbel⟩ := hrel
    by_cases hkn : k < n
    · have q1 : decide (k < n) = true := by simpa using hkn
      have q2 : (0 : Int) ≤ (k : Int) := by omega
      have q3 : (k : Int) < (n : Int) := by omega
      have hkl : k < l.length := by rw [← HN.out]; exact hkn
      obtain ⟨b1, o1, rfl, hb1, ha0, ha1⟩ := (HV.out.keeps hbel.out).at k hkl
      have hs := id_take_snoc l k hkl
      have hmem := id_mem hkl
      obtain ⟨y, hy⟩ : ∃ y, y = l.getD k zid := ⟨_, rfl⟩
      rw [← hy] at ha0 ha1 hs hmem
      have MI := Lib.hid (may05_any y wr)
      obtain ⟨q, hq⟩ : ∃ q, decide (mayI y) = q := ⟨_, rfl⟩
      rw [hq] at MI
      cases q
      · obtain ⟨rfl, rfl⟩ := HNo.out ⟨y, hmem, of_decide_eq_false hq⟩
        clear hy hs hmem hq HNo HYes
        go_wp2_with fail
        refine MI.out.mono ?_
        rintro e w2 ⟨rfl, b2⟩
        have B2 := Lib.hid (bt hbel.out b2)
        clear b2
        go_wp2
        go_ret2
        exact ⟨_, rfl, OwnC.nil _ _, B2.out⟩
      · have HA : Hid (∀ a ∈ l.take (k + 1), mayI a) := by
          intro a ha
          rw [hs, List.mem_append, List.mem_singleton] at ha
          rcases ha with ha | rfl
          · exact hal.out a ha
          · exact of_decide_eq_true hq
        clear hy hs hmem hq
        go_wp2_with fail
        refine MI.out.mono ?_
        rintro e w2 ⟨rfl, b2⟩
        have B2 := Lib.hid (bt hbel.out b2)
        clear b2
        go_wp2
        go_roundw
        case rel => exact ⟨k + 1, by omega, by go_num, HA, B2⟩
        case measure => simp [intOf]; omega
    · have q1 : decide (k < n) = false := by simpa using hkn
      have hkk : l.take k = l := List.take_of_length_le (by have := HN.out; omega)
      rw [hkk] at hal
      obtain ⟨rfl, rfl⟩ := HYes.out hal.out
      have hal' : ∀ a ∈ l, mayI a := hal.out
      have AM := Lib.hid (among_any (HV.out.keeps hbel.out) hal' (by have := HN.out; omega))
      rw [← HN.out] at AM
      clear hkk hal' HNo HYes
      go_wp2_with fail
      refine AM.out.mono ?_
      rintro e w2 ⟨v2, rfl, o2, b2⟩
      have O2 := Lib.hid (OwnC.base o2 hbel.out.size)
      have B2 := Lib.hid (bt hbel.out b2)
      clear o2 b2
      go_wp2
      go_ret2
      exact ⟨_, rfl, O2.out, B2.out⟩
end Go.Proofs.Ytinglfhndlklaaa.Clocks
