/- octavoref08: Many, Count, Great, put, told, Both, Left, Join, Less: what each answers. Conditions: the slices' cells are replicas' spans. -/
import Derived.Test.YtinglfhndlklaaaClockRef2
import Derived.Test.YtinglfhndlklaaaSpanSetsRef
namespace Go.Proofs.Ytinglfhndlklaaa.Clocks
open Go.RowKit Go.Proofs.Ytinglfhndlklaaa.Spans
attribute [local go_sem ↓] Go.wp_at_zero Go.wp_at_succ

set_option maxHeartbeats 1000000 in
theorem refManyC_any {v : Value} {c : List Tm} {w : World} (hv : Tms w v c) (hc : Cok c) :
    Calls Try.prog 55 #[v] w fun e w' => e = .returned (.int .i64 (manyC c : Int)) ∧ Below w.heap.size w w' := by
  obtain ⟨ao, cap, rfl⟩ := hv.shape
  obtain ⟨n, hn⟩ : ∃ n, n = c.length := ⟨_, rfl⟩
  have hm : n ≤ 9223372036854775807 := by rw [hn]; exact Tms.max hv
  have HV := Lib.hid hv
  have HN := Lib.hid hn
  have HC := Lib.hid hc
  have B0 := Lib.hid (Below.refl w.heap.size w)
  rw [← hn]
  clear hv hn hc
  go_enter Try.func55, Try.ntmps55
  go_wp2
  go_loopw [3, 4] (fun s i wr => ∃ k m : Nat, k ≤ n ∧ i = .int .i64 (k : Int) ∧ s = .int .i64 (m : Int) ∧ Hid (m = manyC (c.take k)) ∧ Hid (Below w.heap.size w wr)) (fun _ i _ => n - (intOf i).toNat)
  case atStart => exact ⟨0, 0, by omega, rfl, rfl, Lib.hid rfl, B0⟩
  case round =>
    obtain ⟨k, m, hk, rfl, rfl, hmany, hbel⟩ := hrel
    by_cases hkn : k < n
    · have q1 : decide (k < n) = true := by simpa using hkn
      have q2 : (0 : Int) ≤ (k : Int) := by omega
      have q3 : (k : Int) < (n : Int) := by omega
      have hkl : k < c.length := by rw [← HN.out]; exact hkn
      obtain ⟨b1, o1, u, rfl, hb1, ha0, ha1, -, hsp⟩ := (HV.out.keeps hbel.out).at k hkl
      have hok := up_all HC.out (c.getD k ztm) (tm_mem hkl)
      have hs := tm_take_snoc c k hkl
      have hms := manyC_snoc (c.take k) (c.getD k ztm)
      rw [← hs] at hms
      have hle := manyC_le (up_take HC.out (k + 1))
      obtain ⟨x, hx⟩ : ∃ x, x = c.getD k ztm := ⟨_, rfl⟩
      have hx' : c.getD k (0, []) = x := hx.symm
      rw [hx'] at hsp
      rw [← hx] at hok hms
      have hfl := (mayB_iff _).1 hok.2.2.2
      have M := Lib.hid (refMany_any hsp hfl.1 (by omega))
      obtain ⟨so, sc, rfl⟩ := hsp.shape
      obtain ⟨d, hd⟩ : ∃ d, d = many x.2 := ⟨_, rfl⟩
      rw [← hd] at M hms
      have HM2 : Hid (m + d = manyC (c.take (k + 1))) := by show _ = _; rw [hms, hmany.out]
      have hb2 : m + d ≤ 8589934600 := by rw [HM2.out]; omega
      have e5 : IntKind.i64.wrap ((m : Int) + (d : Int)) = (m : Int) + (d : Int) := IntWalk.i64_in _ (by omega)
      obtain ⟨sl, hsl⟩ : ∃ sl, sl = x.2.length := ⟨_, rfl⟩
      rw [← hsl] at M ha1
      clear hx hx' hs hms hle hok hfl hsp hd ha0 hsl
      go_wp2_with fail
      refine M.out.mono ?_
      rintro e w1 ⟨rfl, b1⟩
      have B1 := Lib.hid (bt hbel.out b1)
      clear b1
      go_wp2
      go_roundw
      case rel => exact ⟨k + 1, m + d, by omega, by go_num, by go_num, HM2, B1⟩
      case measure => simp [intOf]; omega
    · have q1 : decide (k < n) = false := by simpa using hkn
      have hkk : c.take k = c := List.take_of_length_le (by have := HN.out; omega)
      have hf : m = manyC c := by have := hmany.out; rwa [hkk] at this
      subst hf
      clear hkk
      go_wp2
      go_ret
      exact ⟨rfl, hbel.out⟩
theorem refCountC_any {v : Value} {c : List Tm} {w : World} (hv : Tms w v c) :
    Calls Try.prog 34 #[v] w fun e w' => e = .returned (.int .i64 (countC c : Int)) ∧ Below w.heap.size w w' := by
  have HV := Lib.hid hv
  unfold countC
  cases hb : mayC c
  · have M := Lib.hid (refMayC_is hv hb)
    clear hb hv
    go_enter Try.func34, Try.ntmps34
    go_wp2_with fail
    refine M.out.mono ?_
    rintro e w1 ⟨rfl, b1⟩
    go_wp2
    go_ret
    exact ⟨rfl, b1⟩
  · have M := Lib.hid (refMayC_is hv hb)
    have MA : Hid (∀ W : World, Tms W v c → Calls Try.prog 55 #[v] W fun e w' => e = .returned (.int .i64 (manyC c : Int)) ∧ Below W.heap.size W w') := fun W h => refManyC_any h ((mayC_iff c).1 hb)
    rw [if_pos rfl]
    clear hb hv
    go_enter Try.func34, Try.ntmps34
    go_wp2_with fail
    refine M.out.mono ?_
    rintro e w1 ⟨rfl, b1⟩
    have B1 := Lib.hid b1
    clear b1
    go_wp2_with fail
    refine (MA.out _ (HV.out.keeps B1.out)).mono ?_
    rintro e w2 ⟨rfl, b2⟩
    have B2 := Lib.hid (bt B1.out b2)
    clear b2
    go_wp2
    go_ret
    exact ⟨rfl, B2.out⟩

/-- Some replica has more spans than any machine can hold. -/
def Huge (c : List Tm) : Prop := ∃ x ∈ c, 9000000000000000000 < x.2.length
theorem huge_no {c : List Tm} (h : Huge c) : mayC c = false := by
  refine mayC_no (fun hc => ?_)
  obtain ⟨x, hx, h1⟩ := h
  have := ((mayB_iff _).1 (up_all hc x hx).2.2.2).2
  omega
/-- What Great answers. -/
def Grt (c : List Tm) (e : Ending) : Prop := ∃ g, e = .returned (.bool g) ∧ (g = false → c.length ≤ 300 ∧ (tot c ≤ 300 ∨ Huge c))
theorem Grt.yes {c : List Tm} : Grt c (.returned (.bool true)) := ⟨true, rfl, fun h => by cases h⟩
theorem Grt.no {c : List Tm} (h1 : c.length ≤ 300) (h2 : tot c ≤ 300 ∨ Huge c) : Grt c (.returned (.bool false)) := ⟨false, rfl, fun _ => ⟨h1, h2⟩⟩

set_option maxHeartbeats 1000000 in
theorem great_any {v : Value} {c : List Tm} {w : World} (hv : Tms w v c) :
    Calls Try.prog 21 #[v] w fun e w' => Grt c e ∧ w = w' := by
  obtain ⟨ao, cap, rfl⟩ := hv.shape
  obtain ⟨n, hn⟩ : ∃ n, n = c.length := ⟨_, rfl⟩
  have hm : n ≤ 9223372036854775807 := by rw [hn]; exact Tms.max hv
  have HV := Lib.hid hv
  have HN := Lib.hid hn
  rw [← hn]
  clear hv hn
  go_enter Try.func21, Try.ntmps21
  go_wp2
  go_loop [3, 4] (fun s i => ∃ (k : Nat) (m : Int), k ≤ n ∧ k ≤ 300 ∧ i = .int .i64 (k : Int) ∧ s = .int .i64 m ∧ Hid (Huge c ∨ (m = (tot (c.take k) : Nat) ∧ m ≤ 300))) (fun _ i => n - (intOf i).toNat)
  case atStart => exact ⟨0, 0, by omega, by omega, rfl, rfl, Lib.hid (.inr ⟨rfl, by omega⟩)⟩
  case round =>
    obtain ⟨k, m, hk, hk3, rfl, rfl, hmt⟩ := hrel
    by_cases hkn : k < n
    · have q1 : decide (k < n) = true := by simpa using hkn
      by_cases hk4 : k < 300
      · have q4 : decide ((k : Int) < 300) = true := decide_eq_true (by omega)
        have q5 : decide (k < 300) = true := decide_eq_true hk4
        have q2 : (0 : Int) ≤ (k : Int) := by omega
        have q3 : (k : Int) < (n : Int) := by omega
        have hkl : k < c.length := by rw [← HN.out]; exact hkn
        obtain ⟨b1, o1, u, rfl, hb1, ha0, ha1, -, hsp⟩ := HV.out.at k hkl
        have hs := tm_take_snoc c k hkl
        have hts := tot_snoc (c.take k) (c.getD k ztm)
        rw [← hs] at hts
        have hsx := Sees.max hsp
        obtain ⟨so, sc, rfl⟩ := hsp.shape
        obtain ⟨d, hd⟩ : ∃ d, d = (c.getD k (0, [])).2.length := ⟨_, rfl⟩
        rw [← hd] at ha1 hsx
        have hd2 : d = (c.getD k ztm).2.length := hd
        obtain ⟨m2, hm2⟩ : ∃ m2, m2 = IntKind.i64.wrap (m + (d : Int)) := ⟨_, rfl⟩
        have e5 : IntKind.i64.wrap (m + (d : Int)) = m2 := hm2.symm
        have HT : Hid (¬ 300 < m2 → Huge c ∨ (m2 = (tot (c.take (k + 1)) : Nat) ∧ m2 ≤ 300)) := fun h3 => by
          rcases hmt.out with h | ⟨h1, h2⟩
          · exact .inl h
          · by_cases hbig : d ≤ 9000000000000000000
            · right
              have e6 : IntKind.i64.wrap (m + (d : Int)) = m + (d : Int) := IntWalk.i64_in _ (by omega)
              refine ⟨?_, by omega⟩
              rw [hm2, e6, hts, h1, hd2]
              push_cast
              rfl
            · exact .inl ⟨_, tm_mem hkl, by rw [← hd2]; omega⟩
        clear hs hts hsp hd hd2 ha0 hm2
        by_cases h3 : 300 < m2
        · have t1 : decide ((300 : Int) < m2) = true := decide_eq_true h3
          go_wp2
          go_ret
          exact ⟨Grt.yes, rfl⟩
        · have t1 : decide ((300 : Int) < m2) = false := decide_eq_false h3
          have HT2 := Lib.hid (HT.out h3)
          clear HT
          go_wp2
          go_round
          case rel => exact ⟨k + 1, m2, by omega, by omega, by go_num, by go_num, HT2⟩
          case measure => simp [intOf]; omega
      · obtain rfl : k = 300 := by omega
        have q5 : decide (300 < n) = true := decide_eq_true (by omega)
        have q6 : decide ((300 : Int) < (n : Int)) = true := decide_eq_true (by omega)
        go_wp2
        go_ret
        exact ⟨Grt.yes, rfl⟩
    · have q1 : decide (k < n) = false := by simpa using hkn
      obtain rfl : k = n := by omega
      have hkk : c.take k = c := List.take_of_length_le (by have := HN.out; omega)
      have q5 : decide (300 < k) = false := decide_eq_false (by omega)
      have q6 : decide ((300 : Int) < (k : Int)) = false := decide_eq_false (by omega)
      have HT : Hid (c.length ≤ 300 ∧ (tot c ≤ 300 ∨ Huge c)) := by
        have h := hmt.out
        rw [hkk] at h
        refine ⟨by rw [← HN.out]; omega, ?_⟩
        rcases h with h | h
        · exact .inr h
        · exact .inl (by omega)
      clear hkk
      go_wp2
      go_ret
      exact ⟨Grt.no HT.out.1 HT.out.2, rfl⟩

/-! ### Two together -/
theorem hold_grown {w w' : World} {base : Nat} : ∀ {cs : List Value} {c : List Tm} {row : Option Nat}, HoldO w base cs c → w.grownBy w' row →
    (∀ j cur, row = some j → w.heap[j]? ≠ some (.cells cur 63 (0, 0))) → HoldO w' base cs c
  | [], [], _, _, _, _ => trivial
  | _ :: b :: _, _ :: _, row, h, hg, hr => by
    refine ⟨h.1, h.2.1, h.2.2.1.kept hg ?_, hold_grown h.2.2.2 hg hr⟩
    rcases h.2.2.1.2 with ⟨h0, _⟩ | ⟨g, cap, cur, h0, _, hgb, _⟩
    · rw [h0]; exact .inl rfl
    · refine .inr (fun e => ?_)
      rw [h0] at e
      exact hr g cur e.symm hgb
theorem times_row {w : World} {base n : Nat} {v : Value} {cs : List Value} (h : w.ownsRow base 28 2 v n cs) : ∀ j cur, v.ownBlock = some j → w.heap[j]? ≠ some (.cells cur 63 (0, 0)) := by
  intro j cur hj he
  rcases h.2 with ⟨h0, _⟩ | ⟨g, cap, cur2, h0, _, hgb, _⟩
  · rw [h0] at hj; cases hj
  · rw [h0] at hj
    simp only [Value.ownBlock, Option.some.injEq] at hj
    subst hj
    rw [hgb] at he
    simp at he
theorem own_kept_span {w w' : World} {base B n : Nat} {u v : Value} {cs ds : List Value} {m : Nat} (h : w.ownsRow B 63 2 u n cs) (hv : w.ownsRow base 28 2 v m ds) (hg : w.grownBy w' v.ownBlock) : w'.ownsRow B 63 2 u n cs := by
  refine h.kept hg ?_
  rcases h.2 with ⟨h0, _⟩ | ⟨g, cap, cur, h0, _, hgb, _⟩
  · rw [h0]; exact .inl rfl
  · refine .inr (fun e => ?_)
    rw [h0] at e
    exact times_row hv g cur e.symm hgb
theorem HoldO.lower {w : World} {b b' : Nat} (hb : b' ≤ b) : ∀ {cs : List Value} {c : List Tm}, HoldO w b cs c → HoldO w b' cs c
  | [], [], _ => trivial
  | _ :: _ :: _, _ :: _, h => ⟨h.1, h.2.1, own_base h.2.2.1 hb, HoldO.lower hb h.2.2.2⟩
theorem OwnC.nil (w : World) (base : Nat) : OwnC w base (.slice none 0 0) [] := ⟨[], World.ownsRow_nil _ _ _ _, trivial⟩
theorem OwnC.base {w : World} {b b' : Nat} {v : Value} {c : List Tm} (h : OwnC w b v c) (hb : b' ≤ b) : OwnC w b' v c := by
  obtain ⟨cs, h1, h2⟩ := h
  exact ⟨cs, own_base h1 hb, HoldO.lower hb h2⟩
end Go.Proofs.Ytinglfhndlklaaa.Clocks
