/- octavoref07: Many, May, Check, Has, Count, told: what each answers. Conditions: the slices' cells are spans. -/
import Derived.Test.YtinglfhndlklaaaSpanRef
namespace Go.Proofs.Ytinglfhndlklaaa.Spans
open Go.RowKit
attribute [local go_sem ↓] Go.wp_at_zero Go.wp_at_succ

theorem many_le' {l : List Sp} (h : ∀ x ∈ l, Ok x) : many l ≤ 1073741824 * l.length := by
  induction l with
  | nil => simp [many]
  | cons y l ih =>
    have h1 := ih (fun x hx => h x (by simp [hx]))
    have h2 := h y (by simp)
    unfold Ok at h2
    simp only [many, List.length_cons]
    omega
set_option maxHeartbeats 1000000 in
theorem refMany_any {v : Value} {l : List Sp} {w : World} (hv : Sps w v l) (hf : Fine l) (hl : l.length ≤ 3000) :
    Calls Try.prog 76 #[v] w fun e w' => e = .returned (.int .i64 (many l : Int)) ∧ Below w.heap.size w w' := by
  obtain ⟨ao, cap, rfl⟩ := hv.shape
  obtain ⟨n, hn⟩ : ∃ n, n = l.length := ⟨_, rfl⟩
  have HV := Lib.hid hv
  have HN := Lib.hid hn
  have HF := Lib.hid hf
  rw [← hn] at hl ⊢
  clear hv hn hf
  go_enter Try.func76, Try.ntmps76
  go_wp2
  go_loopw [3, 4] (fun s i wr => ∃ k m : Nat, k ≤ n ∧ i = .int .i64 (k : Int) ∧ s = .int .i64 (m : Int) ∧ m ≤ 1073741824 * k ∧ Hid (m = many (l.take k)) ∧ ∃ q, wr = w.drewN q) (fun _ i _ => n - (intOf i).toNat)
  case atStart => exact ⟨0, 0, by omega, rfl, rfl, by omega, Lib.hid rfl, 0, rfl⟩
  case round =>
    obtain ⟨k, m, hk, rfl, rfl, hm, hmany, q, rfl⟩ := hrel
    by_cases hkn : k < n
    · have q1 : decide (k < n) = true := by simpa using hkn
      obtain ⟨b1, o1, rfl, hb1, ha0, ha1⟩ := HV.out.at k (by rw [← HN.out]; exact hkn)
      have hs := take_snoc l k (by rw [← HN.out]; exact hkn)
      have hok := fine_ok HF.out (k := k) (by rw [← HN.out]; exact hkn)
      obtain ⟨x, hx⟩ : ∃ x, x = l.getD k zsp := ⟨_, rfl⟩
      rw [← hx] at ha0 ha1 hs hok
      have hmn := many_snoc (l.take k) x
      rw [← hs, ← hmany.out] at hmn
      obtain ⟨xf, xt, _, _⟩ := x
      unfold Ok at hok
      simp only at ha0 ha1 hmn hok
      obtain ⟨o1', o2, o3⟩ := hok
      obtain ⟨d, hd⟩ : ∃ d : Nat, d = xt - xf := ⟨_, rfl⟩
      have e1 : (xt : Int) - (xf : Int) = (d : Int) := by omega
      have e2 : IntKind.u32.wrap (d : Int) = (d : Int) := by rw [IntKind.wrap_u32]; omega
      have e3 : IntKind.i64.wrap (d : Int) = (d : Int) := IntWalk.i64_in _ (by omega)
      have e4 : IntKind.i64.wrap ((d : Int) + 1) = (d : Int) + 1 := IntWalk.i64_in _ (by omega)
      have e5 : IntKind.i64.wrap ((m : Int) + ((d : Int) + 1)) = (m : Int) + ((d : Int) + 1) := IntWalk.i64_in _ (by omega)
      have HM2 : Hid (m + (d + 1) = many (l.take (k + 1))) := by show _ = _; rw [hmn, hd]
      have hb2 : m + (d + 1) ≤ 1073741824 * (k + 1) := by omega
      have q2 : (0 : Int) ≤ (k : Int) := by omega
      have q3 : (k : Int) < (n : Int) := by omega
      clear hx hs hmn hd
      go_wp2
      go_quiet (fail)
      go_wp2
      go_roundw
      case rel => exact ⟨k + 1, m + (d + 1), by omega, by go_num, by go_num, hb2, HM2, _, rfl⟩
      case measure => simp [intOf]; omega
    · have q1 : decide (k < n) = false := by simpa using hkn
      have hkk : l.take k = l := List.take_of_length_le (by have := HN.out; omega)
      have hf : m = many l := by have := hmany.out; rwa [hkk] at this
      subst hf
      clear hkk
      go_wp2
      go_ret
      exact ⟨rfl, below_draw (Below.refl _ _) _⟩

set_option maxRecDepth 100000 in
set_option maxHeartbeats 4000000 in
theorem refMay_drawn {v : Value} {l : List Sp} {w : World} (hv : Sps w v l) :
    Calls Try.prog 71 #[v] w fun e w' => e = .returned (.bool (mayB l)) ∧ ∃ m, w' = w.drewN m := by
  obtain ⟨ao, cap, rfl⟩ := hv.shape
  obtain ⟨n, hn⟩ : ∃ n, n = l.length := ⟨_, rfl⟩
  have hm : n ≤ 9223372036854775807 := by rw [hn]; exact Sees.max hv
  have HV := Lib.hid hv
  have HN := Lib.hid hn
  rw [← hn]
  clear hv hn
  go_enter Try.func71, Try.ntmps71
  go_wp2
  go_loopw [3] (fun i wr => ∃ k : Nat, k ≤ n ∧ i = .int .i64 (k : Int) ∧ Hid (Fine (l.take k)) ∧ ∃ q, wr = w.drewN q) (fun i _ => n - (intOf i).toNat)
  case atStart => exact ⟨0, by omega, rfl, Lib.hid (by simp [Fine]), 0, rfl⟩
  case round =>
    obtain ⟨k, hk, rfl, hch, q, rfl⟩ := hrel
    by_cases hkn : k < n
    · have q1 : decide (k < n) = true := by simpa using hkn
      have q2 : (0 : Int) ≤ (k : Int) := by omega
      have q3 : (k : Int) < (n : Int) := by omega
      obtain ⟨b1, o1, rfl, hb1, ha0, ha1⟩ := HV.out.at k (by rw [← HN.out]; exact hkn)
      obtain ⟨x, hx⟩ : ∃ x, x = l.getD k zsp := ⟨_, rfl⟩
      rw [← hx] at ha0 ha1
      have hno1 : ¬ Ok x → mayB l = false := fun h => mayB_no (fun hF => h (by rw [hx]; exact fine_ok hF (by rw [← HN.out]; exact hkn)))
      have HNo1 := Lib.hid hno1
      have HX := Lib.hid hx
      obtain ⟨xf, xt, hxf, hxt⟩ := x
      simp only at ha0 ha1
      clear hno1 hx
      by_cases h1 : xf < 1
      · have s1 : decide ((xf : Int) < 1) = true := decide_eq_true (by omega)
        have HR : Hid (mayB l = false) := HNo1.out (fun h => by unfold Ok at h; simp only at h; omega)
        obtain rfl : xf = 0 := by omega
        go_wp2
        go_quiet (fail)
        go_wp2
        go_ret
        exact ⟨by rw [HR.out]; rfl, _, by rw [World.drewN_drewN]⟩
      have s1 : decide ((xf : Int) < 1) = false := decide_eq_false (by omega)
      have s1' : ¬ xf = 0 := by omega
      by_cases h2 : xt < xf
      · have s2 : decide ((xt : Int) < (xf : Int)) = true := decide_eq_true (by omega)
        have s3 : decide (xt < xf) = true := decide_eq_true h2
        have HR : Hid (mayB l = false) := HNo1.out (fun h => by unfold Ok at h; simp only at h; omega)
        go_wp2
        go_quiet (fail)
        go_wp2
        go_ret
        exact ⟨by rw [HR.out]; rfl, _, by rw [World.drewN_drewN]⟩
      have s2 : decide ((xt : Int) < (xf : Int)) = false := decide_eq_false (by omega)
      have s3 : decide (xt < xf) = false := decide_eq_false h2
      by_cases h3 : 1073741824 < xt
      · have s4 : decide ((1073741824 : Int) < (xt : Int)) = true := decide_eq_true (by omega)
        have s5 : decide (1073741824 < xt) = true := decide_eq_true h3
        have HR : Hid (mayB l = false) := HNo1.out (fun h => by unfold Ok at h; simp only at h; omega)
        go_wp2
        go_quiet (fail)
        go_wp2
        go_ret
        exact ⟨by rw [HR.out]; rfl, _, by rw [World.drewN_drewN]⟩
      have s4 : decide ((1073741824 : Int) < (xt : Int)) = false := decide_eq_false (by omega)
      have s5 : decide (1073741824 < xt) = false := decide_eq_false h3
      have hOk : Ok (l.getD k zsp) := by rw [← HX.out]; unfold Ok; simp only; omega
      by_cases h0 : k = 0
      · have g1 : decide ((0 : Int) < (k : Int)) = false := decide_eq_false (by omega)
        have g2 : decide (0 < k) = false := decide_eq_false (by omega)
        have HC : Hid (Fine (l.take (k + 1))) := fine_take_succ (by rw [← HN.out]; exact hkn) hch.out hOk (.inl h0)
        clear h0 hOk
        go_wp2
        go_quiet (fail)
        go_wp2
        go_roundw
        case rel => exact ⟨k + 1, by omega, by go_num, HC, _, rfl⟩
        case measure => simp [intOf]; omega
      · obtain ⟨j, hj⟩ : ∃ j, k = j + 1 := ⟨k - 1, by omega⟩
        have g1 : decide ((0 : Int) < (k : Int)) = true := decide_eq_true (by omega)
        have g2 : decide (0 < k) = true := decide_eq_true (by omega)
        obtain ⟨b2, o2, he, hb2, hy0, hy1⟩ := HV.out.at j (by rw [← HN.out]; omega)
        obtain ⟨rfl, rfl⟩ : b1 = b2 ∧ o1 = o2 := by simpa using he
        obtain ⟨y, hy⟩ : ∃ y, y = l.getD j zsp := ⟨_, rfl⟩
        rw [← hy] at hy0 hy1
        have hyes : y.t + 2 ≤ xf → Fine (l.take (k + 1)) := fun h => by
          refine fine_take_succ (by rw [← HN.out]; exact hkn) hch.out hOk (.inr ?_)
          rw [show k - 1 = j by omega, ← hy, ← HX.out]
          exact h
        have hno : ¬ y.t + 2 ≤ xf → mayB l = false := fun h => mayB_no (fun hF => h (by
          have := fine_next hF (k := j) (by rw [← HN.out]; omega)
          rw [← hj, ← hy, ← HX.out] at this
          exact this))
        have HYes := Lib.hid hyes
        have HNo := Lib.hid hno
        obtain ⟨yf, yt, hyf, hyt⟩ := y
        simp only at hy0 hy1 HYes HNo
        have i1 : (k : Int) - 1 = (j : Int) := by omega
        have i2 : IntKind.i64.wrap (j : Int) = (j : Int) := IntWalk.i64_in _ (by omega)
        have i3 : (0 : Int) ≤ (j : Int) := by omega
        have i4 : (j : Int) < (n : Int) := by omega
        have e1 : IntKind.i64.wrap (xf : Int) = (xf : Int) := IntWalk.i64_in _ (by omega)
        have e2 : IntKind.i64.wrap (yt : Int) = (yt : Int) := IntWalk.i64_in _ (by omega)
        have e3 : IntKind.i64.wrap ((yt : Int) + 2) = (yt : Int) + 2 := IntWalk.i64_in _ (by omega)
        clear h0 hOk hj he hy hyes hno
        by_cases h5 : xf < yt + 2
        · have s6 : decide ((xf : Int) < (yt : Int) + 2) = true := decide_eq_true (by omega)
          have HR : Hid (mayB l = false) := HNo.out (by omega)
          clear HYes HNo
          go_wp2
          go_quiet (fail)
          go_wp2
          go_ret
          exact ⟨by rw [HR.out]; rfl, _, by rw [World.drewN_drewN]⟩
        · have s6 : decide ((xf : Int) < (yt : Int) + 2) = false := decide_eq_false (by omega)
          have HC : Hid (Fine (l.take (k + 1))) := HYes.out (by omega)
          clear HYes HNo
          go_wp2
          go_quiet (fail)
          go_wp2
          go_roundw
          case rel => exact ⟨k + 1, by omega, by go_num, HC, _, rfl⟩
          case measure => simp [intOf]; omega
    · have q1 : decide (k < n) = false := by simpa using hkn
      have hkk : l.take k = l := List.take_of_length_le (by have := HN.out; omega)
      have hF : fineB l = true := (fineB_iff l).2 (by have := hch.out; rwa [hkk] at this)
      obtain ⟨qb, hqb⟩ : ∃ qb, decide (n ≤ 1024) = qb := ⟨_, rfl⟩
      have HR : Hid (mayB l = qb) := by show _ = _; unfold mayB; rw [hF, ← HN.out, hqb]; rfl
      have t1 : decide ((n : Int) ≤ 1024) = qb := by rw [← hqb, decide_eq_decide]; omega
      clear hkk hF
      cases qb
      · go_wp2
        go_ret
        exact ⟨by rw [HR.out]; rfl, _, rfl⟩
      · go_wp2
        go_ret
        exact ⟨by rw [HR.out]; rfl, _, rfl⟩
theorem refMay_any {v : Value} {l : List Sp} {w : World} (hv : Sps w v l) :
    Calls Try.prog 71 #[v] w fun e w' => e = .returned (.bool (mayB l)) ∧ Below w.heap.size w w' :=
  (refMay_drawn hv).mono fun _ _ ⟨he, m, hm⟩ => ⟨he, by rw [hm]; exact below_draw (Below.refl _ _) m⟩
theorem refMay_is {v : Value} {l : List Sp} {w : World} (hv : Sps w v l) {b : Bool} (h : mayB l = b) :
    Calls Try.prog 71 #[v] w fun e w' => e = .returned (.bool b) ∧ Below w.heap.size w w' := by
  rw [← h]; exact refMay_any hv

def chk (l : List Sp) : Int := if mayB l = true then 0 else 8
def has (l : List Sp) (t : Nat) : Bool := mayB l && inB l t
def count (l : List Sp) : Nat := if mayB l = true then many l else 0
/-- What is told: spans, if they are not too many. -/
def told (l : List Sp) : List Sp × Int := if 1024 < l.length then ([], 4) else (l, 0)
end Go.Proofs.Ytinglfhndlklaaa.Spans
