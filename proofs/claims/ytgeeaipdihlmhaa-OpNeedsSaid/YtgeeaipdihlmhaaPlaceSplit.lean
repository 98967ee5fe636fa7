/- octavo/place: cut, orNext: what each answers. Conditions: the numbers fit; the slice's cells are runs. -/
import Derived.Test.YtgeeaipdihlmhaaPlaceFn
import Derived.Test.YtgeeaipdihlmhaaPlaceCut
namespace Go.Proofs.Ytgeeaipdihlmhaa.Place
open Go.RowKit Stamp
attribute [local go_sem ↓] Go.wp_at_zero Go.wp_at_succ

set_option maxHeartbeats 1000000 in
theorem pcut_any (t r : Nat) (m : Int) (n : Nat) (ht : t + n ≤ 1073750000) (hm : 0 ≤ m ∧ m ≤ 4096) (hn : n ≤ 4096) (w : World) :
    Calls Try.prog 55 #[.agg #[.int .u32 (t : Int), .int .u8 (r : Int), .int .i64 m], .int .i64 (n : Int)] w fun e w' => e = .returned (.tuple #[.agg #[.int .u32 (t : Int), .int .u8 (r : Int), .int .i64 (n : Int)], .agg #[.int .u32 ((t : Int) + (n : Int)), .int .u8 (r : Int), .int .i64 (m - n)]]) ∧ Below w.heap.size w w' := by
  have e1 : IntKind.u32.wrap ((t : Int) + (n : Int)) = (t : Int) + (n : Int) := by rw [IntKind.wrap_u32]; omega
  have e2 : IntKind.i64.wrap (m - (n : Int)) = m - (n : Int) := IntWalk.i64_in _ (by omega)
  have e3 : IntKind.u32.wrap (n : Int) = (n : Int) := by rw [IntKind.wrap_u32]; omega
  have e4 : (n : Int) ≤ 4096 := by omega
  obtain ⟨o1, o2⟩ := hm
  have BW := Lib.hid (((Below.refl w.heap.size w).alloc (Nat.le_refl _) (.cells #[.int .u32 (t : Int), .int .u8 (r : Int), .int .i64 m] 24)).alloc (by simp) (.cells #[.int .u32 0, .int .u8 0, .int .i64 0] 24))
  go_enter Try.func55, Try.ntmps55
  go_wp2
  go_region
  go_wp2
  refine bodyPost_ret (v := .tuple #[.agg #[.int .u32 (t : Int), .int .u8 (r : Int), .int .i64 (n : Int)], .agg #[.int .u32 ((t : Int) + (n : Int)), .int .u8 (r : Int), .int .i64 (m - n)]]) (by simp [results, Try.results55, go_sem]) rfl ⟨rfl, ?_⟩
  exact ((((Below.refl _ _).alloc (Nat.le_refl _) _).alloc (by simp) _).alloc (by simp; omega) _).drew

/-- The run to go on with, and the runs behind. -/
def nx (x : Run) : List Run → Run × List Run
  | [] => (x, [])
  | y :: q => if 0 < x.m then (x, y :: q) else (y, q)
set_option maxHeartbeats 1000000 in
theorem orNext_any {v : Value} {x : Run} {p : List Run} {w : World} (hv : Runs w v p) :
    Calls Try.prog 54 #[.agg #[.int .u32 (x.t : Int), .int .u8 (x.r : Int), .int .i64 x.m], v] w fun e w' => ∃ v', e = .returned (.tuple #[.agg #[.int .u32 ((nx x p).1.t : Int), .int .u8 ((nx x p).1.r : Int), .int .i64 (nx x p).1.m], v']) ∧ (∀ W : World, Runs W v p → Runs W v' (nx x p).2) ∧ Below w.heap.size w w' := by
  obtain ⟨ao, cap, rfl⟩ := hv.shape
  have HV := Lib.hid hv
  have B2 := Lib.hid (((Below.refl w.heap.size w).alloc (Nat.le_refl _) (.cells #[.int .u32 (x.t : Int), .int .u8 (x.r : Int), .int .i64 x.m] 24)).alloc (by simp) (.cells #[.int .u32 (x.t : Int), .int .u8 (x.r : Int), .int .i64 x.m] 24))
  by_cases hm : 0 < x.m
  · have e : nx x p = (x, p) := by cases p with | nil => rfl | cons y q => simp [nx, hm]
    rw [e]
    have t1 : decide (0 < x.m) = true := decide_eq_true hm
    obtain ⟨t, r, m, ht, hr, hmm⟩ := x
    simp only at t1 B2 ⊢
    clear e hm hv
    go_enter Try.func54, Try.ntmps54
    go_wp2
    refine bodyPost_ret (v := .tuple #[.agg #[.int .u32 (t : Int), .int .u8 (r : Int), .int .i64 m], .slice ao p.length cap]) (by simp [results, Try.results54, go_sem]) rfl ⟨_, rfl, fun W hW => hW, B2.out⟩
  · have t1 : decide (0 < x.m) = false := decide_eq_false hm
    cases p with
    | nil =>
      have e : nx x [] = (x, []) := rfl
      rw [e]
      obtain ⟨t, r, m, ht, hr, hmm⟩ := x
      simp only [List.length_nil] at t1 B2 HV ⊢
      clear e hm hv
      go_enter Try.func54, Try.ntmps54
      go_wp2
      refine bodyPost_ret (v := .tuple #[.agg #[.int .u32 (t : Int), .int .u8 (r : Int), .int .i64 m], .slice ao 0 cap]) (by simp [results, Try.results54, go_sem]) rfl ⟨_, rfl, fun W hW => hW, B2.out⟩
    | cons y q =>
      have e : nx x (y :: q) = (y, q) := by simp [nx, hm]
      rw [e]
      obtain ⟨b, off, rfl, hb, hx0, hx1, hx2⟩ := hv.at 0 (by simp)
      have hcap := Sees.cap hv
      have RT : Hid (∀ W : World, Runs W (.slice (some ⟨b, off, none⟩) (y :: q).length cap) (y :: q) → Runs W (.slice (some (if cap = 1 then ⟨b, off, none⟩ else ⟨b, off + 3, none⟩)) ((y :: q).length - 1) (cap - 1)) q) := fun W hW => Runs.rest hW
      obtain ⟨n, hn⟩ : ∃ n, n = (y :: q).length := ⟨_, rfl⟩
      rw [← hn] at hcap RT HV ⊢
      have hx0 : w.cell? ⟨b, off, none⟩ = some (.int .u32 (y.t : Int)) := by simpa using hx0
      have hx1 : w.cell? ⟨b, off + 1, none⟩ = some (.int .u8 (y.r : Int)) := by simpa using hx1
      have hx2 : w.cell? ⟨b, off + 2, none⟩ = some (.int .i64 y.m) := by simpa using hx2
      obtain ⟨t, r, m, ht, hr, hmm⟩ := x
      obtain ⟨yt, yr, ym, hyt, hyr, hym⟩ := y
      simp only at hx0 hx1 hx2 t1 ⊢
      have hl1 : 1 ≤ n := by rw [hn]; simp
      have q0 : 0 < n := hl1
      have q1 : (0 : Int) < (n : Int) := by omega
      have q2 : (1 : Int) ≤ (n : Int) := by omega
      have q3 : ((n : Int) == 0) = false := by simp; omega
      have q4 : ¬ n = 0 := by omega
      have hlc : n ≤ cap := hcap.2.1
      have hcm : cap ≤ 9223372036854775807 := hcap.2.2.1
      have hb1 : ¬ b = w.heap.size := by omega
      have hb2 : ¬ b = w.heap.size + 1 := by omega
      have BW := Lib.hid ((((Below.refl w.heap.size w).alloc (Nat.le_refl _) (.cells #[.int .u32 (t : Int), .int .u8 (r : Int), .int .i64 m] 24)).alloc (by simp) (.cells #[.int .u32 (yt : Int), .int .u8 (yr : Int), .int .i64 ym] 24)).drew)
      clear e hm hv hn hcap B2
      by_cases hc : cap = 1
      · subst hc
        obtain rfl : n = 1 := by omega
        go_enter Try.func54, Try.ntmps54
        go_wp2
        go_region
        go_wp2
        refine bodyPost_ret (v := .tuple #[.agg #[.int .u32 (yt : Int), .int .u8 (yr : Int), .int .i64 ym], .slice (some ⟨b, off, none⟩) 0 0]) (by simp [results, Try.results54, go_sem]) rfl ⟨_, rfl, fun W hW => ?_, BW.out⟩
        have h := RT.out W hW
        simp only [if_true] at h
        exact h
      · have hc' : (1 : Int) < (cap : Int) := by omega
        have RT2 : Hid (∀ W : World, Runs W (.slice (some ⟨b, off, none⟩) n cap) (⟨yt, yr, ym, hyt, hyr, hym⟩ :: q) → Runs W (.slice (some ⟨b, off + 3, none⟩) (n - 1) (cap - 1)) q) := fun W hW => by
          have := RT.out W hW
          rwa [if_neg hc] at this
        clear RT
        go_enter Try.func54, Try.ntmps54
        go_wp2
        go_region
        go_wp2
        refine bodyPost_ret (v := .tuple #[.agg #[.int .u32 (yt : Int), .int .u8 (yr : Int), .int .i64 ym], .slice (some ⟨b, off + 3, none⟩) (n - 1) (cap - 1)]) (by simp [results, Try.results54, go_sem]) rfl ⟨_, rfl, RT2.out, BW.out⟩
end Go.Proofs.Ytgeeaipdihlmhaa.Place
