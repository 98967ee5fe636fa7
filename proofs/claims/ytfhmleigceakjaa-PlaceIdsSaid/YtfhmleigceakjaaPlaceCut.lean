/- octavoref06.cut, Held, First: what each answers. Conditions: the slices' cells are runs that may stand one behind the other. -/
import Derived.Test.YtfhmleigceakjaaPlaceMay
import Derived.Test.YtfhmleigceakjaaStampMath
namespace Go.Proofs.Ytfhmleigceakjaa.Place
open Go.RowKit Stamp
attribute [local go_sem ↓] Go.wp_at_zero Go.wp_at_succ

theorem own_blk3 {X : World} {base g : Nat} {e : TypeId} {c0 c1 c2 : Value} (hb : base ≤ g) (h : X.heap[g]? = some (.cells #[c0, c1, c2] e)) : X.ownsRow base e 3 (.slice (some ⟨g, 0, none⟩) 1 1) 1 [c0, c1, c2] :=
  ⟨rfl, .inr ⟨g, 1, #[c0, c1, c2], rfl, hb, h, Nat.le_refl _, by decide, rfl, rfl⟩⟩
theorem keep3 {wl w1 w2 : World} {b o1 o2 o3 : Nat} {c1 c2 c3 : Value} (q : b < wl.heap.size ∧ wl.cell? ⟨b, o1, none⟩ = some c1 ∧ wl.cell? ⟨b, o2, none⟩ = some c2 ∧ wl.cell? ⟨b, o3, none⟩ = some c3) (h : Below w1.heap.size w1 w2) (hb : Below wl.heap.size wl w1) :
    Below wl.heap.size wl w2 ∧ w2.cell? ⟨b, o1, none⟩ = some c1 ∧ w2.cell? ⟨b, o2, none⟩ = some c2 ∧ w2.cell? ⟨b, o3, none⟩ = some c3 :=
  have a := bt hb h
  ⟨a, (a.cell (p := ⟨b, o1, none⟩) q.1).trans q.2.1, (a.cell (p := ⟨b, o2, none⟩) q.1).trans q.2.2.1, (a.cell (p := ⟨b, o3, none⟩) q.1).trans q.2.2.2⟩

/-- What is behind the first run. -/
theorem Runs.rest {w : World} {b off n cap : Nat} {x : Run} {q : List Run} (h : Runs w (.slice (some ⟨b, off, none⟩) n cap) (x :: q)) : Runs w (.slice (some (if cap = 1 then ⟨b, off, none⟩ else ⟨b, off + 3, none⟩)) (n - 1) (cap - 1)) q := by
  have hcap := Sees.cap h
  by_cases hc : cap = 1
  · rw [if_pos hc]
    have hq : q = [] := by
      cases q with
      | nil => rfl
      | cons y q => simp at hcap; omega
    subst hq
    refine ⟨rfl, some ⟨b, off, none⟩, cap - 1, by simp at hcap; simp [hcap.1], by simp, by omega, by simp, .inl rfl⟩
  · rw [if_neg hc]
    have := Go.Proofs.Ytfhmleigceakjaa.Runs.tail h (k := 1) (by simp)
    simpa using this

/-- A run's cells, in the midst of a block. -/
def Pos3 (w : World) (b off t r : Nat) (m : Int) : Prop := b < w.heap.size ∧ w.cell? ⟨b, off, none⟩ = some (.int .u32 (t : Int)) ∧ w.cell? ⟨b, off + 1, none⟩ = some (.int .u8 (r : Int)) ∧ w.cell? ⟨b, off + 2, none⟩ = some (.int .i64 m)

set_option maxHeartbeats 2000000 in
theorem cut_any {v : Value} {x : Run} {q : List Run} {w : World} {n : Nat} (hv : Runs w v (x :: q)) (hl : q.length ≤ 1000) (hx : One x) (h1 : 1 ≤ n) (hn : (n : Int) ≤ x.m) :
    Calls Try.prog 55 #[v, .int .i64 (n : Int)] w fun e w' => ∃ v', e = .returned v' ∧ Runs w' v' (cut x q n) ∧ Below w.heap.size w w' := by
  obtain ⟨ao, cap, rfl⟩ := hv.shape
  obtain ⟨b, off, rfl, hb, hx0, hx1, hx2⟩ := hv.at 0 (by simp)
  have hcap := Sees.cap hv
  have RT := Lib.hid (Runs.rest hv)
  obtain ⟨len, hlen⟩ : ∃ len, len = (x :: q).length := ⟨_, rfl⟩
  have hlen2 : len = q.length + 1 := by rw [hlen]; simp
  rw [← hlen] at hcap RT ⊢
  have hx0 : w.cell? ⟨b, off, none⟩ = some (.int .u32 (x.t : Int)) := by simpa using hx0
  have hx1 : w.cell? ⟨b, off + 1, none⟩ = some (.int .u8 (x.r : Int)) := by simpa using hx1
  have hx2 : w.cell? ⟨b, off + 2, none⟩ = some (.int .i64 x.m) := by simpa using hx2
  obtain ⟨t, r, m, ht, hr, hm⟩ := x
  simp only at hx0 hx1 hx2 hn
  have hone := hx
  unfold One at hone
  simp only at hone
  have hl1 : 1 ≤ len := by omega
  have hlc : len ≤ cap := hcap.2.1
  have hcm : cap ≤ 9223372036854775807 := hcap.2.2.1
  by_cases he : m = (n : Int)
  · have hcut : cut ⟨t, r, m, ht, hr, hm⟩ q n = q := by unfold cut; simp only; rw [if_pos he]
    have HC := Lib.hid hcut
    subst he
    clear hv hcut hlen hlen2 hcap hx hone hx0 hx1
    by_cases hc : cap = 1
    · subst hc
      obtain rfl : len = 1 := by omega
      go_enter Try.func55, Try.ntmps55
      go_wp2
      go_ret
      refine ⟨_, rfl, ?_, Below.refl _ _⟩
      rw [HC.out]
      have := RT.out
      simpa using this
    · have hc' : (1 : Int) < (cap : Int) := by omega
      have RT2 : Hid (Runs w (.slice (some ⟨b, off + 3, none⟩) (len - 1) (cap - 1)) q) := by
        have := RT.out
        rwa [if_neg hc] at this
      clear RT
      go_enter Try.func55, Try.ntmps55
      go_wp2
      go_ret
      refine ⟨_, rfl, ?_, Below.refl _ _⟩
      rw [HC.out]
      have := RT2.out
      simpa [hc] using this
  · have hlt : (n : Int) < m := by omega
    have hcut : cut ⟨t, r, m, ht, hr, hm⟩ q n = mkRun (t + n) r (m - n) :: q := by unfold cut; simp only; rw [if_neg he]
    have HC := Lib.hid hcut
    have u1 : ((m : Int) == (n : Int)) = false := by simp; omega
    have hrn : runs (mkRun (t + n) r (m - n) :: q) = .int .u32 ((t : Int) + n) :: .int .u8 (r : Int) :: .int .i64 (m - n) :: runs q := by
      rw [runs, mkRun_t (by omega), mkRun_r hr, mkRun_m (by omega)]
      rfl
    have HR := Lib.hid hrn
    have HV : Hid (Pos3 w b off t r m) := ⟨hb, hx0, hx1, hx2⟩
    have HL := Lib.hid hlen2
    obtain ⟨o1, o2, o3, o4, o5, o6⟩ := hone
    have e1 : IntKind.u32.wrap ((t : Int) + (n : Int)) = (t : Int) + (n : Int) := by rw [IntKind.wrap_u32]; omega
    have e2 : IntKind.i64.wrap (m - (n : Int)) = m - (n : Int) := IntWalk.i64_in _ (by omega)
    have e3 : IntKind.u32.wrap (n : Int) = (n : Int) := by rw [IntKind.wrap_u32]; omega
    have q0 : 0 < len := by omega
    have q1 : (0 : Int) < (len : Int) := by omega
    have BW : Hid (Below w.heap.size w ((w.alloc (.cells #[.int .u32 ((t : Int) + n), .int .u8 (r : Int), .int .i64 (m - n)] 29)).drew)) := ((Below.refl _ _).alloc (Nat.le_refl _) _).drew
    have OW : Hid (((w.alloc (.cells #[.int .u32 ((t : Int) + n), .int .u8 (r : Int), .int .i64 (m - n)] 29)).drew).ownsRow w.heap.size 29 3 (.slice (some ⟨w.heap.size, 0, none⟩) 1 1) 1 [.int .u32 ((t : Int) + n), .int .u8 (r : Int), .int .i64 (m - n)]) :=
      own_blk3 (Nat.le_refl _) (blk_drew (blk_new rfl))
    have hlq : q.length = len - 1 := by omega
    clear hv hcut hrn hlen hlen2 hcap hx he hlt hx0 hx1 hx2
    by_cases hc : cap = 1
    · subst hc
      obtain rfl : len = 1 := by omega
      have SQ : Hid (Sees ((w.alloc (.cells #[.int .u32 ((t : Int) + n), .int .u8 (r : Int), .int .i64 (m - n)] 29)).drew) (.slice (some ⟨b, off, none⟩) 0 0) 3 0 (runs q)) := by
        have h := RT.out.keeps BW.out
        unfold Runs at h
        rw [hlq] at h
        unfold Hid
        simpa using h
      clear RT hlq
      go_enter Try.func55, Try.ntmps55
      go_wp2
      go_region_held3 (fun w' => Below w.heap.size w w' ∧ w'.cell? ⟨b, off, none⟩ = some (.int .u32 (t : Int)) ∧ w'.cell? ⟨b, off + 1, none⟩ = some (.int .u8 (r : Int)) ∧ w'.cell? ⟨b, off + 2, none⟩ = some (.int .i64 m))
        (first | exact keep3 HV.out (drew1 _) (Below.refl _ _) | (go_split_ands; exact keep3 HV.out (drew1 _) (by assumption)) | (go_split_ands; exact keep3 HV.out ((Below.refl _ _).alloc (Nat.le_refl _) _) (by assumption)) | (go_split_ands; exact keep3 HV.out (((Below.refl _ _).alloc (Nat.le_refl _) _).drew) (by assumption)))
        (fail)
      go_wp2_with (at_builtin; refine wpList_append_sees rfl (.tmp 33) (.tmp 35) 22 29 rfl Try.underlying22 run_info rfl (by decide) w.heap.size _ 1 _ rfl OW.out _ 0 _ rfl SQ.out (runs_oneCell q) ?k1 ?k2 ?k3 ?_)
      case k1 => omega
      case k2 => omega
      case k3 => exact BW.out.size
      rintro v1 w1 o1 g1 b1
      have B1 := Lib.hid (BW.out.trans b1)
      have O1 := Lib.hid o1
      clear o1 g1 b1
      go_wp2
      go_ret
      refine ⟨_, rfl, ?_, B1.out⟩
      rw [HC.out]
      have h := O1.out
      rw [← HR.out] at h
      exact Go.Proofs.Ytfhmleigceakjaa.Runs.own h
    · have hc' : (1 : Int) < (cap : Int) := by omega
      have SQ : Hid (Sees ((w.alloc (.cells #[.int .u32 ((t : Int) + n), .int .u8 (r : Int), .int .i64 (m - n)] 29)).drew) (.slice (some ⟨b, off + 3, none⟩) (len - 1) (cap - 1)) 3 (len - 1) (runs q)) := by
        have h := RT.out.keeps BW.out
        unfold Runs at h
        rw [hlq, if_neg hc] at h
        exact h
      clear RT hlq
      go_enter Try.func55, Try.ntmps55
      go_wp2
      go_region_held3 (fun w' => Below w.heap.size w w' ∧ w'.cell? ⟨b, off, none⟩ = some (.int .u32 (t : Int)) ∧ w'.cell? ⟨b, off + 1, none⟩ = some (.int .u8 (r : Int)) ∧ w'.cell? ⟨b, off + 2, none⟩ = some (.int .i64 m))
        (first | exact keep3 HV.out (drew1 _) (Below.refl _ _) | (go_split_ands; exact keep3 HV.out (drew1 _) (by assumption)) | (go_split_ands; exact keep3 HV.out ((Below.refl _ _).alloc (Nat.le_refl _) _) (by assumption)) | (go_split_ands; exact keep3 HV.out (((Below.refl _ _).alloc (Nat.le_refl _) _).drew) (by assumption)))
        (fail)
      go_wp2_with (at_builtin; refine wpList_append_sees rfl (.tmp 33) (.tmp 35) 22 29 rfl Try.underlying22 run_info rfl (by decide) w.heap.size _ 1 _ rfl OW.out _ (len - 1) _ rfl SQ.out (runs_oneCell q) ?k1 ?k2 ?k3 ?_)
      case k1 => have := HL.out; omega
      case k2 => have := HL.out; omega
      case k3 => exact BW.out.size
      rintro v1 w1 o1 g1 b1
      have B1 := Lib.hid (BW.out.trans b1)
      have O1 := Lib.hid o1
      clear o1 g1 b1
      go_wp2
      go_ret
      refine ⟨_, rfl, ?_, B1.out⟩
      rw [HC.out]
      have h := O1.out
      rw [← HR.out] at h
      exact Go.Proofs.Ytfhmleigceakjaa.Runs.own h
end Go.Proofs.Ytfhmleigceakjaa.Place
