/- octavo/span: Has with what it calls, the two choosers, upFrom, next, with, stretches: what each answers. Conditions: the slices' cells are spans. -/
import Derived.Test.YtinglfhndlklaaaSpanCode1
import Derived.Shelf.Abstract
namespace Go.Proofs.Ytinglfhndlklaaa.Spans
open Go.RowKit Go.Shelf
attribute [local go_sem ↓] Go.wp_at_zero Go.wp_at_succ

/-! ### Has -/
theorem hasOne_any (x : Sp) (t B : Nat) {w : World} (hc : w.cell? ⟨B, 0, none⟩ = some (.int .u32 (t : Int))) (hB : B < w.heap.size) :
    Calls Try.prog 79 #[.agg #[.int .u32 (x.f : Int), .int .u32 (x.t : Int)], .pointer (some ⟨B, 0, none⟩)] w fun e w' => e = .returned (.bool (decide (x.f ≤ t ∧ t ≤ x.t))) ∧ Below w.heap.size w w' := by
  obtain ⟨f, u, _, _⟩ := x
  simp only
  have c0 := (((Below.refl w.heap.size w).alloc (Nat.le_refl _) (.cells #[.int .u32 (f : Int), .int .u32 (u : Int)] 63)).cell (p := ⟨B, 0, none⟩) hB).trans hc
  clear hc
  by_cases h1 : f ≤ t
  · have s1 : decide ((f : Int) ≤ (t : Int)) = true := decide_eq_true (by omega)
    have s2 : decide (f ≤ t) = true := decide_eq_true h1
    by_cases h2 : t ≤ u
    · have s3 : decide ((t : Int) ≤ (u : Int)) = true := decide_eq_true (by omega)
      have s4 : decide (t ≤ u) = true := decide_eq_true h2
      rw [decide_eq_true (p := f ≤ t ∧ t ≤ u) ⟨h1, h2⟩]
      go_enter Try.func79, Try.ntmps79
      go_wp2
      go_ret
      exact ⟨rfl, (Below.refl _ _).alloc (Nat.le_refl _) _⟩
    · have s3 : decide ((t : Int) ≤ (u : Int)) = false := decide_eq_false (by omega)
      have s4 : decide (t ≤ u) = false := decide_eq_false h2
      rw [decide_eq_false (p := f ≤ t ∧ t ≤ u) (fun h => h2 h.2)]
      go_enter Try.func79, Try.ntmps79
      go_wp2
      go_ret
      exact ⟨rfl, (Below.refl _ _).alloc (Nat.le_refl _) _⟩
  · have s1 : decide ((f : Int) ≤ (t : Int)) = false := decide_eq_false (by omega)
    have s2 : decide (f ≤ t) = false := decide_eq_false h1
    rw [decide_eq_false (p := f ≤ t ∧ t ≤ u) (fun h => h1 h.1)]
    go_enter Try.func79, Try.ntmps79
    go_wp2
    go_ret
    exact ⟨rfl, (Below.refl _ _).alloc (Nat.le_refl _) _⟩

set_option maxRecDepth 100000 in
set_option maxHeartbeats 2000000 in
theorem idx_any {v : Value} {l : List Sp} (t B : Nat) {w : World} (hv : Sps w v l) (hc : w.cell? ⟨B, 0, none⟩ = some (.int .u32 (t : Int))) (hB : B < w.heap.size) :
    Calls Try.prog 88 #[v, .func (.func 79) #[] #[.pointer (some ⟨B, 0, none⟩)]] w fun e w' => (∃ q : Int, e = .returned (.int .i64 q) ∧ decide (0 ≤ q) = inB l t) ∧ Below w.heap.size w w' := by
  obtain ⟨ao, cap, rfl⟩ := hv.shape
  obtain ⟨n, hn⟩ : ∃ n, n = l.length := ⟨_, rfl⟩
  have hm : n ≤ 9223372036854775807 := by rw [hn]; exact Sees.max hv
  have HV := Lib.hid hv
  have HN := Lib.hid hn
  have HC := Lib.hid hc
  obtain ⟨b0, hb0⟩ : ∃ b, inB l t = b := ⟨_, rfl⟩
  have HB0 := Lib.hid hb0
  rw [← hn, hb0]
  have B0 := Lib.hid (Below.refl w.heap.size w)
  clear hv hn hb0 hc
  have eg := enters_of Try.func79 (by kernel_rfl) rfl
  go_enter Try.func88, Try.ntmps88
  go_wp2
  go_loopw [8] (fun i wr => ∃ k : Nat, k ≤ n ∧ i = .int .i64 (k : Int) ∧ Hid (inB (l.take k) t = false) ∧ Hid (Below w.heap.size w wr)) (fun i _ => n - (intOf i).toNat)
  case atStart => exact ⟨0, by omega, rfl, Lib.hid rfl, B0⟩
  case round =>
    obtain ⟨k, hk, rfl, hno, hbel⟩ := hrel
    by_cases hkn : k < n
    · have q1 : decide (k < n) = true := by simpa using hkn
      have q2 : (0 : Int) ≤ (k : Int) := by omega
      have q3 : (k : Int) < (n : Int) := by omega
      obtain ⟨b1, o1, rfl, hb1, ha0, ha1⟩ := (HV.out.keeps hbel.out).at k (by rw [← HN.out]; exact hkn)
      have hs := take_snoc l k (by rw [← HN.out]; exact hkn)
      obtain ⟨x, hx⟩ : ∃ x, x = l.getD k zsp := ⟨_, rfl⟩
      rw [← hx] at ha0 ha1 hs
      have hsn := inB_snoc (l.take k) x t
      rw [← hs, hno.out, Bool.false_or] at hsn
      have hin : decide (x.f ≤ t ∧ t ≤ x.t) = true → b0 = true := fun h => by
        rw [← HB0.out]
        have h := of_decide_eq_true h
        exact (inB_iff l t).2 ⟨x, by rw [hx, List.getD, List.getElem?_eq_getElem (by rw [← HN.out]; exact hkn)]; exact List.getElem_mem _, h.1, h.2⟩
      have C := Lib.hid (hasOne_any x t B (w := wr) ((hbel.out.cell (p := ⟨B, 0, none⟩) hB).trans HC.out) (Nat.lt_of_lt_of_le hB hbel.out.size))
      obtain ⟨q, hq⟩ : ∃ q, decide (x.f ≤ t ∧ t ≤ x.t) = q := ⟨_, rfl⟩
      rw [hq] at C hsn hin
      have HIn := Lib.hid hin
      have HSn := Lib.hid hsn
      obtain ⟨xf, xt, _, _⟩ := x
      simp only at ha0 ha1 C
      clear hx hs hsn hin hq
      cases q
      · go_wp2_with fail
        refine C.out.mono ?_
        rintro e w1 ⟨rfl, b1⟩
        have B1 := Lib.hid (bt hbel.out b1)
        clear b1
        go_wp2
        go_roundw
        case rel => exact ⟨k + 1, by omega, by go_num, HSn, B1⟩
        case measure => simp [intOf]; omega
      · obtain rfl : b0 = true := HIn.out rfl
        go_wp2_with fail
        refine C.out.mono ?_
        rintro e w1 ⟨rfl, b1⟩
        have B1 := Lib.hid (bt hbel.out b1)
        clear b1
        go_wp2
        go_ret
        exact ⟨⟨_, rfl, decide_eq_true q2⟩, B1.out⟩
    · have q1 : decide (k < n) = false := by simpa using hkn
      have hkk : l.take k = l := List.take_of_length_le (by have := HN.out; omega)
      have hf : b0 = false := by rw [← HB0.out, ← hkk]; exact hno.out
      subst hf
      clear hkk
      go_wp2
      go_ret
      exact ⟨⟨_, rfl, rfl⟩, hbel.out⟩
theorem contains_any {v : Value} {l : List Sp} (t B : Nat) {w : World} (hv : Sps w v l) (hc : w.cell? ⟨B, 0, none⟩ = some (.int .u32 (t : Int))) (hB : B < w.heap.size) :
    Calls Try.prog 78 #[v, .func (.func 79) #[] #[.pointer (some ⟨B, 0, none⟩)]] w fun e w' => e = .returned (.bool (inB l t)) ∧ Below w.heap.size w w' := by
  have C := Lib.hid (idx_any t B hv hc hB)
  obtain ⟨b0, hb0⟩ : ∃ b, inB l t = b := ⟨_, rfl⟩
  rw [hb0] at C ⊢
  clear hv hc hb0
  go_enter Try.func78, Try.ntmps78
  go_wp2_with fail
  refine C.out.mono ?_
  rintro e w1 ⟨⟨q, rfl, hq⟩, b1⟩
  go_wp2
  go_ret
  exact ⟨rfl, b1⟩

set_option maxRecDepth 100000 in
set_option maxHeartbeats 2000000 in
theorem pHas_any {v : Value} {l : List Sp} (t : Nat) {w : World} (hv : Sps w v l) :
    Calls Try.prog 60 #[v, .int .u32 (t : Int)] w fun e w' => e = .returned (.bool (has l t)) ∧ Below w.heap.size w w' := by
  obtain ⟨c, hc⟩ : ∃ c, chk l = c := ⟨_, rfl⟩
  have X0 := Lib.hid ((Below.refl w.heap.size w).alloc (Nat.le_refl _) (.cells #[.int .u32 (t : Int)] 30))
  have C0 : Hid ((w.alloc (.cells #[.int .u32 (t : Int)] 30)).cell? ⟨w.heap.size, 0, none⟩ = some (.int .u32 (t : Int))) := cell_of_row _ w.heap.size 0 _ _ _ (heap_alloc_new w _)
  have M := Lib.hid (pCheck_is (hv.keeps X0.out) hc)
  have HV := Lib.hid hv
  unfold has
  cases hb : mayB l
  · have hc8 : c = 8 := by rw [← hc]; unfold chk; rw [hb]; rfl
    subst hc8
    rw [Bool.false_and]
    clear hb hv hc
    go_enter Try.func60, Try.ntmps60
    go_wp2_with fail
    refine M.out.mono ?_
    rintro e w1 ⟨rfl, b1⟩
    have B1 := Lib.hid (bt X0.out b1)
    clear b1
    go_wp2
    go_ret
    exact ⟨rfl, B1.out⟩
  · have hc0 : c = 0 := by rw [← hc]; unfold chk; rw [hb]; rfl
    subst hc0
    rw [Bool.true_and]
    obtain ⟨b0, hb0⟩ : ∃ b, inB l t = b := ⟨_, rfl⟩
    have HB0 := Lib.hid hb0
    rw [hb0]
    clear hb hv hc hb0
    go_enter Try.func60, Try.ntmps60
    go_wp2_with fail
    refine M.out.mono ?_
    rintro e w1 ⟨rfl, b1⟩
    have B1 := Lib.hid (bt X0.out b1)
    have K := contains_any t w.heap.size (w := w1) ((HV.out.keeps X0.out).keeps b1) ((b1.cell (p := ⟨w.heap.size, 0, none⟩) (by simp)).trans C0.out) (by have := b1.size; simp at this; omega)
    rw [HB0.out] at K
    have K := Lib.hid K
    clear b1
    go_wp2_with fail
    refine K.out.mono ?_
    rintro e w2 ⟨rfl, b2⟩
    have B2 := Lib.hid (bt B1.out b2)
    clear b2
    go_wp2
    go_ret
    exact ⟨rfl, B2.out⟩

/-! ### The choosers -/
theorem joinOne_any (x y : Bool) (w : World) :
    Calls Try.prog 68 #[.agg #[.bool x, .bool y]] w fun e w' => e = .returned (.bool (x || y)) ∧ Below w.heap.size w w' := by
  cases x
  · go_enter Try.func68, Try.ntmps68
    go_wp2
    go_ret
    exact ⟨rfl, (Below.refl _ _).alloc (Nat.le_refl _) _⟩
  · go_enter Try.func68, Try.ntmps68
    go_wp2
    go_ret
    exact ⟨rfl, (Below.refl _ _).alloc (Nat.le_refl _) _⟩
theorem lessOne_any (x y : Bool) (w : World) :
    Calls Try.prog 69 #[.agg #[.bool x, .bool y]] w fun e w' => e = .returned (.bool (x && !y)) ∧ Below w.heap.size w w' := by
  cases x
  · go_enter Try.func69, Try.ntmps69
    go_wp2
    go_ret
    exact ⟨rfl, (Below.refl _ _).alloc (Nat.le_refl _) _⟩
  · go_enter Try.func69, Try.ntmps69
    go_wp2
    go_ret
    exact ⟨rfl, (Below.refl _ _).alloc (Nat.le_refl _) _⟩

/-! ### What is left, and the next stretch of one -/
theorem sps_tail {w : World} {b off n cap : Nat} {x : Sp} {l : List Sp} (h : Sps w (.slice (some ⟨b, off, none⟩) n cap) (x :: l)) :
    (cap = 1 → Sps w (.slice (some ⟨b, off, none⟩) l.length 0) l) ∧ (cap ≠ 1 → Sps w (.slice (some ⟨b, off + 2, none⟩) l.length (cap - 1)) l) := by
  obtain ⟨h1, ao, cp, he, h2, h3, h4, h5⟩ := h
  obtain ⟨rfl, rfl, rfl⟩ := Value.slice.inj he
  rw [List.length_cons] at h2
  constructor
  · rintro rfl
    obtain rfl : l = [] := List.length_eq_zero_iff.1 (by omega)
    exact ⟨rfl, _, _, rfl, by simp, by simp, by simp, .inl rfl⟩
  · intro hc
    refine ⟨sps_len l, _, _, rfl, by omega, by omega, by simp, .inr ⟨b, off + 2, rfl, ?_, ?_⟩⟩
    · rcases h5 with h5 | ⟨b', off', hb, hlt, _⟩
      · cases h5
      · cases hb; exact hlt
    · intro j u hj
      rcases h5 with h5 | ⟨b', off', hb, hlt, hcell⟩
      · cases h5
      · cases hb
        have := hcell (j + 2) u (by simpa [sps] using hj)
        rwa [show off + 2 + j = off + (j + 2) by omega]

set_option maxRecDepth 100000 in
set_option maxHeartbeats 2000000 in
theorem upFrom_any {v : Value} {p : List Sp} (n : Nat) {w : World} (hv : Sps w v p) :
    Calls Try.prog 90 #[v, .int .u32 (n : Int)] w fun e w' => ∃ v', e = .returned v' ∧ (Sps w v' (upf p n) ∧ v'.ownBlock = v.ownBlock) ∧ w = w' := by
  obtain ⟨ao, cap, rfl⟩ := hv.shape
  have HV := Lib.hid hv
  cases p with
  | nil =>
    clear hv
    go_enter Try.func90, Try.ntmps90
    go_wp2
    go_ret
    exact ⟨_, rfl, ⟨HV.out, rfl⟩, rfl⟩
  | cons x p =>
    obtain ⟨b, off, rfl, hb, h0, h1⟩ := hv.at 0 (by simp)
    have hcp := Sees.cap hv
    rw [List.length_cons] at hcp
    obtain ⟨k1, k2⟩ := sps_tail hv
    have HU := Lib.hid (upf_cons x p n)
    have e0 : ((x :: p).getD 0 zsp) = x := rfl
    rw [e0] at h0 h1
    obtain ⟨f, t, hf, ht⟩ := x
    simp only [Nat.zero_mul, Nat.add_zero] at h0 h1
    simp only at HU
    obtain ⟨m, hm⟩ : ∃ m, m = p.length := ⟨_, rfl⟩
    rw [List.length_cons] at HV ⊢
    rw [← hm] at HV k1 k2 hcp ⊢
    have t0 : decide ((0 : Int) < (m : Int) + 1) = true := decide_eq_true (by omega)
    clear hv e0 hm
    by_cases g : t < n
    · have s1 : decide ((t : Int) < (n : Int)) = true := decide_eq_true (by omega)
      have s2 : decide (t < n) = true := decide_eq_true g
      have e1 : upf (⟨f, t, hf, ht⟩ :: p) n = p := by rw [HU.out, if_pos g]
      rw [e1]
      by_cases hc : cap = 1
      · have K := Lib.hid (k1 hc)
        subst hc
        obtain rfl : m = 0 := by omega
        clear k1 k2 e1 HU
        go_enter Try.func90, Try.ntmps90
        go_wp2
        go_ret
        exact ⟨_, rfl, ⟨K.out, rfl⟩, rfl⟩
      · have K := Lib.hid (k2 hc)
        clear k1 k2 e1 HU
        go_enter Try.func90, Try.ntmps90
        go_wp2
        go_ret
        exact ⟨_, rfl, ⟨K.out, rfl⟩, rfl⟩
    · have s1 : decide ((t : Int) < (n : Int)) = false := decide_eq_false (by omega)
      have s2 : decide (t < n) = false := decide_eq_false g
      have e1 : upf (⟨f, t, hf, ht⟩ :: p) n = ⟨f, t, hf, ht⟩ :: p := by rw [HU.out, if_neg g]
      rw [e1]
      clear k1 k2 e1 HU
      go_enter Try.func90, Try.ntmps90
      go_wp2
      go_ret
      exact ⟨_, rfl, ⟨HV.out, rfl⟩, rfl⟩

set_option maxRecDepth 100000 in
set_option maxHeartbeats 2000000 in
theorem next_any {v : Value} {p : List Sp} (n : Nat) {w : World} (hv : Sps w v p) (hok : ∀ x ∈ p, Ok x) :
    Calls Try.prog 91 #[v, .int .u32 (n : Int)] w fun e w' => e = .returned (.tuple #[.bool (nxt p n).1, .int .u32 ((nxt p n).2 : Int)]) ∧ Below w.heap.size w w' := by
  obtain ⟨ao, cap, rfl⟩ := hv.shape
  cases p with
  | nil =>
    clear hv hok
    go_enter Try.func91, Try.ntmps91
    go_wp2
    go_ret2
    exact ⟨rfl, Below.refl _ _⟩
  | cons x p =>
    obtain ⟨b, off, rfl, hb, h0, h1⟩ := hv.at 0 (by simp)
    have hcp := Sees.cap hv
    rw [List.length_cons] at hcp
    have hx := hok x (by simp)
    rw [nxt_cons]
    have e0 : ((x :: p).getD 0 zsp) = x := rfl
    rw [e0] at h0 h1
    obtain ⟨f, t, hf, ht⟩ := x
    unfold Ok at hx
    simp only at hx
    obtain ⟨x1, x2, x3⟩ := hx
    simp only [Nat.zero_mul, Nat.add_zero] at h0 h1
    rw [List.length_cons]
    simp only
    obtain ⟨m, hm⟩ : ∃ m, m = p.length := ⟨_, rfl⟩
    rw [← hm] at hcp ⊢
    have t0 : ((m : Int) + 1 == 0) = false := by rw [beq_eq_false_iff_ne]; omega
    clear hv e0 hok hm
    by_cases g : n < f
    · have s1 : decide ((n : Int) < (f : Int)) = true := decide_eq_true (by omega)
      have s2 : decide (n < f) = true := decide_eq_true g
      rw [if_pos g]
      obtain ⟨d, hd⟩ : ∃ d : Nat, d = f - 1 := ⟨_, rfl⟩
      have e1 : (f : Int) - 1 = (d : Int) := by omega
      have e2 : IntKind.u32.wrap (d : Int) = (d : Int) := by rw [IntKind.wrap_u32]; omega
      simp only
      rw [← hd]
      clear hd
      go_enter Try.func91, Try.ntmps91
      go_wp2
      go_quiet (fail)
      go_wp2
      go_ret2
      exact ⟨rfl, below_draw (Below.refl _ _) _⟩
    · have s1 : decide ((n : Int) < (f : Int)) = false := decide_eq_false (by omega)
      have s2 : decide (n < f) = false := decide_eq_false g
      rw [if_neg g]
      simp only
      go_enter Try.func91, Try.ntmps91
      go_wp2
      go_quiet (fail)
      go_wp2
      go_ret2
      exact ⟨rfl, below_draw (Below.refl _ _) _⟩

theorem stretches_any (v u : Value) (w : World) :
    Calls Try.prog 82 #[.agg #[v, u]] w fun e w' => e = .returned (.func (.func 89) #[] #[.pointer (some ⟨w.heap.size, 0, none⟩)]) ∧ w' = w.alloc (.cells #[v, u] 100) := by
  go_enter Try.func82, Try.ntmps82
  go_wp2
  go_ret
  exact ⟨rfl, rfl⟩
end Go.Proofs.Ytinglfhndlklaaa.Spans
