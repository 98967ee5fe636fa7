/- Slices of bytes: what a slice value reads as, in a world; rows that a call has made. Conditions: none. Runs of stamps (places), and slices of them: what a slice value holds. Conditions: none. Stamps: which may be, which is less, the next one. Conditions: none. Blocks known whole, in whatever world behind: for regions that draw their order and make memory. Conditions: none. octavoref06: Twin, Same, SameIds, end, one, Long: what each answers. Conditions: the slices' cells are runs (stamps). octavoref06: end, one, Long, Final: what each answers. Conditions: the slices' cells are runs; Long: the sums fit. octavoref06.May, Any, Check: what each answers. Conditions: the slice's cells are runs. octavoref06.cut, Held, First: what each answers. Conditions: the slices' cells are runs that may stand one behind the other. octavoref05: what May, Check, Less, Top and Next answer. Conditions: the slice -/
import Derived.Test.YtgjbnbojjgbmcaaGreatChecked
import Derived.WalkKit
import Derived.WalkSpells
import Derived.WalkLawsBesides
import Derived.Laws.BytesArg
import Derived.Lib.Hide
import Derived.Deep.LoopGhost
import Derived.Laws.AppendOwnNone
import Derived.Laws.OwnMore
import Derived.WideShapes
import Derived.Maps.AppendAt
import Derived.RegionTactic
import Derived.Deep.RegionHeld3
import Derived.Deep.DrawnRows
import Derived.Deep.QuietTactic
import Derived.BigQuiet
import Derived.IntWalk
import Derived.Test.YtgjbnbojjgbmcaaGreatRw
import Derived.Test.YtgjbnbojjgbmcaaGreatPk01
import Derived.Test.YtgjbnbojjgbmcaaGreatPk21
import Derived.Test.YtgjbnbojjgbmcaaGreatPk15
import Derived.Test.YtgjbnbojjgbmcaaGreatPk20
import Derived.Test.YtgjbnbojjgbmcaaGreatPk02

namespace Go.Proofs.YtgjbnbojjgbmcaaGreat
open Go.RowKit
theorem bs_len (l : List UInt8) : (bs l).length = l.length := by simp [bs]
end Go.Proofs.YtgjbnbojjgbmcaaGreat

namespace Go.Proofs.YtgjbnbojjgbmcaaGreat
open Go.RowKit Go.WideShapes
theorem Runs.nil (w : World) : Runs w (.slice none 0 0) [] := Sees.nil w 3
end Go.Proofs.YtgjbnbojjgbmcaaGreat

namespace Go.Proofs.YtgjbnbojjgbmcaaGreat.Stamp
/-- The greatest time. -/
def top : List Id → Nat
  | [] => 0
  | a :: l => max a.t (top l)
end Go.Proofs.YtgjbnbojjgbmcaaGreat.Stamp

namespace Go.Proofs.YtgjbnbojjgbmcaaGreat
open Go.RowKit Go.WideShapes
theorem set_blk {X : World} {g : Nat} {c0 c1 d0 d1 : Value} {e : TypeId} (h : X.heap[g]? = some (.cells #[c0, c1] e)) : ((X.setCell ⟨g, 0, none⟩ d0).setCell ⟨g, 1, none⟩ d1).heap[g]? = some (.cells #[d0, d1] e) := by
  have h0 := heap_setCell_same X g 0 _ _ d0 h
  have h1 := heap_setCell_same _ g 1 _ _ d1 h0
  exact h1
theorem set_below {B g : Nat} {W X : World} {d0 d1 : Value} (hg : B ≤ g) (h : Below B W X) : Below B W ((X.setCell ⟨g, 0, none⟩ d0).setCell ⟨g, 1, none⟩ d1) :=
  (h.setCell (p := ⟨g, 0, none⟩) hg _).setCell (p := ⟨g, 1, none⟩) hg _
theorem below_next {B : Nat} {W X Y : World} (h : Below B W X) (hs : B ≤ X.heap.size) (b : Below X.heap.size X Y) : Below B W Y := h.trans (b.mono hs)
end Go.Proofs.YtgjbnbojjgbmcaaGreat

namespace Go.Proofs.YtgjbnbojjgbmcaaGreat.Place
open Go.RowKit Stamp
attribute [local go_sem ↓] Go.wp_at_zero Go.wp_at_succ
theorem twin_any {v : Value} {l : List Run} {w : World} (hv : Runs w v l) (hl : l.length ≤ 8796093022208) :
    Calls Tryz.prog 53 #[v] w fun e w' => ∃ v', e = .returned v' ∧ w'.ownsRow w.heap.size 32 3 v' l.length (runs l) ∧ Below w.heap.size w w' := by
  obtain ⟨ao, cap, rfl⟩ := hv.shape
  have HV : Hid (Sees w (.slice ao l.length cap) 3 l.length (runs l)) := hv
  have O0 : Hid (w.ownsRow w.heap.size 32 3 (.slice none 0 0) 0 []) := World.ownsRow_nil _ _ _ _
  clear hv
  go_enter Tryz.func53, Tryz.ntmps53
  go_wp2_with (at_builtin; refine wpList_append_sees rfl (.tmp 4) (.tmp 5) 33 32 rfl Tryz.underlying33 run_info rfl (by decide) w.heap.size _ 0 [] rfl O0.out _ l.length _ rfl HV.out (runs_oneCell l) ?k1 ?k2 ?k3 ?_)
  case k1 => omega
  case k2 => omega
  case k3 => simp
  rintro v1 w1 o1 g1 b1
  have HO : Hid (w1.ownsRow w.heap.size 32 3 v1 l.length (runs l)) := o1
  have HB := Lib.hid b1
  clear o1 g1 b1
  go_wp2
  go_ret
  exact ⟨_, rfl, HO.out, HB.out⟩
end Go.Proofs.YtgjbnbojjgbmcaaGreat.Place

namespace Go.Proofs.YtgjbnbojjgbmcaaGreat.Place
open Go.RowKit Stamp
attribute [local go_sem ↓] Go.wp_at_zero Go.wp_at_succ
theorem end_any (t r : Nat) (m : Int) (ht : t < 4294967296) (hm : 1 ≤ m ∧ m ≤ 4096) (w : World) :
    Calls Tryz.prog 137 #[.agg #[.int .u32 (t : Int), .int .u8 (r : Int), .int .i64 m]] w fun e w' => e = .returned (.int .i64 ((t : Int) + m - 1)) ∧ Below w.heap.size w w' := by
  obtain ⟨h1, h2⟩ := hm
  go_enter Tryz.func137, Tryz.ntmps137
  go_wp2
  go_ret
  exact ⟨rfl, (Below.refl _ _).alloc (Nat.le_refl _) _⟩
set_option maxHeartbeats 1000000 in
theorem one_any (t r : Nat) (m : Int) (ht : t < 4294967296) (w : World) :
    Calls Tryz.prog 187 #[.agg #[.int .u32 (t : Int), .int .u8 (r : Int), .int .i64 m]] w fun e w' => e = .returned (.bool (oneB t r m)) ∧ Below w.heap.size w w' := by
  have q : (decide (1 ≤ (t : Int)) = false ∧ t = 0 ∧ oneB t r m = false) ∨ (decide (1 ≤ (t : Int)) = true ∧ 1 ≤ t ∧ decide ((t : Int) ≤ 1073741824) = false ∧ oneB t r m = false) ∨
      (decide (1 ≤ (t : Int)) = true ∧ 1 ≤ t ∧ decide ((t : Int) ≤ 1073741824) = true ∧ decide ((r : Int) < 8) = false ∧ oneB t r m = false) ∨
      (decide (1 ≤ (t : Int)) = true ∧ 1 ≤ t ∧ decide ((t : Int) ≤ 1073741824) = true ∧ decide ((r : Int) < 8) = true ∧ decide (1 ≤ m) = false ∧ oneB t r m = false) ∨
      (decide (1 ≤ (t : Int)) = true ∧ 1 ≤ t ∧ decide ((t : Int) ≤ 1073741824) = true ∧ decide ((r : Int) < 8) = true ∧ decide (1 ≤ m) = true ∧ decide (m ≤ 4096) = false ∧ oneB t r m = false) ∨
      (decide (1 ≤ (t : Int)) = true ∧ 1 ≤ t ∧ decide ((t : Int) ≤ 1073741824) = true ∧ decide ((r : Int) < 8) = true ∧ decide (1 ≤ m) = true ∧ decide (m ≤ 4096) = true ∧ (1 ≤ m ∧ m ≤ 4096) ∧ oneB t r m = decide ((t : Int) + m - 1 ≤ 1073741824)) := by
    unfold oneB
    by_cases h1 : 1 ≤ t
    · by_cases h2 : t ≤ 1073741824
      · by_cases h3 : r < 8
        · by_cases h4 : 1 ≤ m
          · by_cases h5 : m ≤ 4096
            · refine .inr (.inr (.inr (.inr (.inr ⟨decide_eq_true (by omega), h1, decide_eq_true (by omega), decide_eq_true (by omega), decide_eq_true h4, decide_eq_true h5, ⟨h4, h5⟩, ?_⟩))))
              rw [decide_eq_decide]; omega
            · exact .inr (.inr (.inr (.inr (.inl ⟨decide_eq_true (by omega), h1, decide_eq_true (by omega), decide_eq_true (by omega), decide_eq_true h4, decide_eq_false h5, decide_eq_false (by omega)⟩))))
          · exact .inr (.inr (.inr (.inl ⟨decide_eq_true (by omega), h1, decide_eq_true (by omega), decide_eq_true (by omega), decide_eq_false h4, decide_eq_false (by omega)⟩)))
        · exact .inr (.inr (.inl ⟨decide_eq_true (by omega), h1, decide_eq_true (by omega), decide_eq_false (by omega), decide_eq_false (by omega)⟩))
      · exact .inr (.inl ⟨decide_eq_true (by omega), h1, decide_eq_false (by omega), decide_eq_false (by omega)⟩)
    · exact .inl ⟨decide_eq_false (by omega), by omega, decide_eq_false (by omega)⟩
  rcases q with ⟨q1, g, h⟩ | ⟨q1, g, q2, h⟩ | ⟨q1, g, q2, q3, h⟩ | ⟨q1, g, q2, q3, q4, h⟩ | ⟨q1, g, q2, q3, q4, q5, h⟩ | ⟨q1, g, q2, q3, q4, q5, q6, h⟩
  case inr.inr.inr.inr.inr =>
    have E := Lib.hid (end_any t r m ht q6)
    have P0 := Lib.hid (Tri.keeps (tri_new w (.int .u32 (t : Int)) (.int .u8 (r : Int)) (.int .i64 m) 32) (Below.refl _ _))
    obtain ⟨z, hz⟩ : ∃ z, z = (t : Int) + m - 1 := ⟨_, rfl⟩
    rw [← hz] at E h
    rw [h]
    clear h hz q6
    cases hq : decide (z ≤ 1073741824)
    all_goals
      go_enter Tryz.func187, Tryz.ntmps187
      go_wp2_with fail
      refine (E.out _).mono ?_
      rintro e w1 ⟨rfl, b1⟩
      have hb : Below w.heap.size w w1 := ((Below.refl _ _).alloc (Nat.le_refl _) _).trans (b1.mono (by simp))
      clear b1
      go_wp2
      go_ret
      exact ⟨rfl, hb⟩
  all_goals
    rw [h]
    clear h
    go_enter Tryz.func187, Tryz.ntmps187
    go_wp2
    go_ret
    exact ⟨rfl, (Below.refl _ _).alloc (Nat.le_refl _) _⟩
/-- Runs each of which may be by itself. -/
def Ones (l : List Run) : Prop := ∀ k, k < l.length → 1 ≤ (l.getD k zrun).m ∧ (l.getD k zrun).m ≤ 4097
set_option maxHeartbeats 1000000 in
theorem long_any {v : Value} {l : List Run} {w : World} (hv : Runs w v l) (hl : l.length ≤ 1000) (h1 : Ones l) :
    Calls Tryz.prog 99 #[v] w fun e w' => e = .returned (.int .i64 (long l)) ∧ w = w' := by
  obtain ⟨ao, cap, rfl⟩ := hv.shape
  obtain ⟨n, hn⟩ : ∃ n, n = l.length := ⟨_, rfl⟩
  have HV := Lib.hid hv
  have HN := Lib.hid hn
  have HO := Lib.hid h1
  rw [← hn] at hl ⊢
  clear hv hn h1
  go_enter Tryz.func99, Tryz.ntmps99
  go_wp2
  go_loop [3, 4] (fun s i => ∃ (k : Nat) (z : Int), k ≤ n ∧ i = .int .i64 (k : Int) ∧ s = .int .i64 z ∧ 0 ≤ z ∧ z ≤ 4097 * (k : Int) ∧ Hid (z = long (l.take k))) (fun _ i => n - (intOf i).toNat)
  case atStart => exact ⟨0, 0, by omega, rfl, rfl, by omega, by omega, Lib.hid rfl⟩
  case round =>
    obtain ⟨k, z, hk, rfl, rfl, z0, z1, hz⟩ := hrel
    by_cases hkn : k < n
    · have q1 : decide (k < n) = true := by simpa using hkn
      obtain ⟨b, off, rfl, hb, hx0, hx1, hx2⟩ := HV.out.at k (by rw [← HN.out]; exact hkn)
      have ho := HO.out k (by rw [← HN.out]; exact hkn)
      have ht := long_take l k (by rw [← HN.out]; exact hkn)
      obtain ⟨m, hm⟩ : ∃ m, m = (l.getD k zrun).m := ⟨_, rfl⟩
      rw [← hm] at hx2 ho ht
      rw [← hz.out] at ht
      have HT := Lib.hid ht
      obtain ⟨o1, o2⟩ := ho
      have q2 : (0 : Int) ≤ (k : Int) := by omega
      have q3 : (k : Int) < (n : Int) := by omega
      have q4 : 0 ≤ z + m := by omega
      have q5 : z + m ≤ 5000000 := by omega
      clear hm ht hx0 hx1
      go_wp2
      go_round
      case rel => exact ⟨k + 1, z + m, by omega, by go_num, rfl, by omega, by omega, Lib.hid HT.out.symm⟩
      case measure => simp [intOf]; omega
    · have q1 : decide (k < n) = false := by simpa using hkn
      have hkk : l.take k = l := List.take_of_length_le (by have := HN.out; omega)
      have hz2 := hz.out
      rw [hkk] at hz2
      have HZ := Lib.hid hz2
      clear hkk hz2
      go_wp2
      go_ret
      exact ⟨by have := HZ.out; subst this; rfl, rfl⟩
end Go.Proofs.YtgjbnbojjgbmcaaGreat.Place

namespace Go.Proofs.YtgjbnbojjgbmcaaGreat.Place
open Go.RowKit Stamp
attribute [local go_sem ↓] Go.wp_at_zero Go.wp_at_succ
attribute [local go_sem] yielded_undef
theorem keep5 {wl w1 w2 : World} {b o1 o2 o3 o4 o5 : Nat} {c1 c2 c3 c4 c5 : Value} (q : b < wl.heap.size ∧ wl.cell? ⟨b, o1, none⟩ = some c1 ∧ wl.cell? ⟨b, o2, none⟩ = some c2 ∧ wl.cell? ⟨b, o3, none⟩ = some c3 ∧ wl.cell? ⟨b, o4, none⟩ = some c4 ∧ wl.cell? ⟨b, o5, none⟩ = some c5) (h : Below w1.heap.size w1 w2) (hb : Below wl.heap.size wl w1) :
    Below wl.heap.size wl w2 ∧ w2.cell? ⟨b, o1, none⟩ = some c1 ∧ w2.cell? ⟨b, o2, none⟩ = some c2 ∧ w2.cell? ⟨b, o3, none⟩ = some c3 ∧ w2.cell? ⟨b, o4, none⟩ = some c4 ∧ w2.cell? ⟨b, o5, none⟩ = some c5 :=
  have a := bt hb h
  ⟨a, (a.cell (p := ⟨b, o1, none⟩) q.1).trans q.2.1, (a.cell (p := ⟨b, o2, none⟩) q.1).trans q.2.2.1, (a.cell (p := ⟨b, o3, none⟩) q.1).trans q.2.2.2.1, (a.cell (p := ⟨b, o4, none⟩) q.1).trans q.2.2.2.2.1, (a.cell (p := ⟨b, o5, none⟩) q.1).trans q.2.2.2.2.2⟩
set_option maxRecDepth 100000 in
set_option maxHeartbeats 8000000 in
theorem refMay_any {v : Value} {l : List Run} {w : World} (hv : Runs w v l) :
    Calls Tryz.prog 136 #[v] w fun e w' => e = .returned (.bool (mayB l)) ∧ Below w.heap.size w w' := by
  obtain ⟨ao, cap, rfl⟩ := hv.shape
  obtain ⟨n, hn⟩ : ∃ n, n = l.length := ⟨_, rfl⟩
  have hmax : n ≤ 9223372036854775807 := by rw [hn]; exact Sees.max hv
  have HV := Lib.hid hv
  have HN := Lib.hid hn
  rw [← hn]
  clear hv
  by_cases h0 : n < 1
  · have t1 : decide ((n : Int) < 1) = true := decide_eq_true (by omega)
    obtain rfl : n = 0 := by omega
    rw [mayB_no (fun h => by have := h.1; omega)]
    clear hn h0
    go_enter Tryz.func136, Tryz.ntmps136
    go_wp2
    go_ret
    exact ⟨rfl, Below.refl _ _⟩
  have t1 : decide ((n : Int) < 1) = false := decide_eq_false (by omega)
  by_cases h64 : 64 < n
  · have t2 : decide ((64 : Int) < (n : Int)) = true := decide_eq_true (by omega)
    have t3 : decide (64 < n) = true := decide_eq_true h64
    have t4 : ¬ n = 0 := by omega
    rw [mayB_no (fun h => by have := h.2.1; omega)]
    clear hn h0
    go_enter Tryz.func136, Tryz.ntmps136
    go_wp2
    go_ret
    exact ⟨rfl, Below.refl _ _⟩
  have t2 : decide ((64 : Int) < (n : Int)) = false := decide_eq_false (by omega)
  have t3 : decide (64 < n) = false := decide_eq_false h64
  have t4 : ¬ n = 0 := by omega
  clear hn h0
  go_enter Tryz.func136, Tryz.ntmps136
  go_wp2
  go_loopw [3] (fun i wr => ∃ k : Nat, k ≤ n ∧ i = .int .i64 (k : Int) ∧ Hid (Chain (l.take k)) ∧ Hid (Below w.heap.size w wr)) (fun i _ => n - (intOf i).toNat)
  case atStart => exact ⟨0, by omega, rfl, Lib.hid (by simp [Chain]), Lib.hid (Below.refl _ _)⟩
  case round =>
    obtain ⟨k, hk, rfl, hch, hbel⟩ := hrel
    by_cases hkn : k < n
    · have q1 : decide (k < n) = true := by simpa using hkn
      have V1 : Runs wr (.slice ao n cap) l := by
        have := HV.out.keeps hbel.out
        rwa [← HN.out] at this
      obtain ⟨b, off, rfl, hb, hx0, hx1, hx2⟩ := V1.at k (by rw [← HN.out]; exact hkn)
      have V1' := Lib.hid V1
      obtain ⟨x, hx⟩ : ∃ x, x = l.getD k zrun := ⟨_, rfl⟩
      rw [← hx] at hx0 hx1 hx2
      have hone := oneB_iff x
      obtain ⟨t, r, m, ht, hr, hm⟩ := x
      simp only at hx0 hx1 hx2 hone
      have HX := Lib.hid hx
      have HONE := Lib.hid hone
      have q2 : (0 : Int) ≤ (k : Int) := by omega
      have q3 : (k : Int) < (n : Int) := by omega
      have O1 := Lib.hid (one_any t r m ht)
      clear hx hone V1
      cases ho : oneB t r m
      · have hno : ¬ May l := fun h => by
          have h1 := chain_one h.2.2.1 (k := k) (by rw [← HN.out]; exact hkn)
          rw [← HX.out] at h1
          have := HONE.out.2 h1
          rw [ho] at this
          cases this
        rw [ho] at O1
        have HF := Lib.hid (mayB_no hno)
        clear hno ho
        go_wp2_with fail
        refine (O1.out _).mono ?_
        rintro e w3 ⟨rfl, b3⟩
        have B3 := Lib.hid (bt hbel.out b3)
        clear b3
        go_wp2
        go_ret
        exact ⟨by rw [HF.out]; rfl, B3.out⟩
      · have hOne := HONE.out.1 ho
        rw [ho] at O1
        clear ho
        by_cases hk0 : k = 0
        · have HC : Hid (Chain (l.take (k + 1))) := by
            have := chain_take_one l (by rw [← HN.out]; omega) (by rw [← hk0, ← HX.out]; exact hOne)
            rw [hk0]; exact this
          have g1 : decide ((0 : Int) < (k : Int)) = false := decide_eq_false (by omega)
          have g2 : decide (0 < k) = false := decide_eq_false (by omega)
          clear hOne hk0
          go_wp2_with fail
          refine (O1.out _).mono ?_
          rintro e w3 ⟨rfl, b3⟩
          have B3 := Lib.hid (bt hbel.out b3)
          clear b3
          go_wp2
          go_quiet (fail)
          go_wp2
          go_roundw
          case rel => exact ⟨k + 1, by omega, by go_num, HC, Lib.hid (below_draw B3.out _)⟩
          case measure => simp [intOf]; omega
        · obtain ⟨j, hj⟩ : ∃ j, k = j + 1 := ⟨k - 1, by omega⟩
          have g1 : decide ((0 : Int) < (k : Int)) = true := decide_eq_true (by omega)
          have g2 : decide (0 < k) = true := decide_eq_true (by omega)
          have hchj : Chain (l.take (j + 1)) := by have := hch.out; rwa [hj] at this
          obtain ⟨b', off', he, _, hy0, hy1, hy2⟩ := V1'.out.at j (by rw [← HN.out]; omega)
          obtain ⟨rfl, rfl⟩ : b = b' ∧ off = off' := by simpa using he
          have hOneY : One (l.getD j zrun) := by
            have h1 := chain_one (k := j) hchj (by rw [List.length_take, ← HN.out]; omega)
            have h2 : (l.take (j + 1)).getD j zrun = l.getD j zrun := by simp [List.getD]
            rwa [h2] at h1
          obtain ⟨y, hy⟩ : ∃ y, y = l.getD j zrun := ⟨_, rfl⟩
          rw [← hy] at hy0 hy1 hy2 hOneY
          have hNx : Next y ⟨t, r, m, ht, hr, hm⟩ → Chain (l.take (j + 1 + 1)) := fun h => by
            refine chain_take_succ l j (by rw [← HN.out]; omega) hchj ?_ ?_
            · rw [← hj, ← HX.out]; exact hOne
            · rw [← hj, ← HX.out, ← hy]; exact h
          have hNo : ¬ Next y ⟨t, r, m, ht, hr, hm⟩ → mayB l = false := fun h => by
            refine mayB_no (fun hM => h ?_)
            have h1 := chain_next hM.2.2.1 (k := j) (by rw [← HN.out]; omega)
            rw [← hj, ← HX.out, ← hy] at h1
            exact h1
          obtain ⟨t0, r0, m0, ht0, hr0, hm0⟩ := y
          simp only at hy0 hy1 hy2
          obtain ⟨z, hz⟩ : ∃ z, z = (t0 : Int) + m0 - 1 := ⟨_, rfl⟩
          have hm0b : 1 ≤ m0 ∧ m0 ≤ 4096 := ⟨hOneY.2.2.2.1, hOneY.2.2.2.2.1⟩
          have hzb : 0 ≤ z ∧ z ≤ 1073741824 := by
            have h1 := hOneY.2.2.2.2.2
            have h2 := hOneY.1
            simp only at h1 h2
            omega
          have E1 := Lib.hid (end_any t0 r0 m0 ht0 hm0b)
          rw [← hz] at E1
          have hnx : Next ⟨t0, r0, m0, ht0, hr0, hm0⟩ ⟨t, r, m, ht, hr, hm⟩ ↔ z < (t : Int) ∧ (r = r0 → z + 1 < (t : Int)) := by
            unfold Next fin; simp only; rw [hz]
          rw [hnx] at hNx hNo
          have HNx := Lib.hid hNx
          have HNo := Lib.hid hNo
          have htb : (t : Int) ≤ 1073741824 := by have := hOne.2.1; simp only at this; omega
          clear hNx hNo hnx hOneY hOne hchj hy he hz hm0b hk0
          have HJ := Lib.hid hj
          clear hj
          go_wp2_with fail
          refine (O1.out _).mono ?_
          rintro e w3 ⟨rfl, b3⟩
          have hq1 : b < w3.heap.size := Nat.lt_of_lt_of_le hb b3.size
          have HQ := Lib.hid (And.intro hq1 (And.intro ((b3.cell (p := ⟨b, off + k * 3, none⟩) hb).trans hx0) (And.intro ((b3.cell (p := ⟨b, off + k * 3 + 1, none⟩) hb).trans hx1) (And.intro ((b3.cell (p := ⟨b, off + j * 3, none⟩) hb).trans hy0) (And.intro ((b3.cell (p := ⟨b, off + j * 3 + 1, none⟩) hb).trans hy1) ((b3.cell (p := ⟨b, off + j * 3 + 2, none⟩) hb).trans hy2))))))
          have B3 := Lib.hid (bt hbel.out b3)
          have w1 : (0 : Int) ≤ (j : Int) := by omega
          have w2 : (j : Int) < (n : Int) := by have := HJ.out; omega
          obtain ⟨z0, z1⟩ := hzb
          have e1 : (k : Int) - 1 = (j : Int) := by have := HJ.out; omega
          have e2 : IntKind.i64.wrap (j : Int) = (j : Int) := IntWalk.i64_in _ (by omega)
          have e3 : IntKind.i64.wrap (t : Int) = (t : Int) := IntWalk.i64_in _ (by omega)
          have e4 : IntKind.i64.wrap (z + 1) = z + 1 := IntWalk.i64_in _ (by omega)
          clear b3 hx0 hx1 hx2 hy0 hy1 hy2 hb hq1 hbel V1' hch
          by_cases ha : (t : Int) ≤ z
          · have a1 : decide ((t : Int) ≤ z) = true := decide_eq_true ha
            have HF := Lib.hid (HNo.out (by clear e2 e3 e4; omega))
            clear ha
            go_wp2_with fail
            refine wp_region_held_drew (S := fun w' => Below w3.heap.size w3 w' ∧ w'.cell? ⟨b, off + k * 3, none⟩ = some (.int .u32 (t : Int)) ∧ w'.cell? ⟨b, off + k * 3 + 1, none⟩ = some (.int .u8 (r : Int)) ∧ w'.cell? ⟨b, off + j * 3, none⟩ = some (.int .u32 (t0 : Int)) ∧ w'.cell? ⟨b, off + j * 3 + 1, none⟩ = some (.int .u8 (r0 : Int)) ∧ w'.cell? ⟨b, off + j * 3 + 2, none⟩ = some (.int .i64 m0)) (by kernel_rfl) (keep5 HQ.out (drew1 _) (Below.refl _ _)) (fun hHeld => ?_)
            refine rN 0 ?_
            refine rN 1 ?_
            refine rN 2 ?_
            refine rN 3 ?_
            refine rN 4 ?_
            refine rN 5 ?_
            refine rN 6 ?_
            refine rN 7 ?_
            refine rN 8 ?_
            refine rN 9 ?_
            refine rN 10 ?_
            refine rN 11 ?_
            refine rN 12 ?_
            refine rN 13 ?_
            refine wpAnyH_ready (rs := [14]) (by kernel_rfl) (by simp) ?_
            refine AllReadyH.cons rfl (fun K hK => ?_) ?za14
            case za14 => exact AllReadyH.nil
            go_simp
            refine (E1.out _).mono ?_
            rintro e w9 ⟨rfl, b9⟩
            refine hK.out _ _ (keep5 HQ.out b9 hHeld.1) (fun hNew => ?_)
            clear hHeld b9
            have hHeld := hNew
            clear hNew hK K
            refine rX ?_
            refine rN 15 ?_
            refine rN 16 ?_
            refine rV 17 ?_
            refine rV 18 ?_
            refine rV 19 ?_
            refine rV 20 ?_
            refine rV 21 ?_
            refine rV 22 ?_
            refine rV 23 ?_
            refine rV 24 ?_
            refine rV 25 ?_
            refine rV 26 ?_
            refine rV 27 ?_
            refine rV 28 ?_
            refine rV 29 ?_
            refine rV 30 ?_
            refine rV 31 ?_
            refine rV 32 ?_
            refine rV 33 ?_
            refine rV 34 ?_
            refine rV 35 ?_
            refine rV 36 ?_
            refine rV 37 ?_
            refine rV 38 ?_
            refine rV 39 ?_
            refine rV 40 ?_
            refine rV 41 ?_
            refine rV 42 ?_
            refine rV 43 ?_
            refine rV 44 ?_
            refine rN 45 ?_
            refine rN 46 ?_
            refine wpAnyH_done (by kernel_rfl) ?_ _
            go_wp2
            go_ret
            exact ⟨by rw [HF.out]; rfl, bt B3.out hHeld.1⟩
          · have a1 : decide ((t : Int) ≤ z) = false := decide_eq_false ha
            by_cases hrr : r = r0
            · subst hrr
              have a2 : ((r : Int) == (r : Int)) = true := by simp
              by_cases hs : (t : Int) = z + 1
              · have a3 : ((t : Int) == z + 1) = true := by simp; omega
                have HF := Lib.hid (HNo.out (by clear e2 e3 e4; omega))
                clear ha hs
                go_wp2_with fail
                refine wp_region_held_drew (S := fun w' => Below w3.heap.size w3 w' ∧ w'.cell? ⟨b, off + k * 3, none⟩ = some (.int .u32 (t : Int)) ∧ w'.cell? ⟨b, off + k * 3 + 1, none⟩ = some (.int .u8 (r : Int)) ∧ w'.cell? ⟨b, off + j * 3, none⟩ = some (.int .u32 (t0 : Int)) ∧ w'.cell? ⟨b, off + j * 3 + 1, none⟩ = some (.int .u8 (r : Int)) ∧ w'.cell? ⟨b, off + j * 3 + 2, none⟩ = some (.int .i64 m0)) (by kernel_rfl) (keep5 HQ.out (drew1 _) (Below.refl _ _)) (fun hHeld => ?_)
                refine rN 0 ?_
                refine rN 1 ?_
                refine rN 2 ?_
                refine rN 3 ?_
                refine rN 4 ?_
                refine rN 5 ?_
                refine rN 6 ?_
                refine rN 7 ?_
                refine rN 8 ?_
                refine rN 9 ?_
                refine rN 10 ?_
                refine rN 11 ?_
                refine rN 12 ?_
                refine rN 13 ?_
                refine wpAnyH_ready (rs := [14]) (by kernel_rfl) (by simp) ?_
                refine AllReadyH.cons rfl (fun K hK => ?_) ?zb14
                case zb14 => exact AllReadyH.nil
                go_simp
                refine (E1.out _).mono ?_
                rintro e w9 ⟨rfl, b9⟩
                refine hK.out _ _ (keep5 HQ.out b9 hHeld.1) (fun hNew => ?_)
                clear hHeld b9
                have hHeld := hNew
                clear hNew hK K
                refine rX ?_
                refine rN 15 ?_
                refine rN 16 ?_
                refine rN 17 ?_
                refine rN 18 ?_
                refine rN 19 ?_
                refine rN 20 ?_
                refine rN 21 ?_
                refine rN 22 ?_
                refine rN 23 ?_
                refine rN 24 ?_
                refine rN 25 ?_
                refine rN 26 ?_
                refine rN 27 ?_
                refine rN 28 ?_
                refine rN 29 ?_
                refine rN 30 ?_
                refine rN 31 ?_
                refine rN 32 ?_
                refine rN 33 ?_
                refine rN 34 ?_
                refine rN 35 ?_
                refine rN 36 ?_
                refine rN 37 ?_
                refine rN 38 ?_
                refine rN 39 ?_
                refine rN 40 ?_
                refine wpAnyH_ready (rs := [41]) (by kernel_rfl) (by simp) ?_
                refine AllReadyH.cons rfl (fun K hK => ?_) ?zb41
                case zb41 => exact AllReadyH.nil
                go_simp
                refine (E1.out _).mono ?_
                rintro e w9 ⟨rfl, b9⟩
                refine hK.out _ _ (keep5 HQ.out b9 hHeld.1) (fun hNew => ?_)
                clear hHeld b9
                have hHeld := hNew
                clear hNew hK K
                refine rX ?_
                refine rN 42 ?_
                refine rN 43 ?_
                refine rN 44 ?_
                refine rN 45 ?_
                refine rN 46 ?_
                refine wpAnyH_done (by kernel_rfl) ?_ _
                go_wp2
                go_ret
                exact ⟨by rw [HF.out]; rfl, bt B3.out hHeld.1⟩
              · have a3 : ((t : Int) == z + 1) = false := by simp; omega
                have HC : Hid (Chain (l.take (k + 1))) := by
                  have := HNx.out (by omega)
                  rw [HJ.out]; exact this
                clear ha hs
                go_wp2_with fail
                refine wp_region_held_drew (S := fun w' => Below w3.heap.size w3 w' ∧ w'.cell? ⟨b, off + k * 3, none⟩ = some (.int .u32 (t : Int)) ∧ w'.cell? ⟨b, off + k * 3 + 1, none⟩ = some (.int .u8 (r : Int)) ∧ w'.cell? ⟨b, off + j * 3, none⟩ = some (.int .u32 (t0 : Int)) ∧ w'.cell? ⟨b, off + j * 3 + 1, none⟩ = some (.int .u8 (r : Int)) ∧ w'.cell? ⟨b, off + j * 3 + 2, none⟩ = some (.int .i64 m0)) (by kernel_rfl) (keep5 HQ.out (drew1 _) (Below.refl _ _)) (fun hHeld => ?_)
                refine rN 0 ?_
                refine rN 1 ?_
                refine rN 2 ?_
                refine rN 3 ?_
                refine rN 4 ?_
                refine rN 5 ?_
                refine rN 6 ?_
                refine rN 7 ?_
                refine rN 8 ?_
                refine rN 9 ?_
                refine rN 10 ?_
                refine rN 11 ?_
                refine rN 12 ?_
                refine rN 13 ?_
                refine wpAnyH_ready (rs := [14]) (by kernel_rfl) (by simp) ?_
                refine AllReadyH.cons rfl (fun K hK => ?_) ?zc14
                case zc14 => exact AllReadyH.nil
                go_simp
                refine (E1.out _).mono ?_
                rintro e w9 ⟨rfl, b9⟩
                refine hK.out _ _ (keep5 HQ.out b9 hHeld.1) (fun hNew => ?_)
                clear hHeld b9
                have hHeld := hNew
                clear hNew hK K
                refine rX ?_
                refine rN 15 ?_
                refine rN 16 ?_
                refine rN 17 ?_
                refine rN 18 ?_
                refine rN 19 ?_
                refine rN 20 ?_
                refine rN 21 ?_
                refine rN 22 ?_
                refine rN 23 ?_
                refine rN 24 ?_
                refine rN 25 ?_
                refine rN 26 ?_
                refine rN 27 ?_
                refine rN 28 ?_
                refine rN 29 ?_
                refine rN 30 ?_
                refine rN 31 ?_
                refine rN 32 ?_
                refine rN 33 ?_
                refine rN 34 ?_
                refine rN 35 ?_
                refine rN 36 ?_
                refine rN 37 ?_
                refine rN 38 ?_
                refine rN 39 ?_
                refine rN 40 ?_
                refine wpAnyH_ready (rs := [41]) (by kernel_rfl) (by simp) ?_
                refine AllReadyH.cons rfl (fun K hK => ?_) ?zc41
                case zc41 => exact AllReadyH.nil
                go_simp
                refine (E1.out _).mono ?_
                rintro e w9 ⟨rfl, b9⟩
                refine hK.out _ _ (keep5 HQ.out b9 hHeld.1) (fun hNew => ?_)
                clear hHeld b9
                have hHeld := hNew
                clear hNew hK K
                refine rX ?_
                refine rN 42 ?_
                refine rN 43 ?_
                refine rN 44 ?_
                refine rN 45 ?_
                refine rN 46 ?_
                refine wpAnyH_done (by kernel_rfl) ?_ _
                go_wp2
                go_roundw
                case rel => exact ⟨k + 1, by omega, by go_num, HC, Lib.hid (bt B3.out hHeld.1)⟩
                case measure => simp [intOf]; omega
            · have a2 : ((r : Int) == (r0 : Int)) = false := by simp; omega
              have a4 : decide (r = r0) = false := decide_eq_false hrr
              have HC : Hid (Chain (l.take (k + 1))) := by
                have := HNx.out ⟨by omega, fun h => absurd h hrr⟩
                rw [HJ.out]; exact this
              clear ha hrr
              go_wp2_with fail
              refine wp_region_held_drew (S := fun w' => Below w3.heap.size w3 w' ∧ w'.cell? ⟨b, off + k * 3, none⟩ = some (.int .u32 (t : Int)) ∧ w'.cell? ⟨b, off + k * 3 + 1, none⟩ = some (.int .u8 (r : Int)) ∧ w'.cell? ⟨b, off + j * 3, none⟩ = some (.int .u32 (t0 : Int)) ∧ w'.cell? ⟨b, off + j * 3 + 1, none⟩ = some (.int .u8 (r0 : Int)) ∧ w'.cell? ⟨b, off + j * 3 + 2, none⟩ = some (.int .i64 m0)) (by kernel_rfl) (keep5 HQ.out (drew1 _) (Below.refl _ _)) (fun hHeld => ?_)
              refine rN 0 ?_
              refine rN 1 ?_
              refine rN 2 ?_
              refine rN 3 ?_
              refine rN 4 ?_
              refine rN 5 ?_
              refine rN 6 ?_
              refine rN 7 ?_
              refine rN 8 ?_
              refine rN 9 ?_
              refine rN 10 ?_
              refine rN 11 ?_
              refine rN 12 ?_
              refine rN 13 ?_
              refine wpAnyH_ready (rs := [14]) (by kernel_rfl) (by simp) ?_
              refine AllReadyH.cons rfl (fun K hK => ?_) ?zd14
              case zd14 => exact AllReadyH.nil
              go_simp
              refine (E1.out _).mono ?_
              rintro e w9 ⟨rfl, b9⟩
              refine hK.out _ _ (keep5 HQ.out b9 hHeld.1) (fun hNew => ?_)
              clear hHeld b9
              have hHeld := hNew
              clear hNew hK K
              refine rX ?_
              refine rN 15 ?_
              refine rN 16 ?_
              refine rN 17 ?_
              refine rN 18 ?_
              refine rN 19 ?_
              refine rN 20 ?_
              refine rN 21 ?_
              refine rN 22 ?_
              refine rN 23 ?_
              refine rN 24 ?_
              refine rN 25 ?_
              refine rN 26 ?_
              refine rN 27 ?_
              refine rN 28 ?_
              refine rN 29 ?_
              refine rV 30 ?_
              refine rV 31 ?_
              refine rV 32 ?_
              refine rV 33 ?_
              refine rV 34 ?_
              refine rV 35 ?_
              refine rV 36 ?_
              refine rV 37 ?_
              refine rV 38 ?_
              refine rV 39 ?_
              refine rV 40 ?_
              refine rV 41 ?_
              refine rV 42 ?_
              refine rV 43 ?_
              refine rN 44 ?_
              refine rN 45 ?_
              refine rN 46 ?_
              refine wpAnyH_done (by kernel_rfl) ?_ _
              go_wp2
              go_roundw
              case rel => exact ⟨k + 1, by omega, by go_num, HC, Lib.hid (bt B3.out hHeld.1)⟩
              case measure => simp [intOf]; omega
    · have q1 : decide (k < n) = false := by simpa using hkn
      have hkk : l.take k = l := List.take_of_length_le (by have := HN.out; omega)
      have hc : Chain l := by have := hch.out; rwa [hkk] at this
      have V1 : Runs wr (.slice ao n cap) l := by
        have := HV.out.keeps hbel.out
        rwa [← HN.out] at this
      obtain ⟨z, hz⟩ : ∃ z, z = long l := ⟨_, rfl⟩
      have LG : Hid (Calls Tryz.prog 99 #[.slice ao n cap] wr fun e w' => e = .returned (.int .i64 z) ∧ wr = w') := by
        rw [hz]
        exact long_any V1 (by rw [← HN.out]; omega) (fun j hj => by have h := chain_one hc hj; exact ⟨h.2.2.2.1, by have := h.2.2.2.2.1; omega⟩)
      obtain ⟨qb, hqb⟩ : ∃ qb, qb = decide (z ≤ 4096) := ⟨_, rfl⟩
      have HF : Hid (mayB l = qb) := by
        show _ = _
        unfold mayB
        rw [(chainB_iff l).2 hc, ← hz, ← hqb, decide_eq_true (by rw [← HN.out]; omega), decide_eq_true (by rw [← HN.out]; omega)]
        simp
      have hqb' := hqb.symm
      clear hz hkk hc V1 hqb
      go_wp2_with fail
      refine LG.out.mono ?_
      rintro e w3 ⟨rfl, rfl⟩
      go_wp2
      go_ret
      exact ⟨by rw [HF.out]; rfl, hbel.out⟩
theorem refMay_is {v : Value} {l : List Run} {w : World} (hv : Runs w v l) {b : Bool} (h : mayB l = b) :
    Calls Tryz.prog 136 #[v] w fun e w' => e = .returned (.bool b) ∧ Below w.heap.size w w' := by
  rw [← h]; exact refMay_any hv
theorem refAny_any {v : Value} {l : List Run} {w : World} (hv : Runs w v l) :
    Calls Tryz.prog 95 #[v] w fun e w' => e = .returned (.bool (anyB l)) ∧ Below w.heap.size w w' := by
  obtain ⟨ao, cap, rfl⟩ := hv.shape
  obtain ⟨n, hn⟩ : ∃ n, n = l.length := ⟨_, rfl⟩
  obtain ⟨mb, hmb⟩ : ∃ mb, mayB l = mb := ⟨_, rfl⟩
  have M : Hid (Calls Tryz.prog 136 #[.slice ao l.length cap] w fun e w' => e = .returned (.bool mb) ∧ Below w.heap.size w w') := refMay_is hv hmb
  have HA : Hid (anyB l = (decide (n = 0) || mb)) := by show _ = _; unfold anyB; rw [hmb, hn]
  rw [← hn] at M ⊢
  rw [HA.out]
  clear hv hmb hn HA
  by_cases h0 : n = 0
  · subst h0
    go_enter Tryz.func95, Tryz.ntmps95
    go_wp2
    go_ret
    exact ⟨rfl, Below.refl _ _⟩
  · rw [decide_eq_false h0, Bool.false_or]
    have t1 : ((n : Int) == 0) = false := by simp; omega
    go_enter Tryz.func95, Tryz.ntmps95
    go_wp2_with fail
    refine M.out.mono ?_
    rintro e w1 ⟨rfl, b1⟩
    go_wp2
    go_ret
    exact ⟨rfl, b1⟩
theorem refAny_is {v : Value} {l : List Run} {w : World} (hv : Runs w v l) {b : Bool} (h : anyB l = b) :
    Calls Tryz.prog 95 #[v] w fun e w' => e = .returned (.bool b) ∧ Below w.heap.size w w' := by
  rw [← h]; exact refAny_any hv
end Go.Proofs.YtgjbnbojjgbmcaaGreat.Place

namespace Go.Proofs.YtgjbnbojjgbmcaaGreat.Place
open Go.RowKit Stamp
attribute [local go_sem ↓] Go.wp_at_zero Go.wp_at_succ
theorem keep3 {wl w1 w2 : World} {b o1 o2 o3 : Nat} {c1 c2 c3 : Value} (q : b < wl.heap.size ∧ wl.cell? ⟨b, o1, none⟩ = some c1 ∧ wl.cell? ⟨b, o2, none⟩ = some c2 ∧ wl.cell? ⟨b, o3, none⟩ = some c3) (h : Below w1.heap.size w1 w2) (hb : Below wl.heap.size wl w1) :
    Below wl.heap.size wl w2 ∧ w2.cell? ⟨b, o1, none⟩ = some c1 ∧ w2.cell? ⟨b, o2, none⟩ = some c2 ∧ w2.cell? ⟨b, o3, none⟩ = some c3 :=
  have a := bt hb h
  ⟨a, (a.cell (p := ⟨b, o1, none⟩) q.1).trans q.2.1, (a.cell (p := ⟨b, o2, none⟩) q.1).trans q.2.2.1, (a.cell (p := ⟨b, o3, none⟩) q.1).trans q.2.2.2⟩
/-- A run's cells, in the midst of a block. -/
def Pos3 (w : World) (b off t r : Nat) (m : Int) : Prop := b < w.heap.size ∧ w.cell? ⟨b, off, none⟩ = some (.int .u32 (t : Int)) ∧ w.cell? ⟨b, off + 1, none⟩ = some (.int .u8 (r : Int)) ∧ w.cell? ⟨b, off + 2, none⟩ = some (.int .i64 m)
set_option maxHeartbeats 2000000 in
theorem cut_any {v : Value} {x : Run} {q : List Run} {w : World} {n : Nat} (hv : Runs w v (x :: q)) (hl : q.length ≤ 1000) (hx : One x) (h1 : 1 ≤ n) (hn : (n : Int) ≤ x.m) :
    Calls Tryz.prog 180 #[v, .int .i64 (n : Int)] w fun e w' => ∃ v', e = .returned v' ∧ Runs w' v' (cut x q n) ∧ Below w.heap.size w w' := by
  obtain ⟨ao, cap, rfl⟩ := hv.shape
  obtain ⟨b, off, rfl, hb, hx0, hx1, hx2⟩ := hv.at 0 (by simp)
  have hcap := Sees.cap hv
  have RT := Lib.hid (Runs.rest hv)
  obtain ⟨len, hlen⟩ : ∃ len, len = (x :: q).length := ⟨_, rfl⟩
  have hlen2 : len = q.length + 1 := by rw [hlen]; simp
  rw [← hlen] at hcap RT ⊢
  have hx0 : w.cell? ⟨b, off, none⟩ = some (.int .u32 (x.t : Int)) := by simpa using hx0
  have hx1 : w.cell? ⟨b, off + 1, none⟩ = some (.int .u8 (x.r : Int)) := by simpa using hx1
  have hx2 : w.cell? ⟨b, off + 2, none⟩ = some (.int .i64 x.m) := by simpa using hx2
  obtain ⟨t, r, m, ht, hr, hm⟩ := x
  simp only at hx0 hx1 hx2 hn
  have hone := hx
  unfold One at hone
  simp only at hone
  have hl1 : 1 ≤ len := by omega
  have hlc : len ≤ cap := hcap.2.1
  have hcm : cap ≤ 9223372036854775807 := hcap.2.2.1
  by_cases he : m = (n : Int)
  · have hcut : cut ⟨t, r, m, ht, hr, hm⟩ q n = q := by unfold cut; simp only; rw [if_pos he]
    have HC := Lib.hid hcut
    subst he
    clear hv hcut hlen hlen2 hcap hx hone hx0 hx1
    by_cases hc : cap = 1
    · subst hc
      obtain rfl : len = 1 := by omega
      go_enter Tryz.func180, Tryz.ntmps180
      go_wp2
      go_ret
      refine ⟨_, rfl, ?_, Below.refl _ _⟩
      rw [HC.out]
      have := RT.out
      simpa using this
    · have hc' : (1 : Int) < (cap : Int) := by omega
      have RT2 : Hid (Runs w (.slice (some ⟨b, off + 3, none⟩) (len - 1) (cap - 1)) q) := by
        have := RT.out
        rwa [if_neg hc] at this
      clear RT
      go_enter Tryz.func180, Tryz.ntmps180
      go_wp2
      go_ret
      refine ⟨_, rfl, ?_, Below.refl _ _⟩
      rw [HC.out]
      have := RT2.out
      simpa [hc] using this
  · have hlt : (n : Int) < m := by omega
    have hcut : cut ⟨t, r, m, ht, hr, hm⟩ q n = mkRun (t + n) r (m - n) :: q := by unfold cut; simp only; rw [if_neg he]
    have HC := Lib.hid hcut
    have u1 : ((m : Int) == (n : Int)) = false := by simp; omega
    have hrn : runs (mkRun (t + n) r (m - n) :: q) = .int .u32 ((t : Int) + n) :: .int .u8 (r : Int) :: .int .i64 (m - n) :: runs q := by
      rw [runs, mkRun_t (by omega), mkRun_r hr, mkRun_m (by omega)]
      rfl
    have HR := Lib.hid hrn
    have HV : Hid (Pos3 w b off t r m) := ⟨hb, hx0, hx1, hx2⟩
    have HL := Lib.hid hlen2
    obtain ⟨o1, o2, o3, o4, o5, o6⟩ := hone
    have e1 : IntKind.u32.wrap ((t : Int) + (n : Int)) = (t : Int) + (n : Int) := by rw [IntKind.wrap_u32]; omega
    have e2 : IntKind.i64.wrap (m - (n : Int)) = m - (n : Int) := IntWalk.i64_in _ (by omega)
    have e3 : IntKind.u32.wrap (n : Int) = (n : Int) := by rw [IntKind.wrap_u32]; omega
    have q0 : 0 < len := by omega
    have q1 : (0 : Int) < (len : Int) := by omega
    have BW : Hid (Below w.heap.size w ((w.alloc (.cells #[.int .u32 ((t : Int) + n), .int .u8 (r : Int), .int .i64 (m - n)] 32)).drew)) := ((Below.refl _ _).alloc (Nat.le_refl _) _).drew
    have OW : Hid (((w.alloc (.cells #[.int .u32 ((t : Int) + n), .int .u8 (r : Int), .int .i64 (m - n)] 32)).drew).ownsRow w.heap.size 32 3 (.slice (some ⟨w.heap.size, 0, none⟩) 1 1) 1 [.int .u32 ((t : Int) + n), .int .u8 (r : Int), .int .i64 (m - n)]) :=
      own_blk3 (Nat.le_refl _) (blk_drew (blk_new rfl))
    have hlq : q.length = len - 1 := by omega
    clear hv hcut hrn hlen hlen2 hcap hx he hlt hx0 hx1 hx2
    by_cases hc : cap = 1
    · subst hc
      obtain rfl : len = 1 := by omega
      have SQ : Hid (Sees ((w.alloc (.cells #[.int .u32 ((t : Int) + n), .int .u8 (r : Int), .int .i64 (m - n)] 32)).drew) (.slice (some ⟨b, off, none⟩) 0 0) 3 0 (runs q)) := by
        have h := RT.out.keeps BW.out
        unfold Runs at h
        rw [hlq] at h
        unfold Hid
        simpa using h
      clear RT hlq
      go_enter Tryz.func180, Tryz.ntmps180
      go_wp2
      go_region_held3 (fun w' => Below w.heap.size w w' ∧ w'.cell? ⟨b, off, none⟩ = some (.int .u32 (t : Int)) ∧ w'.cell? ⟨b, off + 1, none⟩ = some (.int .u8 (r : Int)) ∧ w'.cell? ⟨b, off + 2, none⟩ = some (.int .i64 m))
        (first | exact keep3 HV.out (drew1 _) (Below.refl _ _) | (go_split_ands; exact keep3 HV.out (drew1 _) (by assumption)) | (go_split_ands; exact keep3 HV.out ((Below.refl _ _).alloc (Nat.le_refl _) _) (by assumption)) | (go_split_ands; exact keep3 HV.out (((Below.refl _ _).alloc (Nat.le_refl _) _).drew) (by assumption)))
        (fail)
      go_wp2_with (at_builtin; refine wpList_append_sees rfl (.tmp 33) (.tmp 35) 33 32 rfl Tryz.underlying33 run_info rfl (by decide) w.heap.size _ 1 _ rfl OW.out _ 0 _ rfl SQ.out (runs_oneCell q) ?k1 ?k2 ?k3 ?_)
      case k1 => omega
      case k2 => omega
      case k3 => exact BW.out.size
      rintro v1 w1 o1 g1 b1
      have B1 := Lib.hid (BW.out.trans b1)
      have O1 := Lib.hid o1
      clear o1 g1 b1
      go_wp2
      go_ret
      refine ⟨_, rfl, ?_, B1.out⟩
      rw [HC.out]
      have h := O1.out
      rw [← HR.out] at h
      exact Go.Proofs.YtgjbnbojjgbmcaaGreat.Runs.own h
    · have hc' : (1 : Int) < (cap : Int) := by omega
      have SQ : Hid (Sees ((w.alloc (.cells #[.int .u32 ((t : Int) + n), .int .u8 (r : Int), .int .i64 (m - n)] 32)).drew) (.slice (some ⟨b, off + 3, none⟩) (len - 1) (cap - 1)) 3 (len - 1) (runs q)) := by
        have h := RT.out.keeps BW.out
        unfold Runs at h
        rw [hlq, if_neg hc] at h
        exact h
      clear RT hlq
      go_enter Tryz.func180, Tryz.ntmps180
      go_wp2
      go_region_held3 (fun w' => Below w.heap.size w w' ∧ w'.cell? ⟨b, off, none⟩ = some (.int .u32 (t : Int)) ∧ w'.cell? ⟨b, off + 1, none⟩ = some (.int .u8 (r : Int)) ∧ w'.cell? ⟨b, off + 2, none⟩ = some (.int .i64 m))
        (first | exact keep3 HV.out (drew1 _) (Below.refl _ _) | (go_split_ands; exact keep3 HV.out (drew1 _) (by assumption)) | (go_split_ands; exact keep3 HV.out ((Below.refl _ _).alloc (Nat.le_refl _) _) (by assumption)) | (go_split_ands; exact keep3 HV.out (((Below.refl _ _).alloc (Nat.le_refl _) _).drew) (by assumption)))
        (fail)
      go_wp2_with (at_builtin; refine wpList_append_sees rfl (.tmp 33) (.tmp 35) 33 32 rfl Tryz.underlying33 run_info rfl (by decide) w.heap.size _ 1 _ rfl OW.out _ (len - 1) _ rfl SQ.out (runs_oneCell q) ?k1 ?k2 ?k3 ?_)
      case k1 => have := HL.out; omega
      case k2 => have := HL.out; omega
      case k3 => exact BW.out.size
      rintro v1 w1 o1 g1 b1
      have B1 := Lib.hid (BW.out.trans b1)
      have O1 := Lib.hid o1
      clear o1 g1 b1
      go_wp2
      go_ret
      refine ⟨_, rfl, ?_, B1.out⟩
      rw [HC.out]
      have h := O1.out
      rw [← HR.out] at h
      exact Go.Proofs.YtgjbnbojjgbmcaaGreat.Runs.own h
end Go.Proofs.YtgjbnbojjgbmcaaGreat.Place

namespace Go.Proofs.YtgjbnbojjgbmcaaGreat.Stamp
open Go.RowKit Flo
theorem refMay_any (t r : Nat) (w : World) :
    Calls Tryz.prog 96 #[.agg #[.int .u32 (t : Int), .int .u8 (r : Int)]] w fun e w' => e = .returned (.bool (may t r)) ∧ Below w.heap.size w w' := by
  have q : (decide (1 ≤ (t : Int)) = false ∧ may t r = false) ∨ (decide (1 ≤ (t : Int)) = true ∧ decide ((t : Int) ≤ 1073741824) = false ∧ may t r = false) ∨
      (decide (1 ≤ (t : Int)) = true ∧ decide ((t : Int) ≤ 1073741824) = true ∧ decide ((r : Int) < 8) = false ∧ may t r = false) ∨
      (decide (1 ≤ (t : Int)) = true ∧ decide ((t : Int) ≤ 1073741824) = true ∧ decide ((r : Int) < 8) = true ∧ may t r = true) := by
    by_cases h1 : 1 ≤ t
    · by_cases h2 : t ≤ 1073741824
      · by_cases h3 : r < 8
        · exact .inr (.inr (.inr ⟨decide_eq_true (by omega), decide_eq_true (by omega), decide_eq_true (by omega), by rw [may_iff]; omega⟩))
        · exact .inr (.inr (.inl ⟨decide_eq_true (by omega), decide_eq_true (by omega), decide_eq_false (by omega), by rw [may_no]; omega⟩))
      · exact .inr (.inl ⟨decide_eq_true (by omega), decide_eq_false (by omega), by rw [may_no]; omega⟩)
    · exact .inl ⟨decide_eq_false (by omega), by rw [may_no]; omega⟩
  have q' : (1 ≤ t) ∨ t = 0 := by omega
  rcases q with ⟨q1, h⟩ | ⟨q1, q2, h⟩ | ⟨q1, q2, q3, h⟩ | ⟨q1, q2, q3, h⟩
  all_goals
    rw [h]
    clear h q'
    go_enter Tryz.func96, Tryz.ntmps96
    go_wp2
    go_ret
    exact ⟨rfl, (Below.refl _ _).alloc (Nat.le_refl _) _⟩
theorem refLess_any (t r u s : Nat) (w : World) :
    Calls Tryz.prog 127 #[.agg #[.int .u32 (t : Int), .int .u8 (r : Int)], .agg #[.int .u32 (u : Int), .int .u8 (s : Int)]] w fun e w' => e = .returned (.bool (less t r u s)) ∧ Below w.heap.size w w' := by
  obtain ⟨q, hq⟩ : ∃ q, q = less t r u s := ⟨_, rfl⟩
  have hl : (decide ((t : Int) < (u : Int)) = true ∧ decide (t < u) = true ∧ true = q) ∨ (decide ((t : Int) < (u : Int)) = false ∧ decide (t < u) = false ∧ ((t : Int) == (u : Int)) = true ∧ decide (t = u) = true ∧ decide (r < s) = q) ∨
      (decide ((t : Int) < (u : Int)) = false ∧ decide (t < u) = false ∧ ((t : Int) == (u : Int)) = false ∧ decide (t = u) = false ∧ false = q) := by
    rw [hq]
    by_cases h1 : t < u
    · exact .inl ⟨decide_eq_true (by omega), decide_eq_true h1, by rw [eq_comm, less_iff]; omega⟩
    · by_cases h2 : t = u
      · refine .inr (.inl ⟨decide_eq_false (by omega), decide_eq_false h1, by simp [h2], decide_eq_true h2, ?_⟩)
        unfold less; congr 1; simp; omega
      · exact .inr (.inr ⟨decide_eq_false (by omega), decide_eq_false h1, by simp; omega, decide_eq_false h2, by rw [eq_comm, less_no]; omega⟩)
  rw [← hq]
  clear hq
  rcases hl with ⟨k1, k2, rfl⟩ | ⟨k1, k2, k3, k4, k5⟩ | ⟨k1, k2, k3, k4, rfl⟩
  all_goals
    go_enter Tryz.func127, Tryz.ntmps127
    go_wp2
    go_ret
    exact ⟨by first | rfl | rw [← k5], ((Below.refl _ _).alloc (Nat.le_refl _) _).alloc (by simp) _⟩
end Go.Proofs.YtgjbnbojjgbmcaaGreat.Stamp

namespace Go.Proofs.YtgjbnbojjgbmcaaGreat.Place
open Go.RowKit Stamp
attribute [local go_sem ↓] Go.wp_at_zero Go.wp_at_succ
theorem nl_cut {x : Run} {p : List Run} {n : Nat} (h : One x) (hn : (n : Int) ≤ x.m) : nl (cut x p n) + n = nl (x :: p) := by
  obtain ⟨k, hk, h1, h2, h3, h4⟩ := h.nat
  unfold cut
  by_cases he : x.m = (n : Int)
  · rw [if_pos he, nl]; omega
  · rw [if_neg he, nl, nl, mkRun_m (by omega)]; omega
theorem cut_len {x : Run} {p : List Run} {n : Nat} : (cut x p n).length ≤ p.length + 1 := by
  unfold cut; split <;> simp
/-- What stands at the head of the loop of two places held against each other. -/
def Two (w : World) (h0 : Int) (f0 : Bool) (a b : Value) (wr : World) : Prop :=
  ∃ p q : List Run, Runs wr a p ∧ Runs wr b q ∧ Chain p ∧ Chain q ∧ p.length ≤ 100 ∧ q.length ≤ 100 ∧ hold (all p) (all q) = h0 ∧ first (all p) (all q) = f0 ∧ Below w.heap.size w wr
theorem keepA3 {wl w2 : World} {b off t r : Nat} {m : Int} (q : Pos3 wl b off t r m) (h : Below wl.heap.size wl w2) :
    Below wl.heap.size wl w2 ∧ w2.cell? ⟨b, off, none⟩ = some (.int .u32 (t : Int)) ∧ w2.cell? ⟨b, off + 1, none⟩ = some (.int .u8 (r : Int)) :=
  ⟨h, (h.cell (p := ⟨b, off, none⟩) q.1).trans q.2.1, (h.cell (p := ⟨b, off + 1, none⟩) q.1).trans q.2.2.1⟩
theorem keepM {wl w2 : World} {b1 o1 t1 r1 b2 o2 t2 r2 : Nat} {m1 m2 : Int} (q : Pos3 wl b1 o1 t1 r1 m1) (q2 : Pos3 wl b2 o2 t2 r2 m2) (h : Below wl.heap.size wl w2) :
    Below wl.heap.size wl w2 ∧ w2.cell? ⟨b1, o1 + 2, none⟩ = some (.int .i64 m1) ∧ w2.cell? ⟨b2, o2 + 2, none⟩ = some (.int .i64 m2) :=
  ⟨h, (h.cell (p := ⟨b1, o1 + 2, none⟩) q.1).trans q.2.2.2, (h.cell (p := ⟨b2, o2 + 2, none⟩) q2.1).trans q2.2.2.2⟩
set_option maxRecDepth 100000 in
set_option maxHeartbeats 4000000 in
theorem held_any {a b : Value} {p q : List Run} {w : World} (ha : Runs w a p) (hb : Runs w b q) (hp : Chain p) (hq : Chain q) (lp : p.length ≤ 100) (lq : q.length ≤ 100) :
    Calls Tryz.prog 129 #[a, b] w fun e w' => e = .returned (.int .i64 (hold (all p) (all q))) ∧ Below w.heap.size w w' := by
  obtain ⟨h0, hh0⟩ : ∃ h0, h0 = hold (all p) (all q) := ⟨_, rfl⟩
  have H0 : Hid (Two w h0 (first (all p) (all q)) a b w) := ⟨p, q, ha, hb, hp, hq, lp, lq, hh0.symm, rfl, Below.refl _ _⟩
  rw [← hh0]
  obtain ⟨f0, hf0⟩ : ∃ f0, f0 = first (all p) (all q) := ⟨_, rfl⟩
  rw [← hf0] at H0
  clear hh0 hf0 ha hb hp hq lp lq p q
  go_enter Tryz.func129, Tryz.ntmps129
  go_wp2
  go_loopw [0, 1] (fun a b wr => Hid (Two w h0 f0 a b wr)) (fun a b wr => totV wr a + totV wr b)
  case atStart => exact H0
  case round =>
    obtain ⟨p, q, ha, hb, hp, hq, lp, lq, hh, hf, hbel⟩ := hrel.out
    have HFst := Lib.hid hf
    clear hrel hf
    cases p with
    | nil =>
      obtain ⟨ao, ca, rfl⟩ := ha.shape
      obtain ⟨bo, cb, rfl⟩ := hb.shape
      have HB := Lib.hid hbel
      cases q with
      | nil =>
        have hz : h0 = 0 := by rw [← hh]; rfl
        subst hz
        clear ha hb hp hq hh hbel
        go_wp2
        go_ret
        exact ⟨rfl, HB.out⟩
      | cons y q =>
        have hz : h0 = -1 := by rw [← hh]; exact hold_left hq.head
        have hl : decide ((0 : Int) < ((y :: q).length : Int)) = true := decide_eq_true (by simp)
        obtain ⟨n2, hn2⟩ : ∃ n2, n2 = (y :: q).length := ⟨_, rfl⟩
        have hp2 : 0 < n2 := by rw [hn2]; simp
        have hl2 : decide (0 < n2) = true := decide_eq_true hp2
        rw [← hn2] at hl ⊢
        subst hz
        clear ha hb hp hq hh hbel hn2
        go_wp2
        go_ret
        exact ⟨rfl, HB.out⟩
    | cons x p =>
      obtain ⟨ao, ca, rfl⟩ := ha.shape
      obtain ⟨bo, cb, rfl⟩ := hb.shape
      obtain ⟨n1, hn1⟩ : ∃ n1, n1 = (x :: p).length := ⟨_, rfl⟩
      have hp1 : 0 < n1 := by rw [hn1]; simp
      have hl1 : decide (0 < n1) = true := decide_eq_true hp1
      have hl1' : (0 : Int) < (n1 : Int) := by omega
      cases q with
      | nil =>
        have HB := Lib.hid hbel
        have hz : h0 = 1 := by rw [← hh]; exact hold_right hp.head
        subst hz
        rw [← hn1]
        clear ha hb hp hq hh hbel hn1
        go_wp2
        go_ret
        exact ⟨rfl, HB.out⟩
      | cons y q =>
        obtain ⟨n2, hn2⟩ : ∃ n2, n2 = (y :: q).length := ⟨_, rfl⟩
        have hp2 : 0 < n2 := by rw [hn2]; simp
        have hl2 : decide (0 < n2) = true := decide_eq_true hp2
        have hl2' : (0 : Int) < (n2 : Int) := by omega
        obtain ⟨b1, o1, rfl, hb1, hx0, hx1, hx2⟩ := ha.at 0 (by simp)
        obtain ⟨b2, o2, rfl, hb2, hy0, hy1, hy2⟩ := hb.at 0 (by simp)
        have XA : Hid (Pos3 wr b1 o1 x.t x.r x.m) := ⟨hb1, by simpa using hx0, by simpa using hx1, by simpa using hx2⟩
        have XB : Hid (Pos3 wr b2 o2 y.t y.r y.m) := ⟨hb2, by simpa using hy0, by simpa using hy1, by simpa using hy2⟩
        have hlx : p.length ≤ 99 ∧ q.length ≤ 99 := by simp at lp lq; omega
        have HA := Lib.hid (show Runs wr (.slice (some ⟨b1, o1, none⟩) n1 ca) (x :: p) by rw [hn1]; exact ha)
        have HB := Lib.hid (show Runs wr (.slice (some ⟨b2, o2, none⟩) n2 cb) (y :: q) by rw [hn2]; exact hb)
        have HP := Lib.hid hp
        have HQ := Lib.hid hq
        have HH := Lib.hid hh
        have HBel := Lib.hid hbel
        have HN1 := Lib.hid hn1
        have HN2 := Lib.hid hn2
        rw [← hn1, ← hn2]
        clear ha hb hp hq hh hbel hn1 hn2 hx0 hx1 hx2 hy0 hy1 hy2 hb1 hb2
        have hbel := HBel
        obtain ⟨t1, r1, m1, ht1, hr1, hm1⟩ := x
        obtain ⟨t2, r2, m2, ht2, hr2, hm2⟩ := y
        simp only at XA XB
        have hsz := hbel.out.size
        obtain ⟨lb, hlb⟩ : ∃ lb, less t2 r2 t1 r1 = lb := ⟨_, rfl⟩
        have LS : Hid (∀ W : World, Calls Tryz.prog 127 #[.agg #[.int .u32 (t2 : Int), .int .u8 (r2 : Int)], .agg #[.int .u32 (t1 : Int), .int .u8 (r1 : Int)]] W fun e w' => e = .returned (.bool lb) ∧ Below W.heap.size W w') := fun W => by
          have := refLess_any t2 r2 t1 r1 W
          rwa [hlb] at this
        go_wp2_with fail
        go_region_held3 (fun w' => Below wr.heap.size wr w' ∧ w'.cell? ⟨b1, o1, none⟩ = some (.int .u32 (t1 : Int)) ∧ w'.cell? ⟨b1, o1 + 1, none⟩ = some (.int .u8 (r1 : Int)))
          (first | (go_split_ands; refine keepA3 XA.out ?_; repeat' (first | assumption | exact Below.refl _ _ | (with_reducible refine Below.drew ?_) | (with_reducible refine Below.alloc ?_ ?_ _) | exact Nat.le_refl _ | (show (_ : Nat) ≤ _; omega) | (show (_ : Nat) ≤ _; simp; done) | (show (_ : Nat) ≤ _; simp; omega))))
          (fail)
        go_wp2_with fail
        go_region_held3 (fun w' => Below wr.heap.size wr w' ∧ w'.cell? ⟨b2, o2, none⟩ = some (.int .u32 (t2 : Int)) ∧ w'.cell? ⟨b2, o2 + 1, none⟩ = some (.int .u8 (r2 : Int)))
          (first | (go_split_ands; refine keepA3 XB.out ?_; repeat' (first | assumption | exact Below.refl _ _ | (with_reducible refine Below.drew ?_) | (with_reducible refine Below.alloc ?_ ?_ _) | exact Nat.le_refl _ | (show (_ : Nat) ≤ _; omega) | (show (_ : Nat) ≤ _; simp; done) | (show (_ : Nat) ≤ _; simp; omega))))
          (fail)
        by_cases hxy : t1 = t2 ∧ r1 = r2
        · obtain ⟨rfl, rfl⟩ := hxy
          have hOX := HP.out.head
          have hOY := HQ.out.head
          obtain ⟨k1, j1, j2, j3, _, _⟩ := hOX.nat
          obtain ⟨k2, j4, j5, j6, _, _⟩ := hOY.nat
          simp only at j1 j4
          obtain ⟨n, hn⟩ : ∃ n, n = min k1 k2 := ⟨_, rfl⟩
          have hmin : (if m2 < m1 then m2 else m1) = (n : Int) := by split <;> omega
          have hmin2 : min m1 m2 = (n : Int) := by omega
          have hmin3 : min m2 m1 = (n : Int) := by omega
          have hle1 : (n : Int) ≤ m1 := by omega
          have hle2 : (n : Int) ≤ m2 := by omega
          have hn1 : 1 ≤ n := by omega
          have HOX := Lib.hid hOX
          have HOY := Lib.hid hOY
          have HLe := Lib.hid (And.intro hle1 hle2)
          clear hOX hOY j1 j2 j3 j4 j5 j6 hn hlb LS hle1 hle2
          go_wp2_with fail
          go_region_held3 (fun w' => Below wr.heap.size wr w' ∧ w'.cell? ⟨b1, o1 + 2, none⟩ = some (.int .i64 m1) ∧ w'.cell? ⟨b2, o2 + 2, none⟩ = some (.int .i64 m2))
            (first | (go_split_ands; refine keepM XA.out XB.out ?_; repeat' (first | assumption | exact Below.refl _ _ | (with_reducible refine Below.drew ?_) | (with_reducible refine Below.alloc ?_ ?_ _) | exact Nat.le_refl _ | (show (_ : Nat) ≤ _; omega) | (show (_ : Nat) ≤ _; simp; done) | (show (_ : Nat) ≤ _; simp; omega))))
            (fail)
          go_wp2_with fail
          refine (cut_any (n := n) (HA.out.keeps ?hc) ?hl HOX.out hn1 HLe.out.1).mono ?_
          case hc => repeat' (first | assumption | exact Below.refl _ _ | (with_reducible refine Below.drew ?_) | (with_reducible refine Below.alloc ?_ ?_ _) | exact Nat.le_refl _ | (show (_ : Nat) ≤ _; omega) | (show (_ : Nat) ≤ _; simp; done) | (show (_ : Nat) ≤ _; simp; omega))
          case hl => omega
          rintro e w5 ⟨v1, rfl, c1, b5⟩
          refine Go.Proofs.YtgjbnbojjgbmcaaGreat.hold (fun (B5 : Below wr.heap.size wr w5) => ?_) (below_next ?hc ?hd b5)
          case hc => repeat' (first | assumption | exact Below.refl _ _ | (with_reducible refine Below.drew ?_) | (with_reducible refine Below.alloc ?_ ?_ _) | exact Nat.le_refl _ | (show (_ : Nat) ≤ _; omega) | (show (_ : Nat) ≤ _; simp; done) | (show (_ : Nat) ≤ _; simp; omega))
          case hd => (refine Below.size (?_ : Below wr.heap.size wr _); repeat' (first | assumption | exact Below.refl _ _ | (with_reducible refine Below.drew ?_) | (with_reducible refine Below.alloc ?_ ?_ _) | exact Nat.le_refl _ | (show (_ : Nat) ≤ _; omega) | (show (_ : Nat) ≤ _; simp; done) | (show (_ : Nat) ≤ _; simp; omega)))
          have HB5 := Lib.hid (HB.out.keeps B5)
          have C1 := Lib.hid c1
          clear c1 b5
          go_wp2_with fail
          refine (cut_any (n := n) HB5.out ?hl HOY.out hn1 HLe.out.2).mono ?_
          case hl => omega
          rintro e w6 ⟨v2, rfl, c2, b6⟩
          have C2 := Lib.hid c2
          have C1' := Lib.hid (C1.out.keeps b6)
          have B6 := Lib.hid (bt B5 b6)
          clear c2 b6
          go_wp2
          go_roundw
          case rel =>
            refine Lib.hid ⟨_, _, C1'.out, C2.out, HP.out.cut HLe.out.1, HQ.out.cut HLe.out.2, ?_, ?_, ?_, ?_, bt hbel.out B6.out⟩
            · exact Nat.le_trans cut_len (by omega)
            · exact Nat.le_trans cut_len (by omega)
            · rw [← HH.out]; exact (hold_cut HOX.out HOY.out rfl rfl HLe.out.1 HLe.out.2).symm
            · rw [← HFst.out]; exact (first_cut HOX.out HOY.out rfl rfl HLe.out.1 HLe.out.2).symm
          case measure =>
            show totV _ v1 + totV _ v2 < totV wr _ + totV wr _
            rw [totV_runs C1'.out, totV_runs C2.out]
            have e1 := totV_runs HA.out
            have e2 := totV_runs HB.out
            have e3 := nl_cut (p := p) HOX.out HLe.out.1
            have e4 := nl_cut (p := q) HOY.out HLe.out.2
            have e5 : totV wr (.slice (some ⟨b1, o1, none⟩) n1 ca) + totV wr (.slice (some ⟨b2, o2, none⟩) n2 cb) = nl (⟨t1, r1, m1, ht1, hr1, hm1⟩ :: p) + nl (⟨t1, r1, m2, ht2, hr2, hm2⟩ :: q) := by rw [e1, e2]
            refine Nat.lt_of_lt_of_eq ?_ e5.symm
            omega
        · have hz : h0 = if lb = true then -1 else 1 := by
            rw [← HH.out, hold_part HP.out.head HQ.out.head hxy, hlb]
          have hne : ¬ t1 = t2 ∨ (t1 = t2 ∧ ¬ r1 = r2) := by
            by_cases h : t1 = t2
            · exact .inr ⟨h, fun h2 => hxy ⟨h, h2⟩⟩
            · exact .inl h
          clear hxy hlb
          cases lb
          · simp only [Bool.false_eq_true, if_false] at hz
            subst hz
            rcases hne with hne | ⟨rfl, hne⟩
            · go_wp2_with fail
              refine (LS.out _).mono ?_
              rintro e w5 ⟨rfl, b5⟩
              have B5 : Hid (Below w.heap.size w w5) := by
                show Below _ _ _
                refine hbel.out.trans (Below.mono (Below.trans ?hc (Below.mono b5 ?hd)) hbel.out.size)
                case hc => repeat' (first | assumption | exact Below.refl _ _ | (with_reducible refine Below.drew ?_) | (with_reducible refine Below.alloc ?_ ?_ _) | exact Nat.le_refl _ | (show (_ : Nat) ≤ _; omega) | (show (_ : Nat) ≤ _; simp; done) | (show (_ : Nat) ≤ _; simp; omega))
                case hd => simp; omega
              clear b5
              go_wp2
              go_ret
              exact ⟨rfl, B5.out⟩
            · go_wp2_with fail
              refine (LS.out _).mono ?_
              rintro e w5 ⟨rfl, b5⟩
              have B5 : Hid (Below w.heap.size w w5) := by
                show Below _ _ _
                refine hbel.out.trans (Below.mono (Below.trans ?hc (Below.mono b5 ?hd)) hbel.out.size)
                case hc => repeat' (first | assumption | exact Below.refl _ _ | (with_reducible refine Below.drew ?_) | (with_reducible refine Below.alloc ?_ ?_ _) | exact Nat.le_refl _ | (show (_ : Nat) ≤ _; omega) | (show (_ : Nat) ≤ _; simp; done) | (show (_ : Nat) ≤ _; simp; omega))
                case hd => simp; omega
              clear b5
              go_wp2
              go_ret
              exact ⟨rfl, B5.out⟩
          · simp only [if_true] at hz
            subst hz
            rcases hne with hne | ⟨rfl, hne⟩
            · go_wp2_with fail
              refine (LS.out _).mono ?_
              rintro e w5 ⟨rfl, b5⟩
              have B5 : Hid (Below w.heap.size w w5) := by
                show Below _ _ _
                refine hbel.out.trans (Below.mono (Below.trans ?hc (Below.mono b5 ?hd)) hbel.out.size)
                case hc => repeat' (first | assumption | exact Below.refl _ _ | (with_reducible refine Below.drew ?_) | (with_reducible refine Below.alloc ?_ ?_ _) | exact Nat.le_refl _ | (show (_ : Nat) ≤ _; omega) | (show (_ : Nat) ≤ _; simp; done) | (show (_ : Nat) ≤ _; simp; omega))
                case hd => simp; omega
              clear b5
              go_wp2
              go_ret
              exact ⟨rfl, B5.out⟩
            · go_wp2_with fail
              refine (LS.out _).mono ?_
              rintro e w5 ⟨rfl, b5⟩
              have B5 : Hid (Below w.heap.size w w5) := by
                show Below _ _ _
                refine hbel.out.trans (Below.mono (Below.trans ?hc (Below.mono b5 ?hd)) hbel.out.size)
                case hc => repeat' (first | assumption | exact Below.refl _ _ | (with_reducible refine Below.drew ?_) | (with_reducible refine Below.alloc ?_ ?_ _) | exact Nat.le_refl _ | (show (_ : Nat) ≤ _; omega) | (show (_ : Nat) ≤ _; simp; done) | (show (_ : Nat) ≤ _; simp; omega))
                case hd => simp; omega
              clear b5
              go_wp2
              go_ret
              exact ⟨rfl, B5.out⟩
end Go.Proofs.YtgjbnbojjgbmcaaGreat.Place
