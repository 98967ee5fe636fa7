/- Stamps, and slices of them: what a slice value holds. Conditions: none. Runs of stamps (places), and slices of them: what a slice value holds. Conditions: none. A slice of runs that came in: what it holds. Conditions: none. Stamps: which may be, which is less, the next one. Conditions: none. Blocks known whole, in whatever world behind: for regions that draw their order and make memory. Conditions: none. octavoref06: Twin, Same, SameIds, end, one, Long: what each answers. Conditions: the slices' cells are runs (stamps). octavoref06: end, one, Long, Final: what each answers. Conditions: the slices' cells are runs; Long: the sums fit. octavo/place: runMayBe, Twin, slices.Equal, Same: what each answers. Conditions: the slices' cells are runs. octavoref06.May, Any, Check: what each answers. Conditions: the slice's cells are runs. octavoref06.cut, Held, First: what each answers. Conditions: t -/
import Derived.Test.YtmiepnnpccpicaaGreatChecked
import Derived.WalkKit
import Derived.WalkSpells
import Derived.WalkLawsBesides
import Derived.Laws.BytesArg
import Derived.Lib.Hide
import Derived.Deep.LoopGhost
import Derived.Laws.AppendOwnNone
import Derived.Laws.OwnMore
import Derived.WideShapes
import Derived.Test.YtmiepnnpccpicaaGreatRows
import Derived.ProofKit
import Derived.SizedLaws
import Derived.Lib.SmallJoins
import Derived.Maps.AppendAt
import Derived.RegionTactic
import Derived.Deep.RegionHeld3
import Derived.Deep.DrawnRows
import Derived.Deep.QuietTactic
import Derived.BigQuiet
import Derived.IntWalk
import Derived.Test.YtmiepnnpccpicaaGreatRw
import Derived.Test.YtmiepnnpccpicaaGreatPk01
import Derived.Test.YtmiepnnpccpicaaGreatPk02

namespace Go.Proofs.YtmiepnnpccpicaaGreat
open Go.RowKit Go.WideShapes
/-- Stamps as cells. -/
def ids : List Id → List Value
  | [] => []
  | a :: l => .int .u32 (a.t : Int) :: .int .u8 (a.r : Int) :: ids l
theorem ids_len : ∀ l : List Id, (ids l).length = l.length * 2
  | [] => rfl
  | a :: l => by simp [ids, ids_len l]; omega
theorem ids_get : ∀ (l : List Id) (j : Nat), j < l.length → (ids l)[j * 2]? = some (.int .u32 ((l.getD j zid).t : Int)) ∧ (ids l)[j * 2 + 1]? = some (.int .u8 ((l.getD j zid).r : Int))
  | [], j, h => by simp at h
  | a :: l, 0, _ => by simp [ids]
  | a :: l, j + 1, h => by
    have := ids_get l j (by simpa using h)
    rw [show (j + 1) * 2 = j * 2 + 1 + 1 by omega]
    simpa [ids] using this
/-- A slice of stamps. -/
def Ids (w : World) (v : Value) (l : List Id) : Prop := Sees w v 2 l.length (ids l)
theorem Ids.keeps {w w' : World} {v : Value} {l : List Id} (h : Ids w v l) (hb : Below w.heap.size w w') : Ids w' v l := Sees.keeps h hb
theorem Ids.at {w : World} {ao : Option Addr} {m cap : Nat} {l : List Id} (h : Ids w (.slice ao m cap) l) (k : Nat) (hk : k < l.length) :
    ∃ b off, ao = some ⟨b, off, none⟩ ∧ b < w.heap.size ∧ w.cell? ⟨b, off + k * 2, none⟩ = some (.int .u32 ((l.getD k zid).t : Int)) ∧ w.cell? ⟨b, off + k * 2 + 1, none⟩ = some (.int .u8 ((l.getD k zid).r : Int)) := by
  obtain ⟨b, off, h1, h2, h3⟩ := Sees.at h (k * 2) (by rw [ids_len]; omega)
  have e := ids_get l k hk
  exact ⟨b, off, h1, h2, (h3 (k * 2) (by rw [ids_len]; omega)).trans e.1, (h3 (k * 2 + 1) (by rw [ids_len]; omega)).trans e.2⟩
theorem Ids.own {w : World} {base : Nat} {e : TypeId} {v : Value} {n : Nat} {l : List Id} (h : w.ownsRow base e 2 v n (ids l)) : Ids w v l := by
  have h1 := h.1
  rw [ids_len] at h1
  obtain rfl : l.length = n := by omega
  exact Sees.own h
theorem id_info : (Tryz.prog.info? 25).map (fun i => (i.zero, i.size, i.bytes)) = some (some (.agg #[.int .u32 0, .int .u8 0]), 2, 8) := by kernel_rfl
end Go.Proofs.YtmiepnnpccpicaaGreat

namespace Go.Proofs.YtmiepnnpccpicaaGreat
open Go.RowKit Go.WideShapes
theorem Runs.nil (w : World) : Runs w (.slice none 0 0) [] := Sees.nil w 3
end Go.Proofs.YtmiepnnpccpicaaGreat

namespace Go.Proofs.YtmiepnnpccpicaaGreat
open Go.Joins Go.ChangeShapes Go.WideShapes Go.ChangeAt Go.RowKit Go.Deep
set_option maxRecDepth 100000 in
theorem runs_of {H : Type} {enc : TypeId × Value → H} {W : World} {v : Value} {d : DataW H} {p : List MemPlace} {base : Nat}
    (hv : Value.okWide Tryz.prog W .any base 26 v) (h : DataW.Trod enc Tryz.prog W 0 (fun _ => true) true 26 v d p) :
    ∃ (ao : Option Addr) (cap : Nat) (l : List Run), v = .slice ao l.length cap ∧ Runs W (.slice ao l.length cap) l := by
  obtain ⟨a0, len, cap, rfl⟩ := okWide_slice Tryz.underlying26 hv
  obtain ⟨fuel, hf⟩ := h
  rcases open_slice Tryz.underlying26 hf with ⟨hcs, hx⟩ | ⟨a, len', cap', m, n, D, Pl, hcs, _, hl, hm, hmm, hx, hi⟩
  · simp [Value.cells] at hcs
    obtain ⟨rfl, rfl, rfl⟩ := hcs
    exact ⟨none, 0, [], rfl, Runs.nil W⟩
  · simp [Value.cells] at hcs
    obtain ⟨rfl, rfl, rfl⟩ := hcs
    simp only [if_true] at hmm
    subst hmm
    unfold maxLen at hm
    have each : ∀ i, i < m → ∃ x : Run, W.cell? (a.add (i * 3)) = some (.int .u32 (x.t : Int)) ∧ W.cell? ((a.add (i * 3)).add 1) = some (.int .u8 (x.r : Int)) ∧ W.cell? ((a.add (i * 3)).add 2) = some (.int .i64 x.m) := by
      intro i him
      obtain ⟨cs, hc, ht⟩ := hi i him
      rw [kit_cellsRun] at hc
      obtain ⟨_, hcl, hat⟩ := World.cells?_some hc
      obtain ⟨y0, y1, y2, n2, -, hlen, h0, h1, h2⟩ := trod_struct3 Tryz.underlying40 ht
      match cs, hcl with
      | [c0, c1, c2], _ =>
        have h0' : DataW.trod enc Tryz.prog W 0 (fun _ => true) true n2 23 [c0] = some y0 := h0
        have h1' : DataW.trod enc Tryz.prog W 0 (fun _ => true) true n2 5 [c1] = some y1 := h1
        have h2' : DataW.trod enc Tryz.prog W 0 (fun _ => true) true n2 3 [c2] = some y2 := h2
        obtain ⟨z, e0, -, wz⟩ := DataW.trod_int Tryz.underlying23 h0'
        obtain ⟨u, e1, -, wu⟩ := DataW.trod_int Tryz.underlying5 h1'
        obtain ⟨mm, e2, -, wm⟩ := DataW.trod_int Tryz.underlying3 h2'
        simp at e0 e1 e2
        subst e0 e1 e2
        have hmb : -9223372036854775808 ≤ mm ∧ mm ≤ 9223372036854775807 := by simpa [Lit.wf, IntKind.min, IntKind.max, IntKind.signed, IntKind.bits] using wm
        obtain ⟨tn, rfl, hn⟩ := wf_u32 wz
        obtain ⟨q, rfl, hq⟩ := wf_u8 wu
        have g0 := hat 0 (by omega)
        have g1 := hat 1 (by omega)
        have g2 := hat 2 (by omega)
        exact ⟨⟨tn, q, mm, hn, hq, hmb⟩, by simpa [Addr.add] using g0, by simpa using g1, by simpa using g2⟩
    have hsel : ∃ f : Nat → Run, ∀ i, i < m → W.cell? (a.add (i * 3)) = some (.int .u32 ((f i).t : Int)) ∧ W.cell? ((a.add (i * 3)).add 1) = some (.int .u8 ((f i).r : Int)) ∧ W.cell? ((a.add (i * 3)).add 2) = some (.int .i64 (f i).m) :=
      ⟨fun i => if h : i < m then Classical.choose (each i h) else zrun, fun i h => by simp only [h, dif_pos]; exact Classical.choose_spec (each i h)⟩
    obtain ⟨f, hf⟩ := hsel
    have hxl : ((List.range len).map f).length = len := by simp
    refine ⟨some a, m, (List.range len).map f, by rw [hxl], by rw [runs_len], some a, m, rfl, by omega, hm, by simp, ?_⟩
    by_cases hl0 : len = 0
    · left; subst hl0; rfl
    · right
      obtain ⟨b, off, spot⟩ := a
      have hspot : spot = none := by simpa [Addr.add] using World.cell?_spot (hf 0 (by omega)).1
      subst hspot
      refine ⟨b, off, rfl, World.block_lt_of_cell? W ⟨b, off, none⟩ (by simpa [Addr.add] using (hf 0 (by omega)).1), fun j u hj => ?_⟩
      have hjl : j < (runs ((List.range len).map f)).length := (List.getElem?_eq_some_iff.1 hj).1
      rw [runs_len, hxl] at hjl
      obtain ⟨i, hij⟩ : ∃ i, j = i * 3 ∨ j = i * 3 + 1 ∨ j = i * 3 + 2 := ⟨j / 3, by omega⟩
      have e := runs_get ((List.range len).map f) i (by rw [hxl]; omega)
      have ef : ((List.range len).map f).getD i zrun = f i := by simp [List.getD, show i < len by omega]
      rw [ef] at e
      have g := hf i (by omega)
      rw [add_plain, add_plain, add_plain] at g
      rcases hij with rfl | rfl | rfl
      · rw [e.1] at hj
        rw [← hj]
        exact g.1
      · rw [e.2.1] at hj
        rw [← hj]
        exact g.2.1
      · rw [e.2.2] at hj
        rw [← hj]
        exact g.2.2
end Go.Proofs.YtmiepnnpccpicaaGreat

namespace Go.Proofs.YtmiepnnpccpicaaGreat.Stamp
theorem less_no {t r u s : Nat} : less t r u s = false ↔ ¬ (t < u ∨ t = u ∧ r < s) := by simp only [less, decide_eq_false_iff_not]
end Go.Proofs.YtmiepnnpccpicaaGreat.Stamp

namespace Go.Proofs.YtmiepnnpccpicaaGreat
open Go.RowKit Go.WideShapes
theorem below_next {B : Nat} {W X Y : World} (h : Below B W X) (hs : B ≤ X.heap.size) (b : Below X.heap.size X Y) : Below B W Y := h.trans (b.mono hs)
end Go.Proofs.YtmiepnnpccpicaaGreat

namespace Go.Proofs.YtmiepnnpccpicaaGreat.Place
open Go.RowKit Stamp
attribute [local go_sem ↓] Go.wp_at_zero Go.wp_at_succ
theorem twin_any {v : Value} {l : List Run} {w : World} (hv : Runs w v l) (hl : l.length ≤ 8796093022208) :
    Calls Tryz.prog 21 #[v] w fun e w' => ∃ v', e = .returned v' ∧ w'.ownsRow w.heap.size 40 3 v' l.length (runs l) ∧ Below w.heap.size w w' := by
  obtain ⟨ao, cap, rfl⟩ := hv.shape
  have HV : Hid (Sees w (.slice ao l.length cap) 3 l.length (runs l)) := hv
  have O0 : Hid (w.ownsRow w.heap.size 40 3 (.slice none 0 0) 0 []) := World.ownsRow_nil _ _ _ _
  clear hv
  go_enter Tryz.func21, Tryz.ntmps21
  go_wp2_with (at_builtin; refine wpList_append_sees rfl (.tmp 4) (.tmp 5) 26 40 rfl Tryz.underlying26 run_info rfl (by decide) w.heap.size _ 0 [] rfl O0.out _ l.length _ rfl HV.out (runs_oneCell l) ?k1 ?k2 ?k3 ?_)
  case k1 => omega
  case k2 => omega
  case k3 => simp
  rintro v1 w1 o1 g1 b1
  have HO : Hid (w1.ownsRow w.heap.size 40 3 v1 l.length (runs l)) := o1
  have HB := Lib.hid b1
  clear o1 g1 b1
  go_wp2
  go_ret
  exact ⟨_, rfl, HO.out, HB.out⟩
set_option maxHeartbeats 1000000 in
theorem same_yes {a b : Value} {l : List Run} {w : World} (ha : Runs w a l) (hb : Runs w b l) :
    Calls Tryz.prog 11 #[a, b] w fun e w' => e = .returned (.bool true) ∧ Below w.heap.size w w' := by
  obtain ⟨ao, ca, rfl⟩ := ha.shape
  obtain ⟨bo, cb, rfl⟩ := hb.shape
  obtain ⟨n, hn⟩ : ∃ n, n = l.length := ⟨_, rfl⟩
  have hm : n ≤ 9223372036854775807 := by rw [hn]; exact Sees.max ha
  have HA := Lib.hid ha
  have HB := Lib.hid hb
  have HN := Lib.hid hn
  rw [← hn]
  clear ha hb hn
  have t1 : ((n : Int) != (n : Int)) = false := by simp
  go_enter Tryz.func11, Tryz.ntmps11
  go_wp2
  go_loopw [5] (fun i wr => ∃ k : Nat, k ≤ n ∧ i = .int .i64 (k : Int) ∧ ∃ q, wr = w.drewN q) (fun i _ => n - (intOf i).toNat)
  case atStart => exact ⟨0, by omega, rfl, 0, rfl⟩
  case round =>
    obtain ⟨k, hk, rfl, q, rfl⟩ := hrel
    by_cases hkn : k < n
    · have q1 : decide (k < n) = true := by simpa using hkn
      obtain ⟨b1, o1, rfl, hb1, ha0, ha1, ha2⟩ := HA.out.at k (by rw [← HN.out]; exact hkn)
      obtain ⟨b2, o2, rfl, hb2, hb0, hb1', hb2'⟩ := HB.out.at k (by rw [← HN.out]; exact hkn)
      obtain ⟨x, hx⟩ : ∃ x, x = l.getD k zrun := ⟨_, rfl⟩
      rw [← hx] at ha0 ha1 ha2 hb0 hb1' hb2'
      obtain ⟨xt, xr, xm, _, _, _⟩ := x
      simp only at ha0 ha1 ha2 hb0 hb1' hb2'
      have q2 : (0 : Int) ≤ (k : Int) := by omega
      have q3 : (k : Int) < (n : Int) := by omega
      clear hx
      go_wp2
      go_quiet (fail)
      go_wp2
      go_roundw
      case rel => exact ⟨k + 1, by omega, by go_num, _, rfl⟩
      case measure => simp [intOf]; omega
    · have q1 : decide (k < n) = false := by simpa using hkn
      go_wp2
      go_ret
      exact ⟨rfl, below_draw (Below.refl _ _) _⟩
set_option maxHeartbeats 1000000 in
theorem same_no {a b : Value} {l m : List Run} {w : World} (ha : Runs w a l) (hb : Runs w b m) (hlm : l ≠ m) :
    Calls Tryz.prog 11 #[a, b] w fun e w' => e = .returned (.bool false) ∧ Below w.heap.size w w' := by
  obtain ⟨ao, ca, rfl⟩ := ha.shape
  obtain ⟨bo, cb, rfl⟩ := hb.shape
  obtain ⟨n, hn⟩ : ∃ n, n = l.length := ⟨_, rfl⟩
  obtain ⟨n2, hn2⟩ : ∃ n, n = m.length := ⟨_, rfl⟩
  have hm : n ≤ 9223372036854775807 := by rw [hn]; exact Sees.max ha
  have HA := Lib.hid ha
  have HB := Lib.hid hb
  have HN := Lib.hid hn
  have HN2 := Lib.hid hn2
  have HL := Lib.hid hlm
  rw [← hn, ← hn2]
  clear ha hb hn hn2 hlm
  by_cases hlen : n = n2
  · subst hlen
    have t1 : ((n : Int) != (n : Int)) = false := by simp
    go_enter Tryz.func11, Tryz.ntmps11
    go_wp2
    go_loopw [5] (fun i wr => ∃ k : Nat, k ≤ n ∧ i = .int .i64 (k : Int) ∧ Hid (∀ j, j < k → l.getD j zrun = m.getD j zrun) ∧ ∃ q, wr = w.drewN q) (fun i _ => n - (intOf i).toNat)
    case atStart => exact ⟨0, by omega, rfl, Lib.hid (by omega), 0, rfl⟩
    case round =>
      obtain ⟨k, hk, rfl, hal, q, rfl⟩ := hrel
      by_cases hkn : k < n
      · have q1 : decide (k < n) = true := by simpa using hkn
        obtain ⟨b1, o1, rfl, hb1, ha0, ha1, ha2⟩ := HA.out.at k (by rw [← HN.out]; exact hkn)
        obtain ⟨b2, o2, rfl, hb2, hb0, hb1', hb2'⟩ := HB.out.at k (by rw [← HN2.out]; exact hkn)
        obtain ⟨x, hx⟩ : ∃ x, x = l.getD k zrun := ⟨_, rfl⟩
        obtain ⟨y, hy⟩ : ∃ y, y = m.getD k zrun := ⟨_, rfl⟩
        rw [← hx] at ha0 ha1 ha2
        rw [← hy] at hb0 hb1' hb2'
        have q2 : (0 : Int) ≤ (k : Int) := by omega
        have q3 : (k : Int) < (n : Int) := by omega
        by_cases hxy : x = y
        · have HX := Lib.hid (show l.getD k zrun = m.getD k zrun by rw [← hx, ← hy, hxy])
          subst hxy
          obtain ⟨xt, xr, xm, _, _, _⟩ := x
          simp only at ha0 ha1 ha2 hb0 hb1' hb2'
          clear hx hy
          go_wp2
          go_quiet (fail)
          go_wp2
          go_roundw
          case rel =>
            refine ⟨k + 1, by omega, by go_num, Lib.hid (fun j hj => ?_), _, rfl⟩
            by_cases e : j = k
            · rw [e]; exact HX.out
            · exact hal.out j (by omega)
          case measure => simp [intOf]; omega
        · have hparts : ¬ x.t = y.t ∨ (x.t = y.t ∧ ¬ x.r = y.r) ∨ (x.t = y.t ∧ x.r = y.r ∧ ¬ x.m = y.m) := by
            by_cases h1 : x.t = y.t
            · by_cases h2 : x.r = y.r
              · exact .inr (.inr ⟨h1, h2, fun h3 => hxy (Run.ext' h1 h2 h3)⟩)
              · exact .inr (.inl ⟨h1, h2⟩)
            · exact .inl h1
          obtain ⟨xt, xr, xm, _, _, _⟩ := x
          obtain ⟨yt, yr, ym, _, _, _⟩ := y
          simp only at ha0 ha1 ha2 hb0 hb1' hb2' hparts
          clear hx hy hxy
          rcases hparts with h1 | ⟨rfl, h2⟩ | ⟨rfl, rfl, h3⟩
          · go_wp2
            go_quiet (fail)
            go_wp2
            go_ret
            exact ⟨rfl, below_draw (below_draw (Below.refl _ _) _) _⟩
          · have h4 : ((xr : Int) == (yr : Int)) = false := by simp; omega
            have h5 : decide (xr = yr) = false := decide_eq_false h2
            go_wp2
            go_quiet (fail)
            go_wp2
            go_ret
            exact ⟨rfl, below_draw (below_draw (Below.refl _ _) _) _⟩
          · go_wp2
            go_quiet (fail)
            go_wp2
            go_ret
            exact ⟨rfl, below_draw (below_draw (Below.refl _ _) _) _⟩
      · exfalso
        obtain ⟨j, h1, h2⟩ := runs_ne (by rw [← HN.out, ← HN2.out]) HL.out
        exact h2 (hal.out j (by have := HN.out; omega))
  · have t1 : ((n : Int) != (n2 : Int)) = true := by simp; omega
    have t2 : ¬ n = n2 := hlen
    go_enter Tryz.func11, Tryz.ntmps11
    go_wp2
    go_ret
    exact ⟨rfl, Below.refl _ _⟩
end Go.Proofs.YtmiepnnpccpicaaGreat.Place

namespace Go.Proofs.YtmiepnnpccpicaaGreat.Place
open Go.RowKit Stamp
attribute [local go_sem ↓] Go.wp_at_zero Go.wp_at_succ
theorem end_any (t r : Nat) (m : Int) (ht : t < 4294967296) (hm : 1 ≤ m ∧ m ≤ 4096) (w : World) :
    Calls Tryz.prog 64 #[.agg #[.int .u32 (t : Int), .int .u8 (r : Int), .int .i64 m]] w fun e w' => e = .returned (.int .i64 ((t : Int) + m - 1)) ∧ Below w.heap.size w w' := by
  obtain ⟨h1, h2⟩ := hm
  go_enter Tryz.func64, Tryz.ntmps64
  go_wp2
  go_ret
  exact ⟨rfl, (Below.refl _ _).alloc (Nat.le_refl _) _⟩
set_option maxHeartbeats 1000000 in
theorem one_any (t r : Nat) (m : Int) (ht : t < 4294967296) (w : World) :
    Calls Tryz.prog 63 #[.agg #[.int .u32 (t : Int), .int .u8 (r : Int), .int .i64 m]] w fun e w' => e = .returned (.bool (oneB t r m)) ∧ Below w.heap.size w w' := by
  have q : (decide (1 ≤ (t : Int)) = false ∧ t = 0 ∧ oneB t r m = false) ∨ (decide (1 ≤ (t : Int)) = true ∧ 1 ≤ t ∧ decide ((t : Int) ≤ 1073741824) = false ∧ oneB t r m = false) ∨
      (decide (1 ≤ (t : Int)) = true ∧ 1 ≤ t ∧ decide ((t : Int) ≤ 1073741824) = true ∧ decide ((r : Int) < 8) = false ∧ oneB t r m = false) ∨
      (decide (1 ≤ (t : Int)) = true ∧ 1 ≤ t ∧ decide ((t : Int) ≤ 1073741824) = true ∧ decide ((r : Int) < 8) = true ∧ decide (1 ≤ m) = false ∧ oneB t r m = false) ∨
      (decide (1 ≤ (t : Int)) = true ∧ 1 ≤ t ∧ decide ((t : Int) ≤ 1073741824) = true ∧ decide ((r : Int) < 8) = true ∧ decide (1 ≤ m) = true ∧ decide (m ≤ 4096) = false ∧ oneB t r m = false) ∨
      (decide (1 ≤ (t : Int)) = true ∧ 1 ≤ t ∧ decide ((t : Int) ≤ 1073741824) = true ∧ decide ((r : Int) < 8) = true ∧ decide (1 ≤ m) = true ∧ decide (m ≤ 4096) = true ∧ (1 ≤ m ∧ m ≤ 4096) ∧ oneB t r m = decide ((t : Int) + m - 1 ≤ 1073741824)) := by
    unfold oneB
    by_cases h1 : 1 ≤ t
    · by_cases h2 : t ≤ 1073741824
      · by_cases h3 : r < 8
        · by_cases h4 : 1 ≤ m
          · by_cases h5 : m ≤ 4096
            · refine .inr (.inr (.inr (.inr (.inr ⟨decide_eq_true (by omega), h1, decide_eq_true (by omega), decide_eq_true (by omega), decide_eq_true h4, decide_eq_true h5, ⟨h4, h5⟩, ?_⟩))))
              rw [decide_eq_decide]; omega
            · exact .inr (.inr (.inr (.inr (.inl ⟨decide_eq_true (by omega), h1, decide_eq_true (by omega), decide_eq_true (by omega), decide_eq_true h4, decide_eq_false h5, decide_eq_false (by omega)⟩))))
          · exact .inr (.inr (.inr (.inl ⟨decide_eq_true (by omega), h1, decide_eq_true (by omega), decide_eq_true (by omega), decide_eq_false h4, decide_eq_false (by omega)⟩)))
        · exact .inr (.inr (.inl ⟨decide_eq_true (by omega), h1, decide_eq_true (by omega), decide_eq_false (by omega), decide_eq_false (by omega)⟩))
      · exact .inr (.inl ⟨decide_eq_true (by omega), h1, decide_eq_false (by omega), decide_eq_false (by omega)⟩)
    · exact .inl ⟨decide_eq_false (by omega), by omega, decide_eq_false (by omega)⟩
  rcases q with ⟨q1, g, h⟩ | ⟨q1, g, q2, h⟩ | ⟨q1, g, q2, q3, h⟩ | ⟨q1, g, q2, q3, q4, h⟩ | ⟨q1, g, q2, q3, q4, q5, h⟩ | ⟨q1, g, q2, q3, q4, q5, q6, h⟩
  case inr.inr.inr.inr.inr =>
    have E := Lib.hid (end_any t r m ht q6)
    have P0 := Lib.hid (Tri.keeps (tri_new w (.int .u32 (t : Int)) (.int .u8 (r : Int)) (.int .i64 m) 40) (Below.refl _ _))
    obtain ⟨z, hz⟩ : ∃ z, z = (t : Int) + m - 1 := ⟨_, rfl⟩
    rw [← hz] at E h
    rw [h]
    clear h hz q6
    cases hq : decide (z ≤ 1073741824)
    all_goals
      go_enter Tryz.func63, Tryz.ntmps63
      go_wp2_with fail
      refine (E.out _).mono ?_
      rintro e w1 ⟨rfl, b1⟩
      have hb : Below w.heap.size w w1 := ((Below.refl _ _).alloc (Nat.le_refl _) _).trans (b1.mono (by simp))
      clear b1
      go_wp2
      go_ret
      exact ⟨rfl, hb⟩
  all_goals
    rw [h]
    clear h
    go_enter Tryz.func63, Tryz.ntmps63
    go_wp2
    go_ret
    exact ⟨rfl, (Below.refl _ _).alloc (Nat.le_refl _) _⟩
/-- Runs each of which may be by itself. -/
def Ones (l : List Run) : Prop := ∀ k, k < l.length → 1 ≤ (l.getD k zrun).m ∧ (l.getD k zrun).m ≤ 4097
set_option maxHeartbeats 1000000 in
theorem long_any {v : Value} {l : List Run} {w : World} (hv : Runs w v l) (hl : l.length ≤ 1000) (h1 : Ones l) :
    Calls Tryz.prog 65 #[v] w fun e w' => e = .returned (.int .i64 (long l)) ∧ w = w' := by
  obtain ⟨ao, cap, rfl⟩ := hv.shape
  obtain ⟨n, hn⟩ : ∃ n, n = l.length := ⟨_, rfl⟩
  have HV := Lib.hid hv
  have HN := Lib.hid hn
  have HO := Lib.hid h1
  rw [← hn] at hl ⊢
  clear hv hn h1
  go_enter Tryz.func65, Tryz.ntmps65
  go_wp2
  go_loop [3, 4] (fun s i => ∃ (k : Nat) (z : Int), k ≤ n ∧ i = .int .i64 (k : Int) ∧ s = .int .i64 z ∧ 0 ≤ z ∧ z ≤ 4097 * (k : Int) ∧ Hid (z = long (l.take k))) (fun _ i => n - (intOf i).toNat)
  case atStart => exact ⟨0, 0, by omega, rfl, rfl, by omega, by omega, Lib.hid rfl⟩
  case round =>
    obtain ⟨k, z, hk, rfl, rfl, z0, z1, hz⟩ := hrel
    by_cases hkn : k < n
    · have q1 : decide (k < n) = true := by simpa using hkn
      obtain ⟨b, off, rfl, hb, hx0, hx1, hx2⟩ := HV.out.at k (by rw [← HN.out]; exact hkn)
      have ho := HO.out k (by rw [← HN.out]; exact hkn)
      have ht := long_take l k (by rw [← HN.out]; exact hkn)
      obtain ⟨m, hm⟩ : ∃ m, m = (l.getD k zrun).m := ⟨_, rfl⟩
      rw [← hm] at hx2 ho ht
      rw [← hz.out] at ht
      have HT := Lib.hid ht
      obtain ⟨o1, o2⟩ := ho
      have q2 : (0 : Int) ≤ (k : Int) := by omega
      have q3 : (k : Int) < (n : Int) := by omega
      have q4 : 0 ≤ z + m := by omega
      have q5 : z + m ≤ 5000000 := by omega
      clear hm ht hx0 hx1
      go_wp2
      go_round
      case rel => exact ⟨k + 1, z + m, by omega, by go_num, rfl, by omega, by omega, Lib.hid HT.out.symm⟩
      case measure => simp [intOf]; omega
    · have q1 : decide (k < n) = false := by simpa using hkn
      have hkk : l.take k = l := List.take_of_length_le (by have := HN.out; omega)
      have hz2 := hz.out
      rw [hkk] at hz2
      have HZ := Lib.hid hz2
      clear hkk hz2
      go_wp2
      go_ret
      exact ⟨by have := HZ.out; subst this; rfl, rfl⟩
end Go.Proofs.YtmiepnnpccpicaaGreat.Place

namespace Go.Proofs.YtmiepnnpccpicaaGreat.Place
open Go.RowKit Stamp
attribute [local go_sem ↓] Go.wp_at_zero Go.wp_at_succ
theorem refSame_any {a b : Value} {l m : List Run} {w : World} (ha : Runs w a l) (hb : Runs w b m) :
    Calls Tryz.prog 11 #[a, b] w fun e w' => e = .returned (.bool (decide (l = m))) ∧ Below w.heap.size w w' := by
  by_cases h : l = m
  · subst h
    rw [decide_eq_true rfl]
    exact same_yes ha hb
  · rw [decide_eq_false h]
    exact same_no ha hb h
end Go.Proofs.YtmiepnnpccpicaaGreat.Place

namespace Go.Proofs.YtmiepnnpccpicaaGreat.Place
open Go.RowKit Stamp
attribute [local go_sem ↓] Go.wp_at_zero Go.wp_at_succ
attribute [local go_sem] yielded_undef
theorem keep5 {wl w1 w2 : World} {b o1 o2 o3 o4 o5 : Nat} {c1 c2 c3 c4 c5 : Value} (q : b < wl.heap.size ∧ wl.cell? ⟨b, o1, none⟩ = some c1 ∧ wl.cell? ⟨b, o2, none⟩ = some c2 ∧ wl.cell? ⟨b, o3, none⟩ = some c3 ∧ wl.cell? ⟨b, o4, none⟩ = some c4 ∧ wl.cell? ⟨b, o5, none⟩ = some c5) (h : Below w1.heap.size w1 w2) (hb : Below wl.heap.size wl w1) :
    Below wl.heap.size wl w2 ∧ w2.cell? ⟨b, o1, none⟩ = some c1 ∧ w2.cell? ⟨b, o2, none⟩ = some c2 ∧ w2.cell? ⟨b, o3, none⟩ = some c3 ∧ w2.cell? ⟨b, o4, none⟩ = some c4 ∧ w2.cell? ⟨b, o5, none⟩ = some c5 :=
  have a := bt hb h
  ⟨a, (a.cell (p := ⟨b, o1, none⟩) q.1).trans q.2.1, (a.cell (p := ⟨b, o2, none⟩) q.1).trans q.2.2.1, (a.cell (p := ⟨b, o3, none⟩) q.1).trans q.2.2.2.1, (a.cell (p := ⟨b, o4, none⟩) q.1).trans q.2.2.2.2.1, (a.cell (p := ⟨b, o5, none⟩) q.1).trans q.2.2.2.2.2⟩
set_option maxRecDepth 100000 in
set_option maxHeartbeats 8000000 in
theorem refMay_any {v : Value} {l : List Run} {w : World} (hv : Runs w v l) :
    Calls Tryz.prog 27 #[v] w fun e w' => e = .returned (.bool (mayB l)) ∧ Below w.heap.size w w' := by
  obtain ⟨ao, cap, rfl⟩ := hv.shape
  obtain ⟨n, hn⟩ : ∃ n, n = l.length := ⟨_, rfl⟩
  have hmax : n ≤ 9223372036854775807 := by rw [hn]; exact Sees.max hv
  have HV := Lib.hid hv
  have HN := Lib.hid hn
  rw [← hn]
  clear hv
  by_cases h0 : n < 1
  · have t1 : decide ((n : Int) < 1) = true := decide_eq_true (by omega)
    obtain rfl : n = 0 := by omega
    rw [mayB_no (fun h => by have := h.1; omega)]
    clear hn h0
    go_enter Tryz.func27, Tryz.ntmps27
    go_wp2
    go_ret
    exact ⟨rfl, Below.refl _ _⟩
  have t1 : decide ((n : Int) < 1) = false := decide_eq_false (by omega)
  by_cases h64 : 64 < n
  · have t2 : decide ((64 : Int) < (n : Int)) = true := decide_eq_true (by omega)
    have t3 : decide (64 < n) = true := decide_eq_true h64
    have t4 : ¬ n = 0 := by omega
    rw [mayB_no (fun h => by have := h.2.1; omega)]
    clear hn h0
    go_enter Tryz.func27, Tryz.ntmps27
    go_wp2
    go_ret
    exact ⟨rfl, Below.refl _ _⟩
  have t2 : decide ((64 : Int) < (n : Int)) = false := decide_eq_false (by omega)
  have t3 : decide (64 < n) = false := decide_eq_false h64
  have t4 : ¬ n = 0 := by omega
  clear hn h0
  go_enter Tryz.func27, Tryz.ntmps27
  go_wp2
  go_loopw [3] (fun i wr => ∃ k : Nat, k ≤ n ∧ i = .int .i64 (k : Int) ∧ Hid (Chain (l.take k)) ∧ Hid (Below w.heap.size w wr)) (fun i _ => n - (intOf i).toNat)
  case atStart => exact ⟨0, by omega, rfl, Lib.hid (by simp [Chain]), Lib.hid (Below.refl _ _)⟩
  case round =>
    obtain ⟨k, hk, rfl, hch, hbel⟩ := hrel
    by_cases hkn : k < n
    · have q1 : decide (k < n) = true := by simpa using hkn
      have V1 : Runs wr (.slice ao n cap) l := by
        have := HV.out.keeps hbel.out
        rwa [← HN.out] at this
      obtain ⟨b, off, rfl, hb, hx0, hx1, hx2⟩ := V1.at k (by rw [← HN.out]; exact hkn)
      have V1' := Lib.hid V1
      obtain ⟨x, hx⟩ : ∃ x, x = l.getD k zrun := ⟨_, rfl⟩
      rw [← hx] at hx0 hx1 hx2
      have hone := oneB_iff x
      obtain ⟨t, r, m, ht, hr, hm⟩ := x
      simp only at hx0 hx1 hx2 hone
      have HX := Lib.hid hx
      have HONE := Lib.hid hone
      have q2 : (0 : Int) ≤ (k : Int) := by omega
      have q3 : (k : Int) < (n : Int) := by omega
      have O1 := Lib.hid (one_any t r m ht)
      clear hx hone V1
      cases ho : oneB t r m
      · have hno : ¬ May l := fun h => by
          have h1 := chain_one h.2.2.1 (k := k) (by rw [← HN.out]; exact hkn)
          rw [← HX.out] at h1
          have := HONE.out.2 h1
          rw [ho] at this
          cases this
        rw [ho] at O1
        have HF := Lib.hid (mayB_no hno)
        clear hno ho
        go_wp2_with fail
        refine (O1.out _).mono ?_
        rintro e w3 ⟨rfl, b3⟩
        have B3 := Lib.hid (bt hbel.out b3)
        clear b3
        go_wp2
        go_ret
        exact ⟨by rw [HF.out]; rfl, B3.out⟩
      · have hOne := HONE.out.1 ho
        rw [ho] at O1
        clear ho
        by_cases hk0 : k = 0
        · have HC : Hid (Chain (l.take (k + 1))) := by
            have := chain_take_one l (by rw [← HN.out]; omega) (by rw [← hk0, ← HX.out]; exact hOne)
            rw [hk0]; exact this
          have g1 : decide ((0 : Int) < (k : Int)) = false := decide_eq_false (by omega)
          have g2 : decide (0 < k) = false := decide_eq_false (by omega)
          clear hOne hk0
          go_wp2_with fail
          refine (O1.out _).mono ?_
          rintro e w3 ⟨rfl, b3⟩
          have B3 := Lib.hid (bt hbel.out b3)
          clear b3
          go_wp2
          go_quiet (fail)
          go_wp2
          go_roundw
          case rel => exact ⟨k + 1, by omega, by go_num, HC, Lib.hid (below_draw B3.out _)⟩
          case measure => simp [intOf]; omega
        · obtain ⟨j, hj⟩ : ∃ j, k = j + 1 := ⟨k - 1, by omega⟩
          have g1 : decide ((0 : Int) < (k : Int)) = true := decide_eq_true (by omega)
          have g2 : decide (0 < k) = true := decide_eq_true (by omega)
          have hchj : Chain (l.take (j + 1)) := by have := hch.out; rwa [hj] at this
          obtain ⟨b', off', he, _, hy0, hy1, hy2⟩ := V1'.out.at j (by rw [← HN.out]; omega)
          obtain ⟨rfl, rfl⟩ : b = b' ∧ off = off' := by simpa using he
          have hOneY : One (l.getD j zrun) := by
            have h1 := chain_one (k := j) hchj (by rw [List.length_take, ← HN.out]; omega)
            have h2 : (l.take (j + 1)).getD j zrun = l.getD j zrun := by simp [List.getD]
            rwa [h2] at h1
          obtain ⟨y, hy⟩ : ∃ y, y = l.getD j zrun := ⟨_, rfl⟩
          rw [← hy] at hy0 hy1 hy2 hOneY
          have hNx : Next y ⟨t, r, m, ht, hr, hm⟩ → Chain (l.take (j + 1 + 1)) := fun h => by
            refine chain_take_succ l j (by rw [← HN.out]; omega) hchj ?_ ?_
            · rw [← hj, ← HX.out]; exact hOne
            · rw [← hj, ← HX.out, ← hy]; exact h
          have hNo : ¬ Next y ⟨t, r, m, ht, hr, hm⟩ → mayB l = false := fun h => by
            refine mayB_no (fun hM => h ?_)
            have h1 := chain_next hM.2.2.1 (k := j) (by rw [← HN.out]; omega)
            rw [← hj, ← HX.out, ← hy] at h1
            exact h1
          obtain ⟨t0, r0, m0, ht0, hr0, hm0⟩ := y
          simp only at hy0 hy1 hy2
          obtain ⟨z, hz⟩ : ∃ z, z = (t0 : Int) + m0 - 1 := ⟨_, rfl⟩
          have hm0b : 1 ≤ m0 ∧ m0 ≤ 4096 := ⟨hOneY.2.2.2.1, hOneY.2.2.2.2.1⟩
          have hzb : 0 ≤ z ∧ z ≤ 1073741824 := by
            have h1 := hOneY.2.2.2.2.2
            have h2 := hOneY.1
            simp only at h1 h2
            omega
          have E1 := Lib.hid (end_any t0 r0 m0 ht0 hm0b)
          rw [← hz] at E1
          have hnx : Next ⟨t0, r0, m0, ht0, hr0, hm0⟩ ⟨t, r, m, ht, hr, hm⟩ ↔ z < (t : Int) ∧ (r = r0 → z + 1 < (t : Int)) := by
            unfold Next fin; simp only; rw [hz]
          rw [hnx] at hNx hNo
          have HNx := Lib.hid hNx
          have HNo := Lib.hid hNo
          have htb : (t : Int) ≤ 1073741824 := by have := hOne.2.1; simp only at this; omega
          clear hNx hNo hnx hOneY hOne hchj hy he hz hm0b hk0
          have HJ := Lib.hid hj
          clear hj
          go_wp2_with fail
          refine (O1.out _).mono ?_
          rintro e w3 ⟨rfl, b3⟩
          have hq1 : b < w3.heap.size := Nat.lt_of_lt_of_le hb b3.size
          have HQ := Lib.hid (And.intro hq1 (And.intro ((b3.cell (p := ⟨b, off + k * 3, none⟩) hb).trans hx0) (And.intro ((b3.cell (p := ⟨b, off + k * 3 + 1, none⟩) hb).trans hx1) (And.intro ((b3.cell (p := ⟨b, off + j * 3, none⟩) hb).trans hy0) (And.intro ((b3.cell (p := ⟨b, off + j * 3 + 1, none⟩) hb).trans hy1) ((b3.cell (p := ⟨b, off + j * 3 + 2, none⟩) hb).trans hy2))))))
          have B3 := Lib.hid (bt hbel.out b3)
          have w1 : (0 : Int) ≤ (j : Int) := by omega
          have w2 : (j : Int) < (n : Int) := by have := HJ.out; omega
          obtain ⟨z0, z1⟩ := hzb
          have e1 : (k : Int) - 1 = (j : Int) := by have := HJ.out; omega
          have e2 : IntKind.i64.wrap (j : Int) = (j : Int) := IntWalk.i64_in _ (by omega)
          have e3 : IntKind.i64.wrap (t : Int) = (t : Int) := IntWalk.i64_in _ (by omega)
          have e4 : IntKind.i64.wrap (z + 1) = z + 1 := IntWalk.i64_in _ (by omega)
          clear b3 hx0 hx1 hx2 hy0 hy1 hy2 hb hq1 hbel V1' hch
          by_cases ha : (t : Int) ≤ z
          · have a1 : decide ((t : Int) ≤ z) = true := decide_eq_true ha
            have HF := Lib.hid (HNo.out (by clear e2 e3 e4; omega))
            clear ha
            go_wp2_with fail
            refine wp_region_held_drew (S := fun w' => Below w3.heap.size w3 w' ∧ w'.cell? ⟨b, off + k * 3, none⟩ = some (.int .u32 (t : Int)) ∧ w'.cell? ⟨b, off + k * 3 + 1, none⟩ = some (.int .u8 (r : Int)) ∧ w'.cell? ⟨b, off + j * 3, none⟩ = some (.int .u32 (t0 : Int)) ∧ w'.cell? ⟨b, off + j * 3 + 1, none⟩ = some (.int .u8 (r0 : Int)) ∧ w'.cell? ⟨b, off + j * 3 + 2, none⟩ = some (.int .i64 m0)) (by kernel_rfl) (keep5 HQ.out (drew1 _) (Below.refl _ _)) (fun hHeld => ?_)
            refine rN 0 ?_
            refine rN 1 ?_
            refine rN 2 ?_
            refine rN 3 ?_
            refine rN 4 ?_
            refine rN 5 ?_
            refine rN 6 ?_
            refine rN 7 ?_
            refine rN 8 ?_
            refine rN 9 ?_
            refine rN 10 ?_
            refine rN 11 ?_
            refine rN 12 ?_
            refine rN 13 ?_
            refine wpAnyH_ready (rs := [14]) (by kernel_rfl) (by simp) ?_
            refine AllReadyH.cons rfl (fun K hK => ?_) ?za14
            case za14 => exact AllReadyH.nil
            go_simp
            refine (E1.out _).mono ?_
            rintro e w9 ⟨rfl, b9⟩
            refine hK.out _ _ (keep5 HQ.out b9 hHeld.1) (fun hNew => ?_)
            clear hHeld b9
            have hHeld := hNew
            clear hNew hK K
            refine rX ?_
            refine rN 15 ?_
            refine rN 16 ?_
            refine rV 17 ?_
            refine rV 18 ?_
            refine rV 19 ?_
            refine rV 20 ?_
            refine rV 21 ?_
            refine rV 22 ?_
            refine rV 23 ?_
            refine rV 24 ?_
            refine rV 25 ?_
            refine rV 26 ?_
            refine rV 27 ?_
            refine rV 28 ?_
            refine rV 29 ?_
            refine rV 30 ?_
            refine rV 31 ?_
            refine rV 32 ?_
            refine rV 33 ?_
            refine rV 34 ?_
            refine rV 35 ?_
            refine rV 36 ?_
            refine rV 37 ?_
            refine rV 38 ?_
            refine rV 39 ?_
            refine rV 40 ?_
            refine rV 41 ?_
            refine rV 42 ?_
            refine rV 43 ?_
            refine rV 44 ?_
            refine rN 45 ?_
            refine rN 46 ?_
            refine wpAnyH_done (by kernel_rfl) ?_ _
            go_wp2
            go_ret
            exact ⟨by rw [HF.out]; rfl, bt B3.out hHeld.1⟩
          · have a1 : decide ((t : Int) ≤ z) = false := decide_eq_false ha
            by_cases hrr : r = r0
            · subst hrr
              have a2 : ((r : Int) == (r : Int)) = true := by simp
              by_cases hs : (t : Int) = z + 1
              · have a3 : ((t : Int) == z + 1) = true := by simp; omega
                have HF := Lib.hid (HNo.out (by clear e2 e3 e4; omega))
                clear ha hs
                go_wp2_with fail
                refine wp_region_held_drew (S := fun w' => Below w3.heap.size w3 w' ∧ w'.cell? ⟨b, off + k * 3, none⟩ = some (.int .u32 (t : Int)) ∧ w'.cell? ⟨b, off + k * 3 + 1, none⟩ = some (.int .u8 (r : Int)) ∧ w'.cell? ⟨b, off + j * 3, none⟩ = some (.int .u32 (t0 : Int)) ∧ w'.cell? ⟨b, off + j * 3 + 1, none⟩ = some (.int .u8 (r : Int)) ∧ w'.cell? ⟨b, off + j * 3 + 2, none⟩ = some (.int .i64 m0)) (by kernel_rfl) (keep5 HQ.out (drew1 _) (Below.refl _ _)) (fun hHeld => ?_)
                refine rN 0 ?_
                refine rN 1 ?_
                refine rN 2 ?_
                refine rN 3 ?_
                refine rN 4 ?_
                refine rN 5 ?_
                refine rN 6 ?_
                refine rN 7 ?_
                refine rN 8 ?_
                refine rN 9 ?_
                refine rN 10 ?_
                refine rN 11 ?_
                refine rN 12 ?_
                refine rN 13 ?_
                refine wpAnyH_ready (rs := [14]) (by kernel_rfl) (by simp) ?_
                refine AllReadyH.cons rfl (fun K hK => ?_) ?zb14
                case zb14 => exact AllReadyH.nil
                go_simp
                refine (E1.out _).mono ?_
                rintro e w9 ⟨rfl, b9⟩
                refine hK.out _ _ (keep5 HQ.out b9 hHeld.1) (fun hNew => ?_)
                clear hHeld b9
                have hHeld := hNew
                clear hNew hK K
                refine rX ?_
                refine rN 15 ?_
                refine rN 16 ?_
                refine rN 17 ?_
                refine rN 18 ?_
                refine rN 19 ?_
                refine rN 20 ?_
                refine rN 21 ?_
                refine rN 22 ?_
                refine rN 23 ?_
                refine rN 24 ?_
                refine rN 25 ?_
                refine rN 26 ?_
                refine rN 27 ?_
                refine rN 28 ?_
                refine rN 29 ?_
                refine rN 30 ?_
                refine rN 31 ?_
                refine rN 32 ?_
                refine rN 33 ?_
                refine rN 34 ?_
                refine rN 35 ?_
                refine rN 36 ?_
                refine rN 37 ?_
                refine rN 38 ?_
                refine rN 39 ?_
                refine rN 40 ?_
                refine wpAnyH_ready (rs := [41]) (by kernel_rfl) (by simp) ?_
                refine AllReadyH.cons rfl (fun K hK => ?_) ?zb41
                case zb41 => exact AllReadyH.nil
                go_simp
                refine (E1.out _).mono ?_
                rintro e w9 ⟨rfl, b9⟩
                refine hK.out _ _ (keep5 HQ.out b9 hHeld.1) (fun hNew => ?_)
                clear hHeld b9
                have hHeld := hNew
                clear hNew hK K
                refine rX ?_
                refine rN 42 ?_
                refine rN 43 ?_
                refine rN 44 ?_
                refine rN 45 ?_
                refine rN 46 ?_
                refine wpAnyH_done (by kernel_rfl) ?_ _
                go_wp2
                go_ret
                exact ⟨by rw [HF.out]; rfl, bt B3.out hHeld.1⟩
              · have a3 : ((t : Int) == z + 1) = false := by simp; omega
                have HC : Hid (Chain (l.take (k + 1))) := by
                  have := HNx.out (by omega)
                  rw [HJ.out]; exact this
                clear ha hs
                go_wp2_with fail
                refine wp_region_held_drew (S := fun w' => Below w3.heap.size w3 w' ∧ w'.cell? ⟨b, off + k * 3, none⟩ = some (.int .u32 (t : Int)) ∧ w'.cell? ⟨b, off + k * 3 + 1, none⟩ = some (.int .u8 (r : Int)) ∧ w'.cell? ⟨b, off + j * 3, none⟩ = some (.int .u32 (t0 : Int)) ∧ w'.cell? ⟨b, off + j * 3 + 1, none⟩ = some (.int .u8 (r : Int)) ∧ w'.cell? ⟨b, off + j * 3 + 2, none⟩ = some (.int .i64 m0)) (by kernel_rfl) (keep5 HQ.out (drew1 _) (Below.refl _ _)) (fun hHeld => ?_)
                refine rN 0 ?_
                refine rN 1 ?_
                refine rN 2 ?_
                refine rN 3 ?_
                refine rN 4 ?_
                refine rN 5 ?_
                refine rN 6 ?_
                refine rN 7 ?_
                refine rN 8 ?_
                refine rN 9 ?_
                refine rN 10 ?_
                refine rN 11 ?_
                refine rN 12 ?_
                refine rN 13 ?_
                refine wpAnyH_ready (rs := [14]) (by kernel_rfl) (by simp) ?_
                refine AllReadyH.cons rfl (fun K hK => ?_) ?zc14
                case zc14 => exact AllReadyH.nil
                go_simp
                refine (E1.out _).mono ?_
                rintro e w9 ⟨rfl, b9⟩
                refine hK.out _ _ (keep5 HQ.out b9 hHeld.1) (fun hNew => ?_)
                clear hHeld b9
                have hHeld := hNew
                clear hNew hK K
                refine rX ?_
                refine rN 15 ?_
                refine rN 16 ?_
                refine rN 17 ?_
                refine rN 18 ?_
                refine rN 19 ?_
                refine rN 20 ?_
                refine rN 21 ?_
                refine rN 22 ?_
                refine rN 23 ?_
                refine rN 24 ?_
                refine rN 25 ?_
                refine rN 26 ?_
                refine rN 27 ?_
                refine rN 28 ?_
                refine rN 29 ?_
                refine rN 30 ?_
                refine rN 31 ?_
                refine rN 32 ?_
                refine rN 33 ?_
                refine rN 34 ?_
                refine rN 35 ?_
                refine rN 36 ?_
                refine rN 37 ?_
                refine rN 38 ?_
                refine rN 39 ?_
                refine rN 40 ?_
                refine wpAnyH_ready (rs := [41]) (by kernel_rfl) (by simp) ?_
                refine AllReadyH.cons rfl (fun K hK => ?_) ?zc41
                case zc41 => exact AllReadyH.nil
                go_simp
                refine (E1.out _).mono ?_
                rintro e w9 ⟨rfl, b9⟩
                refine hK.out _ _ (keep5 HQ.out b9 hHeld.1) (fun hNew => ?_)
                clear hHeld b9
                have hHeld := hNew
                clear hNew hK K
                refine rX ?_
                refine rN 42 ?_
                refine rN 43 ?_
                refine rN 44 ?_
                refine rN 45 ?_
                refine rN 46 ?_
                refine wpAnyH_done (by kernel_rfl) ?_ _
                go_wp2
                go_roundw
                case rel => exact ⟨k + 1, by omega, by go_num, HC, Lib.hid (bt B3.out hHeld.1)⟩
                case measure => simp [intOf]; omega
            · have a2 : ((r : Int) == (r0 : Int)) = false := by simp; omega
              have a4 : decide (r = r0) = false := decide_eq_false hrr
              have HC : Hid (Chain (l.take (k + 1))) := by
                have := HNx.out ⟨by omega, fun h => absurd h hrr⟩
                rw [HJ.out]; exact this
              clear ha hrr
              go_wp2_with fail
              refine wp_region_held_drew (S := fun w' => Below w3.heap.size w3 w' ∧ w'.cell? ⟨b, off + k * 3, none⟩ = some (.int .u32 (t : Int)) ∧ w'.cell? ⟨b, off + k * 3 + 1, none⟩ = some (.int .u8 (r : Int)) ∧ w'.cell? ⟨b, off + j * 3, none⟩ = some (.int .u32 (t0 : Int)) ∧ w'.cell? ⟨b, off + j * 3 + 1, none⟩ = some (.int .u8 (r0 : Int)) ∧ w'.cell? ⟨b, off + j * 3 + 2, none⟩ = some (.int .i64 m0)) (by kernel_rfl) (keep5 HQ.out (drew1 _) (Below.refl _ _)) (fun hHeld => ?_)
              refine rN 0 ?_
              refine rN 1 ?_
              refine rN 2 ?_
              refine rN 3 ?_
              refine rN 4 ?_
              refine rN 5 ?_
              refine rN 6 ?_
              refine rN 7 ?_
              refine rN 8 ?_
              refine rN 9 ?_
              refine rN 10 ?_
              refine rN 11 ?_
              refine rN 12 ?_
              refine rN 13 ?_
              refine wpAnyH_ready (rs := [14]) (by kernel_rfl) (by simp) ?_
              refine AllReadyH.cons rfl (fun K hK => ?_) ?zd14
              case zd14 => exact AllReadyH.nil
              go_simp
              refine (E1.out _).mono ?_
              rintro e w9 ⟨rfl, b9⟩
              refine hK.out _ _ (keep5 HQ.out b9 hHeld.1) (fun hNew => ?_)
              clear hHeld b9
              have hHeld := hNew
              clear hNew hK K
              refine rX ?_
              refine rN 15 ?_
              refine rN 16 ?_
              refine rN 17 ?_
              refine rN 18 ?_
              refine rN 19 ?_
              refine rN 20 ?_
              refine rN 21 ?_
              refine rN 22 ?_
              refine rN 23 ?_
              refine rN 24 ?_
              refine rN 25 ?_
              refine rN 26 ?_
              refine rN 27 ?_
              refine rN 28 ?_
              refine rN 29 ?_
              refine rV 30 ?_
              refine rV 31 ?_
              refine rV 32 ?_
              refine rV 33 ?_
              refine rV 34 ?_
              refine rV 35 ?_
              refine rV 36 ?_
              refine rV 37 ?_
              refine rV 38 ?_
              refine rV 39 ?_
              refine rV 40 ?_
              refine rV 41 ?_
              refine rV 42 ?_
              refine rV 43 ?_
              refine rN 44 ?_
              refine rN 45 ?_
              refine rN 46 ?_
              refine wpAnyH_done (by kernel_rfl) ?_ _
              go_wp2
              go_roundw
              case rel => exact ⟨k + 1, by omega, by go_num, HC, Lib.hid (bt B3.out hHeld.1)⟩
              case measure => simp [intOf]; omega
    · have q1 : decide (k < n) = false := by simpa using hkn
      have hkk : l.take k = l := List.take_of_length_le (by have := HN.out; omega)
      have hc : Chain l := by have := hch.out; rwa [hkk] at this
      have V1 : Runs wr (.slice ao n cap) l := by
        have := HV.out.keeps hbel.out
        rwa [← HN.out] at this
      obtain ⟨z, hz⟩ : ∃ z, z = long l := ⟨_, rfl⟩
      have LG : Hid (Calls Tryz.prog 65 #[.slice ao n cap] wr fun e w' => e = .returned (.int .i64 z) ∧ wr = w') := by
        rw [hz]
        exact long_any V1 (by rw [← HN.out]; omega) (fun j hj => by have h := chain_one hc hj; exact ⟨h.2.2.2.1, by have := h.2.2.2.2.1; omega⟩)
      obtain ⟨qb, hqb⟩ : ∃ qb, qb = decide (z ≤ 4096) := ⟨_, rfl⟩
      have HF : Hid (mayB l = qb) := by
        show _ = _
        unfold mayB
        rw [(chainB_iff l).2 hc, ← hz, ← hqb, decide_eq_true (by rw [← HN.out]; omega), decide_eq_true (by rw [← HN.out]; omega)]
        simp
      have hqb' := hqb.symm
      clear hz hkk hc V1 hqb
      go_wp2_with fail
      refine LG.out.mono ?_
      rintro e w3 ⟨rfl, rfl⟩
      go_wp2
      go_ret
      exact ⟨by rw [HF.out]; rfl, hbel.out⟩
theorem refMay_is {v : Value} {l : List Run} {w : World} (hv : Runs w v l) {b : Bool} (h : mayB l = b) :
    Calls Tryz.prog 27 #[v] w fun e w' => e = .returned (.bool b) ∧ Below w.heap.size w w' := by
  rw [← h]; exact refMay_any hv
end Go.Proofs.YtmiepnnpccpicaaGreat.Place

namespace Go.Proofs.YtmiepnnpccpicaaGreat.Place
open Go.RowKit Stamp
attribute [local go_sem ↓] Go.wp_at_zero Go.wp_at_succ
theorem own_blk3 {X : World} {base g : Nat} {e : TypeId} {c0 c1 c2 : Value} (hb : base ≤ g) (h : X.heap[g]? = some (.cells #[c0, c1, c2] e)) : X.ownsRow base e 3 (.slice (some ⟨g, 0, none⟩) 1 1) 1 [c0, c1, c2] :=
  ⟨rfl, .inr ⟨g, 1, #[c0, c1, c2], rfl, hb, h, Nat.le_refl _, by decide, rfl, rfl⟩⟩
theorem keep3 {wl w1 w2 : World} {b o1 o2 o3 : Nat} {c1 c2 c3 : Value} (q : b < wl.heap.size ∧ wl.cell? ⟨b, o1, none⟩ = some c1 ∧ wl.cell? ⟨b, o2, none⟩ = some c2 ∧ wl.cell? ⟨b, o3, none⟩ = some c3) (h : Below w1.heap.size w1 w2) (hb : Below wl.heap.size wl w1) :
    Below wl.heap.size wl w2 ∧ w2.cell? ⟨b, o1, none⟩ = some c1 ∧ w2.cell? ⟨b, o2, none⟩ = some c2 ∧ w2.cell? ⟨b, o3, none⟩ = some c3 :=
  have a := bt hb h
  ⟨a, (a.cell (p := ⟨b, o1, none⟩) q.1).trans q.2.1, (a.cell (p := ⟨b, o2, none⟩) q.1).trans q.2.2.1, (a.cell (p := ⟨b, o3, none⟩) q.1).trans q.2.2.2⟩
/-- A run's cells, in the midst of a block. -/
def Pos3 (w : World) (b off t r : Nat) (m : Int) : Prop := b < w.heap.size ∧ w.cell? ⟨b, off, none⟩ = some (.int .u32 (t : Int)) ∧ w.cell? ⟨b, off + 1, none⟩ = some (.int .u8 (r : Int)) ∧ w.cell? ⟨b, off + 2, none⟩ = some (.int .i64 m)
set_option maxHeartbeats 2000000 in
theorem cut_any {v : Value} {x : Run} {q : List Run} {w : World} {n : Nat} (hv : Runs w v (x :: q)) (hl : q.length ≤ 1000) (hx : One x) (h1 : 1 ≤ n) (hn : (n : Int) ≤ x.m) :
    Calls Tryz.prog 103 #[v, .int .i64 (n : Int)] w fun e w' => ∃ v', e = .returned v' ∧ Runs w' v' (cut x q n) ∧ Below w.heap.size w w' := by
  obtain ⟨ao, cap, rfl⟩ := hv.shape
  obtain ⟨b, off, rfl, hb, hx0, hx1, hx2⟩ := hv.at 0 (by simp)
  have hcap := Sees.cap hv
  have RT := Lib.hid (Runs.rest hv)
  obtain ⟨len, hlen⟩ : ∃ len, len = (x :: q).length := ⟨_, rfl⟩
  have hlen2 : len = q.length + 1 := by rw [hlen]; simp
  rw [← hlen] at hcap RT ⊢
  have hx0 : w.cell? ⟨b, off, none⟩ = some (.int .u32 (x.t : Int)) := by simpa using hx0
  have hx1 : w.cell? ⟨b, off + 1, none⟩ = some (.int .u8 (x.r : Int)) := by simpa using hx1
  have hx2 : w.cell? ⟨b, off + 2, none⟩ = some (.int .i64 x.m) := by simpa using hx2
  obtain ⟨t, r, m, ht, hr, hm⟩ := x
  simp only at hx0 hx1 hx2 hn
  have hone := hx
  unfold One at hone
  simp only at hone
  have hl1 : 1 ≤ len := by omega
  have hlc : len ≤ cap := hcap.2.1
  have hcm : cap ≤ 9223372036854775807 := hcap.2.2.1
  by_cases he : m = (n : Int)
  · have hcut : cut ⟨t, r, m, ht, hr, hm⟩ q n = q := by unfold cut; simp only; rw [if_pos he]
    have HC := Lib.hid hcut
    subst he
    clear hv hcut hlen hlen2 hcap hx hone hx0 hx1
    by_cases hc : cap = 1
    · subst hc
      obtain rfl : len = 1 := by omega
      go_enter Tryz.func103, Tryz.ntmps103
      go_wp2
      go_ret
      refine ⟨_, rfl, ?_, Below.refl _ _⟩
      rw [HC.out]
      have := RT.out
      simpa using this
    · have hc' : (1 : Int) < (cap : Int) := by omega
      have RT2 : Hid (Runs w (.slice (some ⟨b, off + 3, none⟩) (len - 1) (cap - 1)) q) := by
        have := RT.out
        rwa [if_neg hc] at this
      clear RT
      go_enter Tryz.func103, Tryz.ntmps103
      go_wp2
      go_ret
      refine ⟨_, rfl, ?_, Below.refl _ _⟩
      rw [HC.out]
      have := RT2.out
      simpa [hc] using this
  · have hlt : (n : Int) < m := by omega
    have hcut : cut ⟨t, r, m, ht, hr, hm⟩ q n = mkRun (t + n) r (m - n) :: q := by unfold cut; simp only; rw [if_neg he]
    have HC := Lib.hid hcut
    have u1 : ((m : Int) == (n : Int)) = false := by simp; omega
    have hrn : runs (mkRun (t + n) r (m - n) :: q) = .int .u32 ((t : Int) + n) :: .int .u8 (r : Int) :: .int .i64 (m - n) :: runs q := by
      rw [runs, mkRun_t (by omega), mkRun_r hr, mkRun_m (by omega)]
      rfl
    have HR := Lib.hid hrn
    have HV : Hid (Pos3 w b off t r m) := ⟨hb, hx0, hx1, hx2⟩
    have HL := Lib.hid hlen2
    obtain ⟨o1, o2, o3, o4, o5, o6⟩ := hone
    have e1 : IntKind.u32.wrap ((t : Int) + (n : Int)) = (t : Int) + (n : Int) := by rw [IntKind.wrap_u32]; omega
    have e2 : IntKind.i64.wrap (m - (n : Int)) = m - (n : Int) := IntWalk.i64_in _ (by omega)
    have e3 : IntKind.u32.wrap (n : Int) = (n : Int) := by rw [IntKind.wrap_u32]; omega
    have q0 : 0 < len := by omega
    have q1 : (0 : Int) < (len : Int) := by omega
    have BW : Hid (Below w.heap.size w ((w.alloc (.cells #[.int .u32 ((t : Int) + n), .int .u8 (r : Int), .int .i64 (m - n)] 40)).drew)) := ((Below.refl _ _).alloc (Nat.le_refl _) _).drew
    have OW : Hid (((w.alloc (.cells #[.int .u32 ((t : Int) + n), .int .u8 (r : Int), .int .i64 (m - n)] 40)).drew).ownsRow w.heap.size 40 3 (.slice (some ⟨w.heap.size, 0, none⟩) 1 1) 1 [.int .u32 ((t : Int) + n), .int .u8 (r : Int), .int .i64 (m - n)]) :=
      own_blk3 (Nat.le_refl _) (blk_drew (blk_new rfl))
    have hlq : q.length = len - 1 := by omega
    clear hv hcut hrn hlen hlen2 hcap hx he hlt hx0 hx1 hx2
    by_cases hc : cap = 1
    · subst hc
      obtain rfl : len = 1 := by omega
      have SQ : Hid (Sees ((w.alloc (.cells #[.int .u32 ((t : Int) + n), .int .u8 (r : Int), .int .i64 (m - n)] 40)).drew) (.slice (some ⟨b, off, none⟩) 0 0) 3 0 (runs q)) := by
        have h := RT.out.keeps BW.out
        unfold Runs at h
        rw [hlq] at h
        unfold Hid
        simpa using h
      clear RT hlq
      go_enter Tryz.func103, Tryz.ntmps103
      go_wp2
      go_region_held3 (fun w' => Below w.heap.size w w' ∧ w'.cell? ⟨b, off, none⟩ = some (.int .u32 (t : Int)) ∧ w'.cell? ⟨b, off + 1, none⟩ = some (.int .u8 (r : Int)) ∧ w'.cell? ⟨b, off + 2, none⟩ = some (.int .i64 m))
        (first | exact keep3 HV.out (drew1 _) (Below.refl _ _) | (go_split_ands; exact keep3 HV.out (drew1 _) (by assumption)) | (go_split_ands; exact keep3 HV.out ((Below.refl _ _).alloc (Nat.le_refl _) _) (by assumption)) | (go_split_ands; exact keep3 HV.out (((Below.refl _ _).alloc (Nat.le_refl _) _).drew) (by assumption)))
        (fail)
      go_wp2_with (at_builtin; refine wpList_append_sees rfl (.tmp 33) (.tmp 35) 26 40 rfl Tryz.underlying26 run_info rfl (by decide) w.heap.size _ 1 _ rfl OW.out _ 0 _ rfl SQ.out (runs_oneCell q) ?k1 ?k2 ?k3 ?_)
      case k1 => omega
      case k2 => omega
      case k3 => exact BW.out.size
      rintro v1 w1 o1 g1 b1
      have B1 := Lib.hid (BW.out.trans b1)
      have O1 := Lib.hid o1
      clear o1 g1 b1
      go_wp2
      go_ret
      refine ⟨_, rfl, ?_, B1.out⟩
      rw [HC.out]
      have h := O1.out
      rw [← HR.out] at h
      exact Go.Proofs.YtmiepnnpccpicaaGreat.Runs.own h
    · have hc' : (1 : Int) < (cap : Int) := by omega
      have SQ : Hid (Sees ((w.alloc (.cells #[.int .u32 ((t : Int) + n), .int .u8 (r : Int), .int .i64 (m - n)] 40)).drew) (.slice (some ⟨b, off + 3, none⟩) (len - 1) (cap - 1)) 3 (len - 1) (runs q)) := by
        have h := RT.out.keeps BW.out
        unfold Runs at h
        rw [hlq, if_neg hc] at h
        exact h
      clear RT hlq
      go_enter Tryz.func103, Tryz.ntmps103
      go_wp2
      go_region_held3 (fun w' => Below w.heap.size w w' ∧ w'.cell? ⟨b, off, none⟩ = some (.int .u32 (t : Int)) ∧ w'.cell? ⟨b, off + 1, none⟩ = some (.int .u8 (r : Int)) ∧ w'.cell? ⟨b, off + 2, none⟩ = some (.int .i64 m))
        (first | exact keep3 HV.out (drew1 _) (Below.refl _ _) | (go_split_ands; exact keep3 HV.out (drew1 _) (by assumption)) | (go_split_ands; exact keep3 HV.out ((Below.refl _ _).alloc (Nat.le_refl _) _) (by assumption)) | (go_split_ands; exact keep3 HV.out (((Below.refl _ _).alloc (Nat.le_refl _) _).drew) (by assumption)))
        (fail)
      go_wp2_with (at_builtin; refine wpList_append_sees rfl (.tmp 33) (.tmp 35) 26 40 rfl Tryz.underlying26 run_info rfl (by decide) w.heap.size _ 1 _ rfl OW.out _ (len - 1) _ rfl SQ.out (runs_oneCell q) ?k1 ?k2 ?k3 ?_)
      case k1 => have := HL.out; omega
      case k2 => have := HL.out; omega
      case k3 => exact BW.out.size
      rintro v1 w1 o1 g1 b1
      have B1 := Lib.hid (BW.out.trans b1)
      have O1 := Lib.hid o1
      clear o1 g1 b1
      go_wp2
      go_ret
      refine ⟨_, rfl, ?_, B1.out⟩
      rw [HC.out]
      have h := O1.out
      rw [← HR.out] at h
      exact Go.Proofs.YtmiepnnpccpicaaGreat.Runs.own h
end Go.Proofs.YtmiepnnpccpicaaGreat.Place

namespace Go.Proofs.YtmiepnnpccpicaaGreat.Stamp
open Go.RowKit Flo
theorem refMay_any (t r : Nat) (w : World) :
    Calls Tryz.prog 98 #[.agg #[.int .u32 (t : Int), .int .u8 (r : Int)]] w fun e w' => e = .returned (.bool (may t r)) ∧ Below w.heap.size w w' := by
  have q : (decide (1 ≤ (t : Int)) = false ∧ may t r = false) ∨ (decide (1 ≤ (t : Int)) = true ∧ decide ((t : Int) ≤ 1073741824) = false ∧ may t r = false) ∨
      (decide (1 ≤ (t : Int)) = true ∧ decide ((t : Int) ≤ 1073741824) = true ∧ decide ((r : Int) < 8) = false ∧ may t r = false) ∨
      (decide (1 ≤ (t : Int)) = true ∧ decide ((t : Int) ≤ 1073741824) = true ∧ decide ((r : Int) < 8) = true ∧ may t r = true) := by
    by_cases h1 : 1 ≤ t
    · by_cases h2 : t ≤ 1073741824
      · by_cases h3 : r < 8
        · exact .inr (.inr (.inr ⟨decide_eq_true (by omega), decide_eq_true (by omega), decide_eq_true (by omega), by rw [may_iff]; omega⟩))
        · exact .inr (.inr (.inl ⟨decide_eq_true (by omega), decide_eq_true (by omega), decide_eq_false (by omega), by rw [may_no]; omega⟩))
      · exact .inr (.inl ⟨decide_eq_true (by omega), decide_eq_false (by omega), by rw [may_no]; omega⟩)
    · exact .inl ⟨decide_eq_false (by omega), by rw [may_no]; omega⟩
  have q' : (1 ≤ t) ∨ t = 0 := by omega
  rcases q with ⟨q1, h⟩ | ⟨q1, q2, h⟩ | ⟨q1, q2, q3, h⟩ | ⟨q1, q2, q3, h⟩
  all_goals
    rw [h]
    clear h q'
    go_enter Tryz.func98, Tryz.ntmps98
    go_wp2
    go_ret
    exact ⟨rfl, (Below.refl _ _).alloc (Nat.le_refl _) _⟩
theorem refLess_any (t r u s : Nat) (w : World) :
    Calls Tryz.prog 62 #[.agg #[.int .u32 (t : Int), .int .u8 (r : Int)], .agg #[.int .u32 (u : Int), .int .u8 (s : Int)]] w fun e w' => e = .returned (.bool (less t r u s)) ∧ Below w.heap.size w w' := by
  obtain ⟨q, hq⟩ : ∃ q, q = less t r u s := ⟨_, rfl⟩
  have hl : (decide ((t : Int) < (u : Int)) = true ∧ decide (t < u) = true ∧ true = q) ∨ (decide ((t : Int) < (u : Int)) = false ∧ decide (t < u) = false ∧ ((t : Int) == (u : Int)) = true ∧ decide (t = u) = true ∧ decide (r < s) = q) ∨
      (decide ((t : Int) < (u : Int)) = false ∧ decide (t < u) = false ∧ ((t : Int) == (u : Int)) = false ∧ decide (t = u) = false ∧ false = q) := by
    rw [hq]
    by_cases h1 : t < u
    · exact .inl ⟨decide_eq_true (by omega), decide_eq_true h1, by rw [eq_comm, less_iff]; omega⟩
    · by_cases h2 : t = u
      · refine .inr (.inl ⟨decide_eq_false (by omega), decide_eq_false h1, by simp [h2], decide_eq_true h2, ?_⟩)
        unfold less; congr 1; simp; omega
      · exact .inr (.inr ⟨decide_eq_false (by omega), decide_eq_false h1, by simp; omega, decide_eq_false h2, by rw [eq_comm, less_no]; omega⟩)
  rw [← hq]
  clear hq
  rcases hl with ⟨k1, k2, rfl⟩ | ⟨k1, k2, k3, k4, k5⟩ | ⟨k1, k2, k3, k4, rfl⟩
  all_goals
    go_enter Tryz.func62, Tryz.ntmps62
    go_wp2
    go_ret
    exact ⟨by first | rfl | rw [← k5], ((Below.refl _ _).alloc (Nat.le_refl _) _).alloc (by simp) _⟩
end Go.Proofs.YtmiepnnpccpicaaGreat.Stamp
