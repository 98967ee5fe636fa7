/- octavo/span: Check, Count, Twin, Same: what each answers. Conditions: the slices' cells are spans. octavo/span.with: what it answers. Conditions: the row is the call's own and holds spans that end at MaxTime at the most. octavo/clock: Check, Count, Top, and stamp.Check: what each answers. Conditions: the slices' cells are replicas' spans. A map from bytes to values of any type, as a function from numbers to values. Conditions: none. octavo/clock: byReplica and told: what each answers. Conditions: the clock may be; the function that is told answers spans of its own. Rows of numbers that are put in order where they stand: what stays, what comes to be in order. Conditions: none. A row of 32-bit numbers of the call's own, put in order where it stands: its cells; cmp.Less. Conditions: none. slices.insertionSortOrdered over 32-bit numbers: it puts in order. Conditions: the row is the call's ow -/
import Derived.RowKit
import Derived.Test.YtohiidgdpecbdaaGreatChecked
import Derived.WalkKit
import Derived.WalkSpells
import Derived.WalkLawsBesides
import Derived.Laws.BytesArg
import Derived.Lib.Hide
import Derived.Deep.LoopGhost
import Derived.Laws.AppendOwnNone
import Derived.Laws.OwnMore
import Derived.WideShapes
import Derived.RegionTactic
import Derived.Deep.DrawnRows
import Derived.Deep.QuietTactic
import Derived.BigQuiet
import Derived.IntWalk
import Derived.Deep.RegionHeld3
import Derived.Shelf.Abstract
import Derived.RangeFuncBox
import Derived.RangeFuncLeaves
import Derived.RangeFuncNested
import Derived.RangeFuncBound
import Derived.RangeFuncCalls
import Derived.OwnWalkIn
import Derived.TacticsInMore
import Derived.LoopNIn
import Derived.LoopIn
import Derived.Maps.Own
import Derived.Maps.OwnOps
import Derived.Maps.Views
import Derived.Deep.DeepCutAuto
import Derived.Lib.Tables
import Derived.Test.YtohiidgdpecbdaaGreatPk10
import Derived.Test.YtohiidgdpecbdaaGreatPk04
import Derived.Test.YtohiidgdpecbdaaGreatPk01
import Derived.Test.YtohiidgdpecbdaaGreatPk08

namespace Go.Proofs.YtohiidgdpecbdaaGreat.Spans
open Go.RowKit
attribute [local go_sem ↓] Go.wp_at_zero Go.wp_at_succ
set_option maxHeartbeats 1000000 in
theorem slEq_yes {a b : Value} {l : List Sp} {w : World} (ha : Sps w a l) (hb : Sps w b l) :
    Calls Tryz.prog 76 #[a, b] w fun e w' => e = .returned (.bool true) ∧ Below w.heap.size w w' := by
  obtain ⟨ao, ca, rfl⟩ := ha.shape
  obtain ⟨bo, cb, rfl⟩ := hb.shape
  obtain ⟨n, hn⟩ : ∃ n, n = l.length := ⟨_, rfl⟩
  have hm : n ≤ 9223372036854775807 := by rw [hn]; exact Sees.max ha
  have HA := Lib.hid ha
  have HB := Lib.hid hb
  have HN := Lib.hid hn
  rw [← hn]
  clear ha hb hn
  have t1 : ((n : Int) != (n : Int)) = false := by simp
  go_enter Tryz.func76, Tryz.ntmps76
  go_wp2
  go_loopw [13] (fun i wr => ∃ k : Nat, k ≤ n ∧ i = .int .i64 (k : Int) ∧ ∃ q, wr = w.drewN q) (fun i _ => n - (intOf i).toNat)
  case atStart => exact ⟨0, by omega, rfl, 0, rfl⟩
  case round =>
    obtain ⟨k, hk, rfl, q, rfl⟩ := hrel
    by_cases hkn : k < n
    · have q1 : decide (k < n) = true := by simpa using hkn
      obtain ⟨b1, o1, rfl, hb1, ha0, ha1⟩ := HA.out.at k (by rw [← HN.out]; exact hkn)
      obtain ⟨b2, o2, rfl, hb2, hb0, hb1'⟩ := HB.out.at k (by rw [← HN.out]; exact hkn)
      obtain ⟨x, hx⟩ : ∃ x, x = l.getD k zsp := ⟨_, rfl⟩
      rw [← hx] at ha0 ha1 hb0 hb1'
      obtain ⟨xt, xr, _, _⟩ := x
      simp only at ha0 ha1 hb0 hb1'
      have q2 : (0 : Int) ≤ (k : Int) := by omega
      have q3 : (k : Int) < (n : Int) := by omega
      clear hx
      go_wp2
      go_quiet (fail)
      go_wp2
      go_roundw
      case rel => exact ⟨k + 1, by omega, by go_num, _, rfl⟩
      case measure => simp [intOf]; omega
    · have q1 : decide (k < n) = false := by simpa using hkn
      go_wp2
      go_ret
      exact ⟨rfl, below_draw (Below.refl _ _) _⟩
set_option maxHeartbeats 1000000 in
theorem slEq_no {a b : Value} {l m : List Sp} {w : World} (ha : Sps w a l) (hb : Sps w b m) (hlm : l ≠ m) :
    Calls Tryz.prog 76 #[a, b] w fun e w' => e = .returned (.bool false) ∧ Below w.heap.size w w' := by
  obtain ⟨ao, ca, rfl⟩ := ha.shape
  obtain ⟨bo, cb, rfl⟩ := hb.shape
  obtain ⟨n, hn⟩ : ∃ n, n = l.length := ⟨_, rfl⟩
  obtain ⟨n2, hn2⟩ : ∃ n, n = m.length := ⟨_, rfl⟩
  have hm : n ≤ 9223372036854775807 := by rw [hn]; exact Sees.max ha
  have HA := Lib.hid ha
  have HB := Lib.hid hb
  have HN := Lib.hid hn
  have HN2 := Lib.hid hn2
  have HL := Lib.hid hlm
  rw [← hn, ← hn2]
  clear ha hb hn hn2 hlm
  by_cases hlen : n = n2
  · subst hlen
    have t1 : ((n : Int) != (n : Int)) = false := by simp
    go_enter Tryz.func76, Tryz.ntmps76
    go_wp2
    go_loopw [13] (fun i wr => ∃ k : Nat, k ≤ n ∧ i = .int .i64 (k : Int) ∧ Hid (∀ j, j < k → l.getD j zsp = m.getD j zsp) ∧ ∃ q, wr = w.drewN q) (fun i _ => n - (intOf i).toNat)
    case atStart => exact ⟨0, by omega, rfl, Lib.hid (by omega), 0, rfl⟩
    case round =>
      obtain ⟨k, hk, rfl, hal, q, rfl⟩ := hrel
      by_cases hkn : k < n
      · have q1 : decide (k < n) = true := by simpa using hkn
        obtain ⟨b1, o1, rfl, hb1, ha0, ha1⟩ := HA.out.at k (by rw [← HN.out]; exact hkn)
        obtain ⟨b2, o2, rfl, hb2, hb0, hb1'⟩ := HB.out.at k (by rw [← HN2.out]; exact hkn)
        obtain ⟨x, hx⟩ : ∃ x, x = l.getD k zsp := ⟨_, rfl⟩
        obtain ⟨y, hy⟩ : ∃ y, y = m.getD k zsp := ⟨_, rfl⟩
        rw [← hx] at ha0 ha1
        rw [← hy] at hb0 hb1'
        have q2 : (0 : Int) ≤ (k : Int) := by omega
        have q3 : (k : Int) < (n : Int) := by omega
        by_cases hxy : x = y
        · have HX := Lib.hid (show l.getD k zsp = m.getD k zsp by rw [← hx, ← hy, hxy])
          subst hxy
          obtain ⟨xt, xr, _, _⟩ := x
          simp only at ha0 ha1 hb0 hb1'
          clear hx hy
          go_wp2
          go_quiet (fail)
          go_wp2
          go_roundw
          case rel =>
            refine ⟨k + 1, by omega, by go_num, Lib.hid (fun j hj => ?_), _, rfl⟩
            by_cases e : j = k
            · rw [e]; exact HX.out
            · exact hal.out j (by omega)
          case measure => simp [intOf]; omega
        · have hparts : ¬ x.f = y.f ∨ (x.f = y.f ∧ ¬ x.t = y.t) := by
            by_cases h1 : x.f = y.f
            · exact .inr ⟨h1, fun h2 => hxy (Sp.ext' h1 h2)⟩
            · exact .inl h1
          obtain ⟨xt, xr, _, _⟩ := x
          obtain ⟨yt, yr, _, _⟩ := y
          simp only at ha0 ha1 hb0 hb1' hparts
          clear hx hy hxy
          rcases hparts with h1 | ⟨rfl, h2⟩
          · go_wp2
            go_quiet (fail)
            go_wp2
            go_ret
            exact ⟨rfl, below_draw (below_draw (Below.refl _ _) _) _⟩
          · have h4 : ((xr : Int) == (yr : Int)) = false := by simp; omega
            have h5 : decide (xr = yr) = false := decide_eq_false h2
            go_wp2
            go_quiet (fail)
            go_wp2
            go_ret
            exact ⟨rfl, below_draw (below_draw (Below.refl _ _) _) _⟩
      · exfalso
        obtain ⟨j, h1, h2⟩ := sps_ne (by rw [← HN.out, ← HN2.out]) HL.out
        exact h2 (hal.out j (by have := HN.out; omega))
  · have t1 : ((n : Int) != (n2 : Int)) = true := by simp; omega
    have t2 : ¬ n = n2 := hlen
    go_enter Tryz.func76, Tryz.ntmps76
    go_wp2
    go_ret
    exact ⟨rfl, Below.refl _ _⟩
theorem pSame_any {a b : Value} {l m : List Sp} {w : World} (ha : Sps w a l) (hb : Sps w b m) :
    Calls Tryz.prog 48 #[a, b] w fun e w' => e = .returned (.bool (decide (l = m))) ∧ Below w.heap.size w w' := by
  by_cases h : l = m
  · subst h
    rw [decide_eq_true rfl]
    have E := Lib.hid (slEq_yes ha hb)
    clear ha hb
    go_enter Tryz.func48, Tryz.ntmps48
    go_wp2_with fail
    refine E.out.mono ?_
    rintro e w1 ⟨rfl, b1⟩
    go_wp2
    go_ret
    exact ⟨rfl, b1⟩
  · rw [decide_eq_false h]
    have E := Lib.hid (slEq_no ha hb h)
    clear ha hb h
    go_enter Tryz.func48, Tryz.ntmps48
    go_wp2_with fail
    refine E.out.mono ?_
    rintro e w1 ⟨rfl, b1⟩
    go_wp2
    go_ret
    exact ⟨rfl, b1⟩
end Go.Proofs.YtohiidgdpecbdaaGreat.Spans

namespace Go.Proofs.YtohiidgdpecbdaaGreat.Spans
open Go.RowKit Go.Shelf
attribute [local go_sem ↓] Go.wp_at_zero Go.wp_at_succ
theorem sps_set_last (l : List Sp) (x : Sp) (t : Nat) (ht : t < 4294967296) : (sps (l ++ [x])).set (l.length * 2 + 1) (.int .u32 (t : Int)) = sps (l ++ [mk x.f t]) := by
  rw [sps_append, sps_append, List.set_append_right _ _ (by rw [sps_len]; omega), sps_len]
  congr 1
  rw [show l.length * 2 + 1 - l.length * 2 = 1 by omega]
  simp only [sps, mk_f x.hf, mk_t ht, List.set_cons_succ, List.set_cons_zero]
end Go.Proofs.YtohiidgdpecbdaaGreat.Spans

namespace Go.Proofs.YtohiidgdpecbdaaGreat.Clocks
open Go.RowKit Go.Proofs.YtohiidgdpecbdaaGreat.Spans
attribute [local go_sem ↓] Go.wp_at_zero Go.wp_at_succ
def chkI (a : Id) : Int := if mayI a then 0 else 8
theorem stCheck_any (a : Id) (w : World) :
    Calls Tryz.prog 112 #[idv a] w fun e w' => e = .returned (.int .i64 (chkI a)) ∧ Below w.heap.size w w' := by
  obtain ⟨t, r, ht, hr⟩ := a
  unfold idv
  simp only
  obtain ⟨c, hc⟩ : ∃ c, c = chkI ⟨t, r, ht, hr⟩ := ⟨_, rfl⟩
  rw [← hc]
  have q : (decide ((t : Int) < 1) = true ∧ c = 8) ∨ (decide ((t : Int) < 1) = false ∧ decide ((1073741824 : Int) < (t : Int)) = true ∧ c = 8) ∨
      (decide ((t : Int) < 1) = false ∧ decide ((1073741824 : Int) < (t : Int)) = false ∧ decide ((8 : Int) ≤ (r : Int)) = true ∧ c = 8) ∨
      (decide ((t : Int) < 1) = false ∧ decide ((1073741824 : Int) < (t : Int)) = false ∧ decide ((8 : Int) ≤ (r : Int)) = false ∧ c = 0) := by
    rw [hc]
    unfold chkI mayI
    simp only
    by_cases h1 : t < 1
    · exact .inl ⟨decide_eq_true (by omega), if_neg (by omega)⟩
    · by_cases h2 : 1073741824 < t
      · exact .inr (.inl ⟨decide_eq_false (by omega), decide_eq_true (by omega), if_neg (by omega)⟩)
      · by_cases h3 : 8 ≤ r
        · exact .inr (.inr (.inl ⟨decide_eq_false (by omega), decide_eq_false (by omega), decide_eq_true (by omega), if_neg (by omega)⟩))
        · exact .inr (.inr (.inr ⟨decide_eq_false (by omega), decide_eq_false (by omega), decide_eq_false (by omega), if_pos (by omega)⟩))
  clear hc
  rcases q with ⟨q1, rfl⟩ | ⟨q1, q2, rfl⟩ | ⟨q1, q2, q3, rfl⟩ | ⟨q1, q2, q3, rfl⟩
  all_goals
    go_enter Tryz.func112, Tryz.ntmps112
    go_wp2
    go_ret
    exact ⟨rfl, (Below.refl _ _).alloc (Nat.le_refl _) _⟩
end Go.Proofs.YtohiidgdpecbdaaGreat.Clocks

namespace Go.Proofs.YtohiidgdpecbdaaGreat
open Go.RowKit Go.WideShapes
open Go.Maps (Keyed int_keyed IsMap keyOf_int_mk)
/-- A value as a token: every value reads so. -/
def tokR (v : Value) : Option (DataW Value × List MemPlace) := some (.held v, [])
theorem u8law : Keyed Tryz.prog 5 := int_keyed Tryz.underlying5
theorem u8wf {r : Nat} (h : r < 256) : (Lit.int .u8 (r : Int)).wf = true := by
  have h1 : IntKind.u8.min = 0 := by decide
  have h2 : IntKind.u8.max = 255 := by decide
  simp [Lit.wf, h1, h2]
  omega
theorem u8key {r : Nat} (h : r < 256) : keyOf Tryz.prog 5 (.int .u8 (r : Int)) = some (.int .u8 (r : Int)) := keyOf_int_mk Tryz.underlying5 (u8wf h)
/-- Block b is a map of at most n entries; where M is none it has no entry. -/
def MapV (w : World) (b n : Nat) (M : Nat → Option Value) : Prop :=
  ∃ D : DataW Value, w.ownsMap Tryz.prog 5 tokR b n D ∧ IsMap D ∧ ∀ r : Nat, r < 256 → ∀ z, D.atKey (.int .u8 (r : Int)) (.held z) = .held ((M r).getD z)
theorem MapV.made (w : World) : MapV (w.alloc (.map #[] 0)) w.heap.size 0 (fun _ => none) := ⟨_, World.ownsMap_made w _ _ _, Maps.isMap_empty, fun _ _ _ => rfl⟩
theorem MapV.keeps {w w' : World} {b n : Nat} {M : Nat → Option Value} (h : MapV w b n M) (hb : Below w.heap.size w w') : MapV w' b n M := by
  obtain ⟨D, ⟨es, clock, h1, h2, h3, h4⟩, h5, h6⟩ := h
  exact ⟨D, ⟨es, clock, (hb.block b (Array.getElem?_eq_some_iff.1 h1).1).trans h1, h2, h3, h4⟩, h5, h6⟩
theorem MapV.other {w w' : World} {b n : Nat} {M : Nat → Option Value} (h : MapV w b n M) (hb : w'.heap[b]? = w.heap[b]?) : MapV w' b n M := by
  obtain ⟨D, ⟨es, clock, h1, h2, h3, h4⟩, h5, h6⟩ := h
  exact ⟨D, ⟨es, clock, hb.trans h1, h2, h3, h4⟩, h5, h6⟩
theorem MapV.run {w : World} {b n : Nat} {M : Nat → Option Value} (h : MapV w b n M) {t e : TypeId} (ht : Tryz.prog.underlying t = some (.map 5 e)) {z : Value} (hz : (zeroValue e).run Tryz.prog w = .ok z w) {r : Nat} (hr : r < 256) :
    (Instr.lookup t (.map (some b)) (.int .u8 (r : Int)) false).run Tryz.prog w = .ok ((M r).getD z) w := by
  obtain ⟨D, h1, h2, h3⟩ := h
  obtain ⟨v, ps, hrun, hv⟩ := h1.lookup u8law ht hz (zd := .held z) (zp := []) rfl (u8key hr)
  rw [h3 r hr] at hv
  have : v = (M r).getD z := by
    have := (Prod.mk.inj (Option.some.inj hv)).1
    exact DataW.held.inj this
  rw [← this]
  exact hrun
theorem MapV.put {w' : World} {b n : Nat} {M : Nat → Option Value} {D : DataW Value} {r : Nat} {v : Value} (hD : IsMap D) (hat : ∀ r : Nat, r < 256 → ∀ z, D.atKey (.int .u8 (r : Int)) (.held z) = .held ((M r).getD z))
    (h : w'.ownsMap Tryz.prog 5 tokR b n (D.put (.int .u8 (r : Int)) (.held v))) : MapV w' b n (fun k => if k = r then some v else M k) := by
  refine ⟨_, h, hD.put _ _, fun k hk z => ?_⟩
  by_cases hkr : k = r
  · subst hkr
    rw [Maps.atKey_put_same hD (show WideAt.IsKeyLit (.int .u8 (k : Int)) from trivial)]
    simp
  · rw [Maps.atKey_put_other (by intro h; injection h with _ h; omega), hat k hk]
    simp [hkr]
/-- A look-up, at the operation. -/
theorem wpList_lookup_v (w : World) {ops : Array Oper} {rest : List Oper} {o : Oper} {a : Act} {Q : Exit → Act → World → Prop}
    (hg : o.guard = none) (m x : Operand) (t e : TypeId) (hop : o.op = Op.lookup t m x false) (ht : Tryz.prog.underlying t = some (.map 5 e)) (z : Value) (hz : (zeroValue e).run Tryz.prog w = .ok z w)
    (b n r : Nat) (M : Nat → Option Value) (hM : MapV w b n M) (hm : a.eval m = .map (some b)) (hx : a.eval x = .int .u8 (r : Int)) (hr : r < 256)
    (hK : wpList Tryz.prog ops Q rest (a.put o.dst ((M r).getD z)) w) : wpList Tryz.prog ops Q (o :: rest) a w := by
  refine wpList_plain hg fun K' hK' => ?_
  have hrun := hM.run ht hz hr
  unfold Oper.wp
  simp [execOp, hop, hm, hx, hrun, Result.andThen]
  exact hK' _ _ hK
end Go.Proofs.YtohiidgdpecbdaaGreat

namespace Go.Proofs.YtohiidgdpecbdaaGreat.Clocks
open Go.RowKit Go.Proofs.YtohiidgdpecbdaaGreat.Spans
attribute [local go_sem ↓] Go.wp_at_zero Go.wp_at_succ
theorem holdO_apart {B H : Nat} {w w' : World} (ha : Apart B H w w') : ∀ {cs : List Value} {c : List Tm}, HoldO w H cs c → HoldO w' H cs c
  | [], [], _ => trivial
  | _ :: _ :: _, _ :: _, h => ⟨h.1, h.2.1, own_apart h.2.2.1 ha, holdO_apart ha h.2.2.2⟩
theorem ownC_apart {B H : Nat} {w w' : World} {v : Value} {c : List Tm} (h : OwnC w H v c) (ha : Apart B H w w') : OwnC w' H v c := by
  obtain ⟨cs, h1, h2⟩ := h
  exact ⟨cs, own_apart h1 ha, holdO_apart ha h2⟩
set_option maxRecDepth 100000 in
set_option maxHeartbeats 4000000 in
theorem told_any {gf : Nat} {lb : Array Value} (eg : ∀ args w, (callFunc gf args).run Tryz.prog w = .ok (.enter gf args) w) {B : Nat} {w : World} (g : Nat → List Sp) (St : Nat → World → Prop) (h0 : St 0 w) (hB : B ≤ w.heap.size)
    (hst : ∀ k W W', St k W → w.heap.size ≤ W.heap.size → Below w.heap.size W W' → St k W')
    (hcall : ∀ (k : Nat) (W : World), k < 8 → w.heap.size ≤ W.heap.size → St k W → Calls Tryz.prog gf (#[.int .u8 (k : Int)] ++ lb) W fun e w' => ∃ v', e = .returned (.tuple #[v', .int .i64 0]) ∧
      w'.ownsRow W.heap.size 130 2 v' (g k).length (sps (g k)) ∧ Apart B w.heap.size W w' ∧ St (k + 1) w') :
    Calls Tryz.prog 119 #[.func (.func gf) #[] lb] w fun e w' => ∃ v', e = .returned (.tuple #[v', .int .i64 0]) ∧ OwnC w' w.heap.size v' (clkFrom g 0 8) ∧ Below B w w' := by
  have H0 := Lib.hid h0
  have HST := Lib.hid hst
  have HCA := Lib.hid hcall
  clear h0 hst hcall
  have O0 : Hid (OwnC w w.heap.size (.slice none 0 0) (clkFrom g 0 0)) := OwnC.nil _ _
  have B0 := Lib.hid (Below.refl B w)
  go_enter Tryz.func119, Tryz.ntmps119
  go_wp2
  go_loopw [4, 8] (fun o i wr => ∃ k : Nat, k ≤ 8 ∧ i = .int .u8 (k : Int) ∧ Hid (OwnC wr w.heap.size o (clkFrom g 0 k)) ∧ Hid (St k wr) ∧ Hid (Below B w wr)) (fun _ i _ => 8 - (intOf i).toNat)
  case atStart => exact ⟨0, by omega, rfl, O0, H0, B0⟩
  case round =>
    clear O0 H0 B0
    obtain ⟨k, hk, rfl, hown, hs, hbel⟩ := hrel
    by_cases hk8 : k < 8
    · have q1 : decide ((k : Int) < 8) = true := decide_eq_true (by omega)
      have q2 : decide (k < 8) = true := decide_eq_true hk8
      have hsz := hbel.out.size
      have CA := Lib.hid (HCA.out k wr hk8 hsz hs.out)
      have hln := clkFrom_len g k 0
      have hsn := clkFrom_snoc g k 0
      rw [Nat.zero_add] at hsn
      have HSN : Hid (clkFrom g 0 (k + 1) = putC (clkFrom g 0 k) k (g k)) := hsn
      have e1 : IntKind.u8.wrap ((k : Int) + 1) = (k : Int) + 1 := by rw [IntKind.wrap_u8]; omega
      have HLN := Lib.hid hln
      clear hsn hln hs
      go_wp2_with fail
      refine CA.out.mono ?_
      rintro e w1 ⟨v1, rfl, o1, a1, s1⟩
      have hsz1 : w.heap.size ≤ w1.heap.size := Nat.le_trans hsz a1.1.size
      have OC := Lib.hid (ownC_apart hown.out a1)
      have O1 := Lib.hid (own_base o1 hsz)
      have B1 := Lib.hid (hbel.out.trans a1.1)
      have S1 := Lib.hid s1
      clear o1 a1 s1 CA hown
      obtain ⟨l, hl⟩ : ∃ l, l = g k := ⟨_, rfl⟩
      rw [← hl] at O1 HSN
      clear hl
      obtain ⟨c, hc⟩ : ∃ c, c = clkFrom g 0 k := ⟨_, rfl⟩
      rw [← hc] at OC HSN HLN
      clear hc
      obtain ⟨m, hm⟩ : ∃ m, m = l.length := ⟨_, rfl⟩
      have HM := Lib.hid hm
      rw [← hm] at O1
      obtain ⟨cs, hv1, hv2⟩ := OC.out
      obtain ⟨ao, cap, rfl⟩ := Sees.shape (Sees.own hv1)
      obtain ⟨so, sc, rfl⟩ := Sees.shape (Sees.own O1.out)
      obtain ⟨n, hn⟩ : ∃ n, n = c.length := ⟨_, rfl⟩
      have HN := Lib.hid hn
      rw [← hn] at hv1 HLN ⊢
      have hln : n ≤ 8 := by have := HLN.out; omega
      have HV1 := Lib.hid hv1
      have HV2 := Lib.hid hv2
      clear hv1 hv2 HLN
      by_cases hm0 : m = 0
      · have hl0 : l = [] := List.length_eq_zero_iff.1 (by omega)
        have e : putC c k l = c := by unfold putC; rw [if_pos hl0, List.append_nil]
        rw [e] at HSN
        have O2 : Hid (OwnC w1 w.heap.size (.slice ao n cap) (clkFrom g 0 (k + 1))) := by show OwnC _ _ _ _; rw [HSN.out]; exact ⟨cs, by rw [← HN.out]; exact HV1.out, HV2.out⟩
        have t1 : decide ((0 : Int) < (m : Int)) = false := decide_eq_false (by omega)
        have t2 : decide (0 < m) = false := decide_eq_false (by omega)
        clear hm hn e hl0 OC
        go_wp2
        go_roundw
        case rel => exact ⟨k + 1, by omega, by go_num, O2, S1, B1⟩
        case measure => simp [intOf]; omega
      · have hl0 : l ≠ [] := fun h => hm0 (by rw [hm, h]; rfl)
        have t1 : decide ((0 : Int) < (m : Int)) = true := decide_eq_true (by omega)
        have t2 : decide (0 < m) = true := decide_eq_true (by omega)
        have e : putC c k l = c ++ [(k, l)] := by unfold putC; rw [if_neg hl0]
        rw [e] at HSN
        have hlen : (c ++ [(k, l)]).length = n + 1 := by simp [hn]
        have HLEN := Lib.hid hlen
        have SE : Hid (Sees (w1.alloc (.cells #[.int .u8 (k : Int), .slice so m sc] 99)) (.slice (some ⟨w1.heap.size, 0, none⟩) 1 1) 2 1 [.int .u8 (k : Int), .slice so m sc]) := sees_new w1 [.int .u8 (k : Int), .slice so m sc] 2 1 rfl (by omega) _ _
        have BX := Lib.hid ((Below.refl w1.heap.size w1).alloc (Nat.le_refl _) (.cells #[.int .u8 (k : Int), .slice so m sc] 99))
        clear hm hn e hl0 hlen OC
        go_wp2_with (at_builtin; go_loud (refine wpList_append_sees rfl (.tmp 23) (.tmp 27) 56 99 rfl Tryz.underlying56 times_info rfl (by decide) w.heap.size _ n cs rfl (own_stays HV1.out BX.out) _ 1 _ rfl SE.out (by intro z hz; simp at hz; rcases hz with rfl | rfl <;> rfl) ?a1 ?a2 ?a3 ?_))
        case a1 => omega
        case a2 => omega
        case a3 => exact Nat.le_trans hsz1 BX.out.size
        rintro v5 w5 o5 g5 b5
        have OW : Hid (OwnC w5 w.heap.size v5 (clkFrom g 0 (k + 1))) := by
          show OwnC _ _ _ _
          rw [HSN.out]
          have hx := own_stays HV1.out BX.out
          refine ⟨cs ++ [.int .u8 (k : Int), .slice so m sc], by rw [HLEN.out]; exact o5, HoldO.append (hold_grown (HV2.out.keeps BX.out) g5 (times_row hx)) ⟨rfl, by show k < 256; omega, ?_, trivial⟩⟩
          have := own_kept_span (own_stays O1.out BX.out) hx g5
          rw [HM.out] at this
          rw [HM.out]
          exact this
        have BH : Below w.heap.size w1 w5 := (BX.out.mono hsz1).trans b5
        have BB := Lib.hid (B1.out.trans (BH.mono hB))
        have SS := Lib.hid (HST.out _ _ _ S1.out hsz1 BH)
        obtain ⟨a5, c5, rfl⟩ : ∃ ao cap, v5 = .slice ao (n + 1) cap := Sees.shape (Sees.own o5)
        clear o5 g5 b5 SE BX BH
        go_wp2
        go_roundw
        case rel => exact ⟨k + 1, by omega, by go_num, OW, SS, BB⟩
        case measure => simp [intOf]; omega
    · have q1 : decide ((k : Int) < 8) = false := decide_eq_false (by omega)
      have q2 : decide (k < 8) = false := decide_eq_false hk8
      obtain rfl : k = 8 := by omega
      go_wp2
      go_ret2
      exact ⟨_, rfl, hown.out, hbel.out⟩
end Go.Proofs.YtohiidgdpecbdaaGreat.Clocks

namespace Go.Proofs.YtohiidgdpecbdaaGreat.Srt
/-- Between a and b the same ones in whatever order; elsewhere nothing has turned. -/
structure Sw (a b : Nat) (xs ys : List Nat) : Prop where
  len : ys.length = xs.length
  out : ∀ i, i < a ∨ b ≤ i → ys.getD i 0 = xs.getD i 0
  tto : ∀ i, a ≤ i → i < b → ∃ j, a ≤ j ∧ j < b ∧ ys.getD i 0 = xs.getD j 0
  fro : ∀ j, a ≤ j → j < b → ∃ i, a ≤ i ∧ i < b ∧ xs.getD j 0 = ys.getD i 0
theorem Sw.refl (a b : Nat) (xs : List Nat) : Sw a b xs xs := ⟨rfl, fun _ _ => rfl, fun i h1 h2 => ⟨i, h1, h2, rfl⟩, fun j h1 h2 => ⟨j, h1, h2, rfl⟩⟩
theorem Sw.trans {a b : Nat} {xs ys zs : List Nat} (h : Sw a b xs ys) (k : Sw a b ys zs) : Sw a b xs zs := by
  refine ⟨k.len.trans h.len, fun i hi => (k.out i hi).trans (h.out i hi), fun i h1 h2 => ?_, fun j h1 h2 => ?_⟩
  · obtain ⟨p, p1, p2, p3⟩ := k.tto i h1 h2
    obtain ⟨q, q1, q2, q3⟩ := h.tto p p1 p2
    exact ⟨q, q1, q2, p3.trans q3⟩
  · obtain ⟨p, p1, p2, p3⟩ := h.fro j h1 h2
    obtain ⟨q, q1, q2, q3⟩ := k.fro p p1 p2
    exact ⟨q, q1, q2, p3.trans q3⟩
theorem Sw.mono {a b a' b' : Nat} {xs ys : List Nat} (h : Sw a b xs ys) (ha : a' ≤ a) (hb : b ≤ b') : Sw a' b' xs ys := by
  refine ⟨h.len, fun i hi => h.out i (by omega), fun i h1 h2 => ?_, fun j h1 h2 => ?_⟩
  · by_cases hi : a ≤ i ∧ i < b
    · obtain ⟨j, j1, j2, j3⟩ := h.tto i hi.1 hi.2
      exact ⟨j, by omega, by omega, j3⟩
    · exact ⟨i, h1, h2, h.out i (by omega)⟩
  · by_cases hj : a ≤ j ∧ j < b
    · obtain ⟨i, i1, i2, i3⟩ := h.fro j hj.1 hj.2
      exact ⟨i, by omega, by omega, i3⟩
    · exact ⟨j, h1, h2, (h.out j (by omega)).symm⟩
theorem Sw.all {a b : Nat} {xs ys : List Nat} (h : Sw a b xs ys) {P : Nat → Prop} (hp : ∀ i, a ≤ i → i < b → P (xs.getD i 0)) : ∀ i, a ≤ i → i < b → P (ys.getD i 0) := fun i h1 h2 => by
  obtain ⟨j, j1, j2, j3⟩ := h.tto i h1 h2
  rw [j3]
  exact hp j j1 j2
theorem getD_mem {xs : List Nat} {i : Nat} (h : i < xs.length) : xs.getD i 0 ∈ xs := by
  rw [List.getD, List.getElem?_eq_getElem h]
  exact List.getElem_mem _
theorem mem_getD {xs : List Nat} {v : Nat} (h : v ∈ xs) : ∃ i, i < xs.length ∧ xs.getD i 0 = v := by
  obtain ⟨i, hi, e⟩ := List.mem_iff_getElem.1 h
  exact ⟨i, hi, by rw [List.getD, List.getElem?_eq_getElem hi]; exact e⟩
theorem Sw.mem {xs ys : List Nat} (h : Sw 0 xs.length xs ys) (v : Nat) : v ∈ ys ↔ v ∈ xs := by
  constructor
  · intro hv
    obtain ⟨i, hi, rfl⟩ := mem_getD hv
    obtain ⟨j, _, j2, j3⟩ := h.tto i (by omega) (by rw [← h.len]; exact hi)
    rw [j3]
    exact getD_mem j2
  · intro hv
    obtain ⟨i, hi, rfl⟩ := mem_getD hv
    obtain ⟨j, _, j2, j3⟩ := h.fro i (by omega) hi
    rw [j3]
    exact getD_mem (by rw [h.len]; exact j2)
/-- Two exchanged: the value of j at i, then that of i at j. -/
def ex (xs : List Nat) (i j : Nat) : List Nat := (xs.set i (xs.getD j 0)).set j (xs.getD i 0)
theorem ex_len (xs : List Nat) (i j : Nat) : (ex xs i j).length = xs.length := by simp [ex]
theorem ex_get {xs : List Nat} {i j : Nat} (hi : i < xs.length) (hj : j < xs.length) (k : Nat) : (ex xs i j).getD k 0 = if k = j then xs.getD i 0 else if k = i then xs.getD j 0 else xs.getD k 0 := by
  unfold ex
  by_cases h1 : k = j
  · subst h1
    rw [if_pos rfl]
    simp only [List.getD, List.getElem?_set, List.length_set]
    simp [hj]
  · rw [if_neg h1]
    by_cases h2 : k = i
    · subst h2
      rw [if_pos rfl]
      simp only [List.getD, List.getElem?_set, List.length_set]
      simp [hi, show ¬ j = k from fun e => h1 e.symm]
    · rw [if_neg h2]
      simp only [List.getD, List.getElem?_set, List.length_set]
      simp [show ¬ j = k from fun e => h1 e.symm, show ¬ i = k from fun e => h2 e.symm]
theorem Sw.ex {a b i j : Nat} {xs : List Nat} (h1 : a ≤ i) (h2 : i < b) (h3 : a ≤ j) (h4 : j < b) (hb : b ≤ xs.length) : Sw a b xs (ex xs i j) := by
  have g := ex_get (xs := xs) (i := i) (j := j) (by omega) (by omega)
  refine ⟨ex_len _ _ _, fun k hk => ?_, fun k k1 k2 => ?_, fun k k1 k2 => ?_⟩
  · rw [g, if_neg (by omega), if_neg (by omega)]
  · by_cases e : k = j
    · exact ⟨i, h1, h2, by rw [g, if_pos e]⟩
    · by_cases e2 : k = i
      · exact ⟨j, h3, h4, by rw [g, if_neg e, if_pos e2]⟩
      · exact ⟨k, k1, k2, by rw [g, if_neg e, if_neg e2]⟩
  · by_cases e : k = i
    · exact ⟨j, h3, h4, by rw [g, if_pos rfl, e]⟩
    · by_cases e2 : k = j
      · refine ⟨i, h1, h2, ?_⟩
        rw [g]
        by_cases e3 : i = j
        · rw [if_pos e3, e2, e3]
        · rw [if_neg e3, if_pos rfl, e2]
      · exact ⟨k, k1, k2, by rw [g, if_neg e2, if_neg e]⟩
/-- In order between a and b. -/
def Inc (a b : Nat) (xs : List Nat) : Prop := ∀ i j, a ≤ i → i ≤ j → j < b → xs.getD i 0 ≤ xs.getD j 0
theorem inc_one {a b : Nat} {xs : List Nat} (h : b ≤ a + 1) : Inc a b xs := fun i j h1 h2 h3 => by
  obtain rfl : i = j := by omega
  exact Nat.le_refl _
theorem inc_succ {a i : Nat} {xs : List Nat} (h : Inc a i xs) (hn : a < i → xs.getD (i - 1) 0 ≤ xs.getD i 0) : Inc a (i + 1) xs := fun p q h1 h2 h3 => by
  by_cases hq : q < i
  · exact h p q h1 h2 hq
  · obtain rfl : q = i := by omega
    by_cases hp : p = q
    · subst hp; exact Nat.le_refl _
    · exact Nat.le_trans (h p (q - 1) h1 (by omega) (by omega)) (hn (by omega))
theorem inc_same {a b : Nat} {xs ys : List Nat} (h : Inc a b xs) (e : ∀ i, a ≤ i → i < b → ys.getD i 0 = xs.getD i 0) : Inc a b ys := fun i j h1 h2 h3 => by
  rw [e i h1 (by omega), e j (by omega) h3]
  exact h i j h1 h2 h3
/-- Up to i in order, but for the one at j, which may be too small for its place. -/
def Ins (a j i : Nat) (xs : List Nat) : Prop := ∀ p q, a ≤ p → p < q → q ≤ i → q ≠ j → xs.getD p 0 ≤ xs.getD q 0
theorem ins_start {a i : Nat} {xs : List Nat} (h : Inc a i xs) : Ins a i i xs := fun p q h1 h2 h3 h4 => h p q h1 (by omega) (by omega)
theorem ins_step {a j i : Nat} {xs : List Nat} (h : Ins a j i xs) (h1 : a < j) (h2 : j ≤ i) (hi : i < xs.length) (hl : xs.getD j 0 < xs.getD (j - 1) 0) : Ins a (j - 1) i (ex xs j (j - 1)) := fun p q p1 p2 p3 p4 => by
  have g := ex_get (xs := xs) (i := j) (j := j - 1) (by omega) (by omega)
  rw [g p, g q, if_neg p4]
  by_cases hq : q = j
  · rw [if_pos hq]
    by_cases hp : p = j - 1
    · rw [if_pos hp]; omega
    · rw [if_neg hp, if_neg (by omega)]
      exact h p (j - 1) p1 (by omega) (by omega) (by omega)
  · rw [if_neg hq]
    by_cases hp : p = j - 1
    · rw [if_pos hp]
      exact h j q (by omega) (by omega) p3 hq
    · rw [if_neg hp]
      by_cases hp2 : p = j
      · rw [if_pos hp2]
        exact h (j - 1) q (by omega) (by omega) p3 hq
      · rw [if_neg hp2]
        exact h p q p1 p2 p3 hq
theorem ins_end {a j i : Nat} {xs : List Nat} (h : Ins a j i xs) (h1 : a ≤ j) (h2 : j ≤ i) (hl : a < j → xs.getD (j - 1) 0 ≤ xs.getD j 0) : Inc a (i + 1) xs := fun p q p1 p2 p3 => by
  by_cases e : p = q
  · subst e; exact Nat.le_refl _
  · by_cases hq : q = j
    · subst hq
      by_cases hp : p = q - 1
      · subst hp; exact hl (by omega)
      · exact Nat.le_trans (h p (q - 1) p1 (by omega) (by omega) (by omega)) (hl (by omega))
    · exact h p q p1 (by omega) (by omega) hq
/-- From lo on each is at least as great as its children, ahead of hi. -/
def Hp (f lo hi : Nat) (xs : List Nat) : Prop := ∀ i c, lo ≤ i → (c = 2 * i + 1 ∨ c = 2 * i + 2) → c < hi → xs.getD (f + c) 0 ≤ xs.getD (f + i) 0
/-- The same, but for r, whose children are no greater than its parent. -/
def Hr (f lo hi r : Nat) (xs : List Nat) : Prop := (∀ i c, lo ≤ i → i ≠ r → (c = 2 * i + 1 ∨ c = 2 * i + 2) → c < hi → xs.getD (f + c) 0 ≤ xs.getD (f + i) 0) ∧
  ∀ i c, lo ≤ i → (r = 2 * i + 1 ∨ r = 2 * i + 2) → (c = 2 * r + 1 ∨ c = 2 * r + 2) → c < hi → xs.getD (f + c) 0 ≤ xs.getD (f + i) 0
theorem hr_start {f lo hi : Nat} {xs : List Nat} (h : Hp f (lo + 1) hi xs) : Hr f lo hi lo xs :=
  ⟨fun i c h1 h2 h3 h4 => h i c (by omega) h3 h4, fun i c h1 h2 _ _ => by omega⟩
theorem hr_end {f lo hi r : Nat} {xs : List Nat} (h : Hr f lo hi r xs) (hl : ∀ c, (c = 2 * r + 1 ∨ c = 2 * r + 2) → c < hi → xs.getD (f + c) 0 ≤ xs.getD (f + r) 0) : Hp f lo hi xs := fun i c h1 h2 h3 => by
  by_cases e : i = r
  · subst e; exact hl c h2 h3
  · exact h.1 i c h1 e h2 h3
theorem hr_step {f lo hi r c : Nat} {xs : List Nat} (h : Hr f lo hi r xs) (hlo : lo ≤ r) (hc : c = 2 * r + 1 ∨ c = 2 * r + 2) (hch : c < hi) (hn : f + hi ≤ xs.length) (hl : xs.getD (f + r) 0 < xs.getD (f + c) 0)
    (hm : ∀ d, (d = 2 * r + 1 ∨ d = 2 * r + 2) → d < hi → xs.getD (f + d) 0 ≤ xs.getD (f + c) 0) : Hr f lo hi c (ex xs (f + r) (f + c)) := by
  have g := ex_get (xs := xs) (i := f + r) (j := f + c) (by omega) (by omega)
  have gr : (ex xs (f + r) (f + c)).getD (f + r) 0 = xs.getD (f + c) 0 := by rw [g, if_neg (by omega), if_pos rfl]
  have gc : (ex xs (f + r) (f + c)).getD (f + c) 0 = xs.getD (f + r) 0 := by rw [g, if_pos rfl]
  have go : ∀ k, k ≠ r → k ≠ c → (ex xs (f + r) (f + c)).getD (f + k) 0 = xs.getD (f + k) 0 := fun k k1 k2 => by rw [g, if_neg (by omega), if_neg (by omega)]
  refine ⟨fun i d h1 h2 h3 h4 => ?_, fun i d h1 h2 h3 h4 => ?_⟩
  · by_cases e : i = r
    · subst e
      rw [gr]
      by_cases e2 : d = c
      · subst e2; rw [gc]; omega
      · rw [go d (by omega) e2]
        exact hm d h3 h4
    · rw [go i e h2]
      by_cases e2 : d = r
      · subst e2
        rw [gr]
        exact h.2 i c h1 h3 hc hch
      · by_cases e3 : d = c
        · omega
        · rw [go d e2 e3]
          exact h.1 i d h1 e h3 h4
  · obtain rfl : i = r := by omega
    rw [gr, go d (by omega) (by omega)]
    exact h.1 c d (by omega) (by omega) h3 h4
theorem hp_top {f hi : Nat} {xs : List Nat} (h : Hp f 0 hi xs) : ∀ k i, i ≤ k → i < hi → xs.getD (f + i) 0 ≤ xs.getD f 0
  | 0, i, h1, _ => by
    obtain rfl : i = 0 := by omega
    exact Nat.le_refl _
  | k + 1, i, h1, h2 => by
    by_cases h0 : i = 0
    · subst h0; exact Nat.le_refl _
    · have h3 := h ((i - 1) / 2) i (by omega) (by omega) h2
      have h4 := hp_top h k ((i - 1) / 2) (by omega) (by omega)
      omega
/-- The ones from f to f + i are a heap, those behind in order, and no less than these. -/
def Tail (f i hi : Nat) (xs : List Nat) : Prop := Inc (f + i) (f + hi) xs ∧ ∀ p q, p < i → i ≤ q → q < hi → xs.getD (f + p) 0 ≤ xs.getD (f + q) 0
theorem tail_start (f hi : Nat) (xs : List Nat) : Tail f hi hi xs := ⟨inc_one (by omega), fun p q h1 h2 h3 => by omega⟩
theorem tail_step {f i hi : Nat} {xs ys : List Nat} (h : Tail f (i + 1) hi xs) (hh : Hp f 0 (i + 1) xs) (hi' : i < hi) (hn : f + hi ≤ xs.length) (hs : Sw f (f + i) (ex xs f (f + i)) ys) : Tail f i hi ys := by
  have g := ex_get (xs := xs) (i := f) (j := f + i) (by omega) (by omega)
  have yi : ∀ q, i ≤ q → ys.getD (f + q) 0 = (ex xs f (f + i)).getD (f + q) 0 := fun q hq => hs.out _ (.inr (by omega))
  have xi : (ex xs f (f + i)).getD (f + i) 0 = xs.getD f 0 := by rw [g, if_pos rfl]
  have xq : ∀ q, i < q → (ex xs f (f + i)).getD (f + q) 0 = xs.getD (f + q) 0 := fun q hq => by rw [g, if_neg (by omega), if_neg (by omega)]
  have xp : ∀ p, f ≤ p → p < f + i → (ex xs f (f + i)).getD p 0 ≤ xs.getD f 0 ∧ ∀ q, i < q → q < hi → (ex xs f (f + i)).getD p 0 ≤ xs.getD (f + q) 0 := fun p p1 p2 => by
    rw [g, if_neg (by omega)]
    by_cases e : p = f
    · rw [if_pos e]
      exact ⟨hp_top hh i i (by omega) (by omega), fun q q1 q2 => h.2 i q (by omega) (by omega) q2⟩
    · rw [if_neg e]
      obtain ⟨k, rfl⟩ : ∃ k, p = f + k := ⟨p - f, by omega⟩
      exact ⟨hp_top hh k k (by omega) (by omega), fun q q1 q2 => h.2 k q (by omega) (by omega) q2⟩
  have yp := hs.all (P := fun v => v ≤ xs.getD f 0 ∧ ∀ q, i < q → q < hi → v ≤ xs.getD (f + q) 0) xp
  refine ⟨fun p q h1 h2 h3 => ?_, fun p q h1 h2 h3 => ?_⟩
  · obtain ⟨k, rfl⟩ : ∃ k, p = f + k := ⟨p - f, by omega⟩
    obtain ⟨m, rfl⟩ : ∃ m, q = f + m := ⟨q - f, by omega⟩
    rw [yi k (by omega), yi m (by omega)]
    by_cases e : k = i
    · subst e
      rw [xi]
      by_cases e2 : m = k
      · subst e2; rw [xi]; exact Nat.le_refl _
      · rw [xq m (by omega)]
        have := h.2 0 m (by omega) (by omega) (by omega)
        simpa using this
    · rw [xq k (by omega), xq m (by omega)]
      exact h.1 _ _ (by omega) (by omega) (by omega)
  · have := yp (f + p) (by omega) (by omega)
    rw [yi q h2]
    by_cases e : q = i
    · subst e; rw [xi]; exact this.1
    · rw [xq q (by omega)]; exact this.2 q (by omega) h3
theorem hp_swap {f i : Nat} {xs : List Nat} (hh : Hp f 0 (i + 1) xs) (hn : f + i < xs.length) : Hp f 1 i (ex xs f (f + i)) := fun p c h1 h2 h3 => by
  have g := ex_get (xs := xs) (i := f) (j := f + i) (by omega) (by omega)
  rw [g, g, if_neg (by omega), if_neg (by omega), if_neg (by omega), if_neg (by omega)]
  exact hh p c (by omega) h2 (by omega)
end Go.Proofs.YtohiidgdpecbdaaGreat.Srt

namespace Go.Proofs.YtohiidgdpecbdaaGreat.Srt
open Go.RowKit
def us (xs : List Nat) : List Value := xs.map fun (x : Nat) => .int .u32 (x : Int)
theorem us_len (xs : List Nat) : (us xs).length = xs.length := by simp [us]
theorem us_get (xs : List Nat) (j : Nat) (h : j < xs.length) : (us xs)[j]? = some (.int .u32 ((xs.getD j 0 : Nat) : Int)) := by
  simp [us, List.getD, List.getElem?_eq_getElem h]
theorem us_set (xs : List Nat) (k v : Nat) : us (xs.set k v) = (us xs).set k (.int .u32 (v : Int)) := by simp [us, List.map_set]
theorem us_append (xs ys : List Nat) : us (xs ++ ys) = us xs ++ us ys := by simp [us]
/-- The row. -/
def Row (w : World) (B g n cap : Nat) (xs : List Nat) : Prop := w.ownsRow B 23 1 (.slice (some ⟨g, 0, none⟩) n cap) n (us xs)
theorem Row.len {w : World} {B g n cap : Nat} {xs : List Nat} (h : Row w B g n cap xs) : xs.length = n := by
  have := h.1
  rw [us_len] at this
  omega
theorem Row.cell {w : World} {B g n cap : Nat} {xs : List Nat} (h : Row w B g n cap xs) (k : Nat) (hk : k < n) : w.cell? ⟨g, k, none⟩ = some (.int .u32 ((xs.getD k 0 : Nat) : Int)) := by
  have := World.ownsRow.cellAt h k (by omega)
  rw [this]
  exact us_get xs k (by rw [h.len]; exact hk)
theorem Row.free {w : World} {B g n cap : Nat} {xs : List Nat} (h : Row w B g n cap xs) (k : Nat) : w.frozen? ⟨g, k, none⟩ = false := World.ownsRow.frozenAt h k
theorem Row.lt {w : World} {B g n cap : Nat} {xs : List Nat} (h : Row w B g n cap xs) : g < w.heap.size := (World.ownsRow.lt h g rfl).2
theorem Row.draw {w : World} {B g n cap : Nat} {xs : List Nat} (h : Row w B g n cap xs) (k : Nat) : Row (w.drewN k) B g n cap xs := h
theorem Row.keeps {w w' : World} {B g n cap : Nat} {xs : List Nat} (h : Row w B g n cap xs) (hb : Below w.heap.size w w') : Row w' B g n cap xs := own_stays h hb
theorem Row.other {w w' : World} {B g h n cap : Nat} {xs : List Nat} (hr : Row w B g n cap xs) (hg : w.grownBy w' (some h)) (hne : g ≠ h) : Row w' B g n cap xs :=
  World.ownsRow.kept hr hg (.inr (fun e => hne (by simpa [Value.ownBlock] using e)))
theorem grown_tr {a b c : World} {row : Option Nat} (h : a.grownBy b row) (k : b.grownBy c row) : a.grownBy c row :=
  ⟨k.os.trans h.os, k.tape.trans h.tape, k.output.trans h.output, Nat.le_trans h.size k.size, fun i hi hr => (k.block i (Nat.lt_of_lt_of_le hi h.size) hr).trans (h.block i hi hr)⟩
theorem grown_draw {a b : World} {row : Option Nat} (h : a.grownBy b row) (k : Nat) : a.grownBy (b.drewN k) row := ⟨h.os, h.tape, h.output, h.size, h.block⟩
theorem grown_of {w w' : World} (h : Below w.heap.size w w') (row : Option Nat) : w.grownBy w' row := ⟨h.os, h.tape, h.output, h.size, fun i hi _ => h.block i hi⟩
/-- Behind the first store of an exchange the other place still holds what it held, or what was just laid there, which is the same. -/
theorem Row.sec {w : World} {B g n cap : Nat} {xs : List Nat} (h : Row w B g n cap xs) (i j : Nat) (hi : i < n) (hj : j < n) :
    (w.setCell ⟨g, i, none⟩ (.int .u32 ((xs.getD j 0 : Nat) : Int))).cell? ⟨g, j, none⟩ = some (.int .u32 ((xs.getD j 0 : Nat) : Int)) ∧ (w.setCell ⟨g, i, none⟩ (.int .u32 ((xs.getD j 0 : Nat) : Int))).frozen? ⟨g, j, none⟩ = false := by
  have h1 : Row (w.setCell ⟨g, i, none⟩ (.int .u32 ((xs.getD j 0 : Nat) : Int))) B g n cap (xs.set i (xs.getD j 0)) := by
    have h2 := (World.ownsRow.stored h i (.int .u32 ((xs.getD j 0 : Nat) : Int))).1
    rw [← us_set] at h2
    exact h2
  refine ⟨?_, h1.free j⟩
  rw [h1.cell j hj]
  have hl := h.len
  simp only [List.getD, List.getElem?_set]
  by_cases e : i = j
  · subst e
    simp [hl, hi]
  · rw [if_neg e]
/-- Two exchanged. -/
theorem Row.ex {w : World} {B g n cap : Nat} {xs : List Nat} (h : Row w B g n cap xs) (i j : Nat) :
    Row ((w.setCell ⟨g, i, none⟩ (.int .u32 ((xs.getD j 0 : Nat) : Int))).setCell ⟨g, j, none⟩ (.int .u32 ((xs.getD i 0 : Nat) : Int))) B g n cap (ex xs i j) ∧
      w.grownBy ((w.setCell ⟨g, i, none⟩ (.int .u32 ((xs.getD j 0 : Nat) : Int))).setCell ⟨g, j, none⟩ (.int .u32 ((xs.getD i 0 : Nat) : Int))) (some g) := by
  have h1 := World.ownsRow.stored h i (.int .u32 ((xs.getD j 0 : Nat) : Int))
  have h2 := World.ownsRow.stored h1.1 j (.int .u32 ((xs.getD i 0 : Nat) : Int))
  refine ⟨?_, grown_tr h1.2 h2.2⟩
  show World.ownsRow _ _ _ _ _ _ _
  unfold Srt.ex
  rw [us_set, us_set]
  exact h2.1
theorem nan_no (x : Nat) (w : World) : Calls Tryz.prog 171 #[.int .u32 (x : Int)] w fun e w' => e = .returned (.bool false) ∧ w' = w := by
  go_enter Tryz.func171, Tryz.ntmps171
  go_wp2
  go_ret
  exact ⟨by simp, rfl⟩
theorem less_any (x y : Nat) (w : World) : Calls Tryz.prog 157 #[.int .u32 (x : Int), .int .u32 (y : Int)] w fun e w' => e = .returned (.bool (decide (x < y))) ∧ w' = w := by
  have N := Lib.hid (nan_no x)
  by_cases h : x < y
  · have t1 : decide ((x : Int) < (y : Int)) = true := decide_eq_true (by omega)
    have t2 : decide (x < y) = true := decide_eq_true h
    rw [t2]
    go_enter Tryz.func157, Tryz.ntmps157
    go_wp2_with fail
    refine (N.out _).mono ?_
    rintro e w1 ⟨rfl, rfl⟩
    go_wp2
    go_ret
    exact ⟨rfl, rfl⟩
  · have t1 : decide ((x : Int) < (y : Int)) = false := decide_eq_false (by omega)
    have t2 : decide (x < y) = false := decide_eq_false h
    rw [t2]
    go_enter Tryz.func157, Tryz.ntmps157
    go_wp2_with fail
    refine (N.out _).mono ?_
    rintro e w1 ⟨rfl, rfl⟩
    go_wp2
    go_ret
    exact ⟨rfl, rfl⟩
theorem less_is {x y : Nat} {b : Bool} (h : decide (x < y) = b) (w : World) : Calls Tryz.prog 157 #[.int .u32 (x : Int), .int .u32 (y : Int)] w fun e w' => e = .returned (.bool b) ∧ w' = w := by
  rw [← h]; exact less_any x y w
end Go.Proofs.YtohiidgdpecbdaaGreat.Srt

namespace Go.Proofs.YtohiidgdpecbdaaGreat.Srt
open Go.RowKit
attribute [local go_sem ↓] Go.wp_at_zero Go.wp_at_succ
set_option maxRecDepth 100000 in
set_option maxHeartbeats 4000000 in
theorem insertion_any {B g n cap a b : Nat} {xs : List Nat} {w : World} (hr : Row w B g n cap xs) (hab : a ≤ b) (hb : b ≤ n) (hn : n ≤ 1000000) :
    Calls Tryz.prog 151 #[.slice (some ⟨g, 0, none⟩) n cap, .int .i64 (a : Int), .int .i64 (b : Int)] w fun e w' => e = .returned (.tuple #[]) ∧
      ∃ ys, Row w' B g n cap ys ∧ w.grownBy w' (some g) ∧ Sw a b xs ys ∧ Inc a b ys := by
  have HR := Lib.hid hr
  have G0 := Lib.hid (World.grownBy.refl w (some g))
  have S0 := Lib.hid (Sw.refl a b xs)
  have I0 := Lib.hid (inc_one (a := a) (b := a + 1) (xs := xs) (Nat.le_refl _))
  have e0 : IntKind.i64.wrap ((a : Int) + 1) = (a : Int) + 1 := IntWalk.i64_in _ (by omega)
  clear hr
  go_enter Tryz.func151, Tryz.ntmps151
  go_wp2
  go_loopw [6] (fun i wr => ∃ (k : Nat) (ys : List Nat), a + 1 ≤ k ∧ (k ≤ b ∨ k = a + 1) ∧ i = .int .i64 (k : Int) ∧ Hid (Row wr B g n cap ys) ∧ Hid (w.grownBy wr (some g)) ∧ Hid (Sw a b xs ys) ∧ Hid (Inc a k ys)) (fun i _ => b - (intOf i).toNat)
  case atStart => exact ⟨a + 1, xs, by omega, .inr rfl, by go_num, HR, G0, S0, I0⟩
  case round =>
    clear HR G0 S0 I0 e0
    obtain ⟨k, ys, hk1, hk2, rfl, hR, hG, hS, hI⟩ := hrel
    by_cases hkb : k < b
    · have q1 : decide (k < b) = true := decide_eq_true hkb
      have q2 : decide ((k : Int) < (b : Int)) = true := decide_eq_true (by omega)
      have N0 := Lib.hid (ins_start hI.out)
      have ek : IntKind.i64.wrap ((k : Int) + 1) = (k : Int) + 1 := IntWalk.i64_in _ (by omega)
      clear hI
      go_wp2
      go_loopw [7] (fun j wr => ∃ (m : Nat) (ys : List Nat), a ≤ m ∧ m ≤ k ∧ j = .int .i64 (m : Int) ∧ Hid (Row wr B g n cap ys) ∧ Hid (w.grownBy wr (some g)) ∧ Hid (Sw a b xs ys) ∧ Hid (Ins a m k ys)) (fun j _ => (intOf j).toNat)
      case atStart => exact ⟨k, ys, by omega, by omega, rfl, hR, hG, hS, N0⟩
      case round =>
        clear hR hG hS N0
        obtain ⟨m, ys, hm1, hm2, rfl, hR, hG, hS, hN⟩ := hrel
        obtain ⟨wo, rfl⟩ : ∃ wo : World, wo = wr := ⟨_, rfl⟩
        by_cases ham : a < m
        · have p1 : decide (a < m) = true := decide_eq_true ham
          have p2 : decide ((a : Int) < (m : Int)) = true := decide_eq_true (by omega)
          obtain ⟨j, hj⟩ : ∃ j, j = m - 1 := ⟨_, rfl⟩
          have i1 : (m : Int) - 1 = (j : Int) := by omega
          have i2 : IntKind.i64.wrap (j : Int) = (j : Int) := IntWalk.i64_in _ (by omega)
          have i3 : (0 : Int) ≤ (j : Int) := by omega
          have i4 : (j : Int) < (n : Int) := by omega
          have i5 : (0 : Int) ≤ (m : Int) := by omega
          have i6 : (m : Int) < (n : Int) := by omega
          obtain ⟨x, hx⟩ : ∃ x, x = ys.getD m 0 := ⟨_, rfl⟩
          obtain ⟨y, hy⟩ : ∃ y, y = ys.getD j 0 := ⟨_, rfl⟩
          have c1 := hR.out.cell m (by omega)
          have c2 := hR.out.cell j (by omega)
          have f1 := hR.out.free m
          have f2 := hR.out.free j
          rw [← hx] at c1
          rw [← hy] at c2
          obtain ⟨q, hq⟩ : ∃ q, decide (x < y) = q := ⟨_, rfl⟩
          have LS := Lib.hid (less_is hq)
          have HX := Lib.hid hx
          have HY := Lib.hid hy
          have HJ := Lib.hid hj
          have HQ := Lib.hid hq
          clear hx hy hj hq
          cases q
          · have HI : Hid (Inc a (k + 1) ys) := ins_end hN.out hm1 hm2 (fun _ => by
              have h := of_decide_eq_false HQ.out
              rw [HX.out, HY.out, HJ.out] at h
              omega)
            clear hN
            go_wp2
            go_quiet ((go_at_call 157; refine Calls.quiet_of_same (LS.out _)))
            go_wp2
            go_roundw
            case rel => exact ⟨k + 1, ys, by omega, by omega, by go_num, hR.out.draw _, grown_draw hG.out _, hS, HI⟩
            case measure => simp [intOf]; omega
          · have hlt := of_decide_eq_true HQ.out
            have hlen := hR.out.len
            have HS2 : Hid (Sw a b xs (ex ys m j)) := hS.out.trans (Sw.ex (by omega) (by omega) (by omega) (by omega) (by omega))
            have HN2 : Hid (Ins a j k (ex ys m j)) := by
              have h := ins_step hN.out ham hm2 (by omega) (by rw [← HX.out, show m - 1 = j by omega, ← HY.out]; exact hlt)
              rw [show m - 1 = j by omega] at h
              exact h
            have HE : Hid (∀ N, Row (((wo.drewN N).setCell ⟨g, m, none⟩ (.int .u32 (y : Int))).setCell ⟨g, j, none⟩ (.int .u32 (x : Int))) B g n cap (ex ys m j) ∧ w.grownBy (((wo.drewN N).setCell ⟨g, m, none⟩ (.int .u32 (y : Int))).setCell ⟨g, j, none⟩ (.int .u32 (x : Int))) (some g)) := fun N => by
              have h := (hR.out.draw N).ex m j
              rw [← HX.out, ← HY.out] at h
              exact ⟨h.1, grown_tr (grown_draw hG.out N) h.2⟩
            clear hN
            go_wp2
            go_quiet ((go_at_call 157; refine Calls.quiet_of_same (LS.out _)))
            go_wp2
            go_region
            go_wp2
            go_roundw
            case rel => exact ⟨j, ex ys m j, by omega, by omega, by go_num, Lib.hid (HE.out _).1, Lib.hid (HE.out _).2, HS2, HN2⟩
            case measure => simp [intOf]; omega
        · obtain rfl : a = m := by omega
          have p1 : decide (a < a) = false := decide_eq_false (by omega)
          have p2 : decide ((a : Int) < (a : Int)) = false := decide_eq_false (by omega)
          have HI : Hid (Inc a (k + 1) ys) := ins_end hN.out hm1 hm2 (fun h => by omega)
          clear hN
          go_wp2
          go_quiet (fail)
          go_wp2
          go_roundw
          case rel => exact ⟨k + 1, ys, by omega, by omega, by go_num, hR.out.draw _, grown_draw hG.out _, hS, HI⟩
          case measure => simp [intOf]; omega
    · have q1 : decide (k < b) = false := decide_eq_false hkb
      have q2 : decide ((k : Int) < (b : Int)) = false := decide_eq_false (by omega)
      have HI : Hid (Inc a b ys) := by
        rcases hk2 with h | h
        · obtain rfl : k = b := by omega
          exact hI.out
        · exact inc_one (by omega)
      clear hI
      go_wp2
      go_end0
      exact ⟨rfl, ys, hR.out, hG.out, hS.out, HI.out⟩
end Go.Proofs.YtohiidgdpecbdaaGreat.Srt

namespace Go.Proofs.YtohiidgdpecbdaaGreat.Srt
open Go.RowKit
attribute [local go_sem ↓] Go.wp_at_zero Go.wp_at_succ
set_option maxRecDepth 100000 in
theorem len8_low (x : Nat) (h : x < 256) : ∃ k : Nat, Lib.len8 (x : Int) = (k : Int) ∧ Dig x k := by
  have all : ∀ x : Fin 256, Lib.len8 (x.val : Int) = ((Lib.len8 (x.val : Int)).toNat : Int) ∧ Dig x.val (Lib.len8 (x.val : Int)).toNat := by decide +kernel
  exact ⟨_, all ⟨x, h⟩⟩
set_option maxRecDepth 100000 in
theorem len8_high (x : Nat) (hx : x ≤ 1024) (h0 : 256 ≤ x) : ∃ k : Nat, Lib.len8 ((x : Int) / 256) = (k : Int) ∧ Dig x (8 + k) := by
  have all : ∀ x : Fin 1025, 256 ≤ x.val → Lib.len8 ((x.val : Int) / 256) = ((Lib.len8 ((x.val : Int) / 256)).toNat : Int) ∧ Dig x.val (8 + (Lib.len8 ((x.val : Int) / 256)).toNat) := by
    clear h0 hx x
    decide +kernel
  exact ⟨_, all ⟨x, by omega⟩ h0⟩
theorem w64 (k : Nat) (h : k ≤ 11) : wrap64 (wrap64 (k : Int)) = (k : Int) := by
  unfold wrap64
  omega
theorem w64h (k : Nat) (h : 8 + k ≤ 11) : wrap64 (8 + wrap64 (k : Int)) = ((8 + k : Nat) : Int) := by
  unfold wrap64
  omega
set_option maxRecDepth 100000 in
theorem len64_any (x : Nat) (hx : x ≤ 1024) (w : World) : Calls Tryz.prog 95 #[.int .u64 (x : Int)] w fun e w' => (∃ k : Nat, e = .returned (.int .i64 (k : Int)) ∧ Dig x k) ∧ w' = w := by
  have t1 : decide ((4294967296 : Int) ≤ (x : Int)) = false := decide_eq_false (by omega)
  have t1' : decide (4294967296 ≤ x) = false := decide_eq_false (by omega)
  have t2 : decide ((65536 : Int) ≤ (x : Int)) = false := decide_eq_false (by omega)
  have t2' : decide (65536 ≤ x) = false := decide_eq_false (by omega)
  by_cases h : 256 ≤ x
  · have t3 : decide ((256 : Int) ≤ (x : Int)) = true := decide_eq_true (by omega)
    have t3' : decide (256 ≤ x) = true := decide_eq_true h
    obtain ⟨k, hk, hd⟩ := len8_high x hx h
    have c0 : (0 : Int) ≤ (x : Int) / 256 := by omega
    have c1 : (x : Int) / 256 ≤ 255 := by omega
    go_enter Tryz.func95, Tryz.ntmps95
    go_wp2
    go_ret
    exact ⟨⟨_, congrArg (fun v => Ending.returned (.int .i64 v)) (w64h _ hd.1), hd⟩, rfl⟩
  · have t3 : decide ((256 : Int) ≤ (x : Int)) = false := decide_eq_false (by omega)
    have t3' : decide (256 ≤ x) = false := decide_eq_false (by omega)
    obtain ⟨k, hk, hd⟩ := len8_low x (by omega)
    have c0 : (0 : Int) ≤ (x : Int) := by omega
    have c1 : (x : Int) ≤ 255 := by omega
    go_enter Tryz.func95, Tryz.ntmps95
    go_wp2
    go_ret
    exact ⟨⟨_, congrArg (fun v => Ending.returned (.int .i64 v)) (w64 _ hd.1), hd⟩, rfl⟩
theorem len_any (x : Nat) (hx : x ≤ 1024) (w : World) : Calls Tryz.prog 54 #[.int .u64 (x : Int)] w fun e w' => (∃ k : Nat, e = .returned (.int .i64 (k : Int)) ∧ Dig x k) ∧ w' = w := by
  have L := Lib.hid (len64_any x hx)
  go_enter Tryz.func54, Tryz.ntmps54
  go_wp2_with fail
  refine (L.out _).mono ?_
  rintro e w1 ⟨⟨k, rfl, hk⟩, rfl⟩
  go_wp2
  go_ret
  exact ⟨⟨k, rfl, hk⟩, rfl⟩
end Go.Proofs.YtohiidgdpecbdaaGreat.Srt

namespace Go.Proofs.YtohiidgdpecbdaaGreat.Srt
open Go.RowKit
attribute [local go_sem ↓] Go.wp_at_zero Go.wp_at_succ
/-- What a call that puts in order does, of at most K numbers. -/
def SortC (K : Nat) : Prop := ∀ (B g n cap : Nat) (xs : List Nat) (w : World), Row w B g n cap xs → n ≤ K →
  Calls Tryz.prog 141 #[.slice (some ⟨g, 0, none⟩) n cap] w fun e w' => e = .returned (.tuple #[]) ∧ ∃ ys, Row w' B g n cap ys ∧ w.grownBy w' (some g) ∧ Sw 0 n xs ys ∧ Inc 0 n ys
set_option maxRecDepth 100000 in
set_option maxHeartbeats 2000000 in
theorem pdq_small {B g n cap a b : Nat} {xs : List Nat} {w : World} (hr : Row w B g n cap xs) (hab : a ≤ b) (hb : b ≤ n) (hn : n ≤ 1000000) (h12 : b ≤ a + 12) (l : Int) :
    Calls Tryz.prog 149 #[.slice (some ⟨g, 0, none⟩) n cap, .int .i64 (a : Int), .int .i64 (b : Int), .int .i64 l] w fun e w' => e = .returned (.tuple #[]) ∧
      ∃ ys, Row w' B g n cap ys ∧ w.grownBy w' (some g) ∧ Sw a b xs ys ∧ Inc a b ys := by
  have C := Lib.hid (insertion_any hr hab hb hn)
  obtain ⟨d, hd⟩ : ∃ d, d = b - a := ⟨_, rfl⟩
  have e1 : (b : Int) - (a : Int) = (d : Int) := by omega
  have e2 : IntKind.i64.wrap (d : Int) = (d : Int) := IntWalk.i64_in _ (by omega)
  have e3 : decide ((d : Int) ≤ 12) = true := decide_eq_true (by omega)
  have e4 : decide (d ≤ 12) = true := decide_eq_true (by omega)
  clear hr hd
  go_enter Tryz.func149, Tryz.ntmps149
  go_wp2
  go_loopw [1, 2] (fun i j wr => wr = w ∧ i = .int .i64 (a : Int) ∧ j = .int .i64 (b : Int)) (fun _ _ _ => 0)
  case atStart => exact ⟨rfl, rfl, rfl⟩
  case round =>
    obtain ⟨rfl, rfl, rfl⟩ := hrel
    go_wp2_with fail
    refine C.out.mono ?_
    rintro e w1 ⟨rfl, h⟩
    have H := Lib.hid h
    clear h
    go_wp2
    (try simp only [Exit.inBlock, Exit.then])
    refine bodyPost_ret (results_none rfl _ _ _) rfl ?_
    exact ⟨rfl, H.out⟩
set_option maxRecDepth 100000 in
set_option maxHeartbeats 2000000 in
theorem insertion_nil (w : World) : Calls Tryz.prog 151 #[.slice none 0 0, .int .i64 0, .int .i64 0] w fun e w' => e = .returned (.tuple #[]) ∧ w' = w := by
  go_enter Tryz.func151, Tryz.ntmps151
  go_wp2
  go_loopw [6] (fun i wr => wr = w ∧ i = .int .i64 1) (fun _ _ => 0)
  case atStart => exact ⟨rfl, rfl⟩
  case round =>
    obtain ⟨rfl, rfl⟩ := hrel
    go_wp2
    go_end0
    exact ⟨rfl, rfl⟩
set_option maxRecDepth 100000 in
set_option maxHeartbeats 2000000 in
theorem pdq_nil (l : Int) (w : World) : Calls Tryz.prog 149 #[.slice none 0 0, .int .i64 0, .int .i64 0, .int .i64 l] w fun e w' => e = .returned (.tuple #[]) ∧ w' = w := by
  have C := Lib.hid (insertion_nil w)
  go_enter Tryz.func149, Tryz.ntmps149
  go_wp2
  go_loopw [1, 2] (fun i j wr => wr = w ∧ i = .int .i64 0 ∧ j = .int .i64 0) (fun _ _ _ => 0)
  case atStart => exact ⟨rfl, rfl, rfl⟩
  case round =>
    obtain ⟨rfl, rfl, rfl⟩ := hrel
    go_wp2_with fail
    refine C.out.mono ?_
    rintro e w1 ⟨rfl, rfl⟩
    go_wp2
    (try simp only [Exit.inBlock, Exit.then])
    refine bodyPost_ret (results_none rfl _ _ _) rfl ?_
    exact ⟨rfl, rfl⟩
set_option maxRecDepth 100000 in
theorem sort_nil (w : World) : Calls Tryz.prog 141 #[.slice none 0 0] w fun e w' => e = .returned (.tuple #[]) ∧ w' = w := by
  have L := Lib.hid (len_any 0 (by omega))
  have P := Lib.hid (fun l => pdq_nil l w)
  go_enter Tryz.func141, Tryz.ntmps141
  go_wp2_with fail
  refine (L.out _).mono ?_
  rintro e w1 ⟨⟨k, rfl, hk⟩, rfl⟩
  go_wp2_with fail
  refine (P.out _).mono ?_
  rintro e w2 ⟨rfl, rfl⟩
  go_wp2
  go_end0
  exact ⟨rfl, rfl⟩
end Go.Proofs.YtohiidgdpecbdaaGreat.Srt
