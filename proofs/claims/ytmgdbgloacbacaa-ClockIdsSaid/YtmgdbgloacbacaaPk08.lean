/- octavo/clock: Check, Count, Top, and stamp.Check: what each answers. Conditions: the slices' cells are replicas' spans. -/
import Derived.Maps.Own
import Derived.Maps.OwnOps
import Derived.Maps.Views
import Derived.Test.YtmgdbgloacbacaaPk05
import Derived.Test.YtmgdbgloacbacaaPk07
import Derived.Test.YtmgdbgloacbacaaPk01

namespace Go.Proofs.Ytmgdbgloacbacaa.Clocks
open Go.RowKit Go.Proofs.Ytmgdbgloacbacaa.Spans
attribute [local go_sem ↓] Go.wp_at_zero Go.wp_at_succ

def chkI (a : Id) : Int := if mayI a then 0 else 8
theorem stCheck_any (a : Id) (w : World) :
    Calls Try.prog 30 #[idv a] w fun e w' => e = .returned (.int .i64 (chkI a)) ∧ Below w.heap.size w w' := by
  obtain ⟨t, r, ht, hr⟩ := a
  unfold idv
  simp only
  obtain ⟨c, hc⟩ : ∃ c, c = chkI ⟨t, r, ht, hr⟩ := ⟨_, rfl⟩
  rw [← hc]
  have q : (decide ((t : Int) < 1) = true ∧ c = 8) ∨ (decide ((t : Int) < 1) = false ∧ decide ((1073741824 : Int) < (t : Int)) = true ∧ c = 8) ∨
      (decide ((t : Int) < 1) = false ∧ decide ((1073741824 : Int) < (t : Int)) = false ∧ decide ((8 : Int) ≤ (r : Int)) = true ∧ c = 8) ∨
      (decide ((t : Int) < 1) = false ∧ decide ((1073741824 : Int) < (t : Int)) = false ∧ decide ((8 : Int) ≤ (r : Int)) = false ∧ c = 0) := by
    rw [hc]
    unfold chkI mayI
    simp only
    by_cases h1 : t < 1
    · exact .inl ⟨decide_eq_true (by omega), if_neg (by omega)⟩
    · by_cases h2 : 1073741824 < t
      · exact .inr (.inl ⟨decide_eq_false (by omega), decide_eq_true (by omega), if_neg (by omega)⟩)
      · by_cases h3 : 8 ≤ r
        · exact .inr (.inr (.inl ⟨decide_eq_false (by omega), decide_eq_false (by omega), decide_eq_true (by omega), if_neg (by omega)⟩))
        · exact .inr (.inr (.inr ⟨decide_eq_false (by omega), decide_eq_false (by omega), decide_eq_false (by omega), if_pos (by omega)⟩))
  clear hc
  rcases q with ⟨q1, rfl⟩ | ⟨q1, q2, rfl⟩ | ⟨q1, q2, q3, rfl⟩ | ⟨q1, q2, q3, rfl⟩
  all_goals
    go_enter Try.func30, Try.ntmps30
    go_wp2
    go_ret
    exact ⟨rfl, (Below.refl _ _).alloc (Nat.le_refl _) _⟩

theorem chkC_no {c : List Tm} (h : ¬ Cok c) : chkC c = 8 := by unfold chkC; rw [mayC_no h]; rfl
theorem chkC_yes {c : List Tm} (h : Cok c) : chkC c = 0 := by unfold chkC; rw [(mayC_iff c).2 h]; rfl

set_option maxRecDepth 100000 in
set_option maxHeartbeats 4000000 in
theorem cCheck_any {v : Value} {c : List Tm} {w : World} (hv : Tms w v c) :
    Calls Try.prog 14 #[v] w fun e w' => e = .returned (.int .i64 (chkC c)) ∧ Below w.heap.size w w' := by
  obtain ⟨ao, cap, rfl⟩ := hv.shape
  obtain ⟨n, hn⟩ : ∃ n, n = c.length := ⟨_, rfl⟩
  have hm : n ≤ 9223372036854775807 := by rw [hn]; exact Tms.max hv
  have HV := Lib.hid hv
  have HN := Lib.hid hn
  obtain ⟨R, hR⟩ : ∃ R, R = chkC c := ⟨_, rfl⟩
  have HNo : Hid (¬ Cok c → R = 8) := fun h => by rw [hR]; exact chkC_no h
  have HYes : Hid (Cok c → R = 0) := fun h => by rw [hR]; exact chkC_yes h
  have B0 := Lib.hid (Below.refl w.heap.size w)
  rw [← hn, ← hR]
  clear hv hn hR
  go_enter Try.func14, Try.ntmps14
  go_wp2
  go_loopw [3, 8] (fun m i wr => ∃ k b : Nat, k ≤ n ∧ i = .int .i64 (k : Int) ∧ m = .int .u8 (b : Int) ∧ b ≤ 8 ∧ Hid ((k = 0 ∧ b = 0) ∨ ∃ j, k = j + 1 ∧ b = (c.getD j ztm).1 + 1) ∧ Hid (Up 0 (c.take k)) ∧ Hid (Below w.heap.size w wr)) (fun _ i _ => n - (intOf i).toNat)
  case atStart => exact ⟨0, 0, by omega, rfl, rfl, by omega, Lib.hid (.inl ⟨rfl, rfl⟩), Lib.hid trivial, B0⟩
  case round =>
    obtain ⟨k, b, hk, rfl, rfl, hb8, hlast, hch, hbel⟩ := hrel
    by_cases hkn : k < n
    · have q1 : decide (k < n) = true := by simpa using hkn
      have q2 : (0 : Int) ≤ (k : Int) := by omega
      have q3 : (k : Int) < (n : Int) := by omega
      have hkl : k < c.length := by rw [← HN.out]; exact hkn
      obtain ⟨b1, o1, u, rfl, hb1, ha0, ha1, -, hsp⟩ := (HV.out.keeps hbel.out).at k hkl
      obtain ⟨x, hx⟩ : ∃ x, x = c.getD k ztm := ⟨_, rfl⟩
      have hx' : c.getD k (0, []) = x := hx.symm
      rw [hx'] at ha0 hsp
      have hno : ¬ (x.1 < 8 ∧ x.2 ≠ [] ∧ mayB x.2 = true) → R = 8 := fun h => HNo.out (fun hc => h (by
        have := up_all hc (c.getD k ztm) (tm_mem hkl)
        rw [← hx] at this
        exact this.2))
      have hno2 : x.1 < b → R = 8 := fun h => by
        rcases hlast.out with ⟨h1, h2⟩ | ⟨j, h1, h2⟩
        · omega
        · refine HNo.out (fun hc => ?_)
          have := up_next hc (k := j) (by rw [← h1]; exact hkl)
          rw [← h1, ← hx] at this
          omega
      have hyes : x.1 < 8 → x.2 ≠ [] → mayB x.2 = true → b ≤ x.1 → Up 0 (c.take (k + 1)) := fun h1 h2 h3 h4 => by
        refine up_take_succ hkl hch.out (by rw [← hx]; exact h1) (by rw [← hx]; exact h2) (by rw [← hx]; exact h3) ?_
        rw [← hx]
        rcases hlast.out with ⟨g1, -⟩ | ⟨j, g1, g2⟩
        · exact .inl g1
        · refine .inr ?_
          rw [show k - 1 = j by omega]
          omega
      have HX : Hid (x.1 = (c.getD k ztm).1) := by rw [hx]; rfl
      have HNo1 := Lib.hid hno
      have HNo2 := Lib.hid hno2
      have HYes2 := Lib.hid hyes
      have XB := Lib.hid (fun o : Obj => hbel.out.alloc hbel.out.size o)
      obtain ⟨so, sc, rfl⟩ := hsp.shape
      obtain ⟨xr, xs⟩ := x
      simp only at ha0 ha1 hsp HX HNo1 HNo2 HYes2
      obtain ⟨sl, hsl⟩ : ∃ sl, sl = xs.length := ⟨_, rfl⟩
      rw [← hsl] at ha1 hsp
      have HSL := Lib.hid hsl
      obtain ⟨wo, rfl⟩ : ∃ wo : World, wo = wr := ⟨_, rfl⟩
      have CK : Hid (∀ o : Obj, Calls Try.prog 37 #[.slice so sl sc] (wo.alloc o) fun e w' => e = .returned (.int .i64 (chk xs)) ∧ Below (wo.alloc o).heap.size (wo.alloc o) w') := fun o =>
        pCheck_any (hsp.keeps ((Below.refl _ _).alloc (Nat.le_refl _) o))
      obtain ⟨q, hq⟩ : ∃ q, chk xs = q := ⟨_, rfl⟩
      rw [hq] at CK
      have HQ : Hid ((q = 0 ∧ mayB xs = true) ∨ (q = 8 ∧ mayB xs = false)) := by
        show _ ∨ _
        rw [← hq]
        unfold chk
        cases mayB xs <;> simp
      clear hx hx' hno hno2 hyes hsp hsl hq
      by_cases h1 : xr < b
      · have s1 : decide ((xr : Int) < (b : Int)) = true := decide_eq_true (by omega)
        have s2 : decide (xr < b) = true := decide_eq_true h1
        obtain rfl : R = 8 := HNo2.out h1
        go_wp2
        go_ret
        exact ⟨rfl, XB.out _⟩
      have s1 : decide ((xr : Int) < (b : Int)) = false := decide_eq_false (by omega)
      have s2 : decide (xr < b) = false := decide_eq_false h1
      by_cases h2 : 8 ≤ xr
      · have s3 : decide ((8 : Int) ≤ (xr : Int)) = true := decide_eq_true (by omega)
        have s4 : decide (8 ≤ xr) = true := decide_eq_true h2
        obtain rfl : R = 8 := HNo1.out (by omega)
        go_wp2
        go_ret
        exact ⟨rfl, XB.out _⟩
      have s3 : decide ((8 : Int) ≤ (xr : Int)) = false := decide_eq_false (by omega)
      have s4 : decide (8 ≤ xr) = false := decide_eq_false h2
      by_cases h3 : sl = 0
      · obtain rfl : R = 8 := HNo1.out (fun h => h.2.1 (List.length_eq_zero_iff.1 (by rw [← HSL.out]; exact h3)))
        subst h3
        go_wp2
        go_ret
        exact ⟨rfl, XB.out _⟩
      have s5 : ((sl : Int) == 0) = false := by simpa using h3
      rcases HQ.out with ⟨rfl, hmb⟩ | ⟨rfl, hmb⟩
      · have HUp : Hid (Up 0 (c.take (k + 1))) := HYes2.out (by omega) (fun h => h3 (by rw [HSL.out, h]; rfl)) hmb (by omega)
        have eT : IntKind.u8.wrap ((xr : Int) + 1) = (xr : Int) + 1 := by rw [IntKind.wrap_u8]; omega
        have hb2 : xr + 1 ≤ 8 := by omega
        have HL2 : Hid ((k + 1 = 0 ∧ xr + 1 = 0) ∨ ∃ j, k + 1 = j + 1 ∧ xr + 1 = (c.getD j ztm).1 + 1) := .inr ⟨k, rfl, by rw [HX.out]⟩
        clear HNo1 HNo2 HYes2 hmb HX hlast hch
        go_wp2_with fail
        refine (CK.out _).mono ?_
        rintro e w2 ⟨rfl, b2⟩
        have B2 := Lib.hid (bt (XB.out _) b2)
        have c2 := (b2.cell (p := ⟨wo.heap.size, 0, none⟩) (by simp)).trans (cell_of_row _ wo.heap.size 0 _ _ _ (heap_alloc_new wo _))
        clear b2
        go_wp2
        go_roundw
        case rel => exact ⟨k + 1, xr + 1, by omega, by go_num, by go_num, hb2, HL2, HUp, B2⟩
        case measure => simp [intOf]; omega
      · obtain rfl : R = 8 := HNo1.out (fun h => by rw [hmb] at h; cases h.2.2)
        clear HNo1 HNo2 HYes2 hmb HX hlast hch
        go_wp2_with fail
        refine (CK.out _).mono ?_
        rintro e w2 ⟨rfl, b2⟩
        go_wp2
        go_ret
        exact ⟨rfl, bt (XB.out _) b2⟩
    · have q1 : decide (k < n) = false := by simpa using hkn
      have hkk : c.take k = c := List.take_of_length_le (by have := HN.out; omega)
      obtain rfl : R = 0 := HYes.out (by have := hch.out; rwa [hkk] at this)
      clear hkk
      go_wp2
      go_ret
      exact ⟨rfl, hbel.out⟩
theorem cCheck_is {v : Value} {c : List Tm} {w : World} (hv : Tms w v c) {k : Int} (h : chkC c = k) :
    Calls Try.prog 14 #[v] w fun e w' => e = .returned (.int .i64 k) ∧ Below w.heap.size w w' := by
  rw [← h]; exact cCheck_any hv
end Go.Proofs.Ytmgdbgloacbacaa.Clocks

/- A map from bytes to values of any type, as a function from numbers to values. Conditions: none. -/
namespace Go.Proofs.Ytmgdbgloacbacaa
open Go.RowKit Go.WideShapes
open Go.Maps (Keyed int_keyed IsMap keyOf_int_mk)

/-- A value as a token: every value reads so. -/
def tokR (v : Value) : Option (DataW Value × List MemPlace) := some (.held v, [])
theorem u8law : Keyed Try.prog 5 := int_keyed Try.underlying5
theorem u8wf {r : Nat} (h : r < 256) : (Lit.int .u8 (r : Int)).wf = true := by
  have h1 : IntKind.u8.min = 0 := by decide
  have h2 : IntKind.u8.max = 255 := by decide
  simp [Lit.wf, h1, h2]
  omega
theorem u8key {r : Nat} (h : r < 256) : keyOf Try.prog 5 (.int .u8 (r : Int)) = some (.int .u8 (r : Int)) := keyOf_int_mk Try.underlying5 (u8wf h)
/-- Block b is a map of at most n entries; where M is none it has no entry. -/
def MapV (w : World) (b n : Nat) (M : Nat → Option Value) : Prop :=
  ∃ D : DataW Value, w.ownsMap Try.prog 5 tokR b n D ∧ IsMap D ∧ ∀ r : Nat, r < 256 → ∀ z, D.atKey (.int .u8 (r : Int)) (.held z) = .held ((M r).getD z)
theorem MapV.made (w : World) : MapV (w.alloc (.map #[] 0)) w.heap.size 0 (fun _ => none) := ⟨_, World.ownsMap_made w _ _ _, Maps.isMap_empty, fun _ _ _ => rfl⟩
theorem MapV.keeps {w w' : World} {b n : Nat} {M : Nat → Option Value} (h : MapV w b n M) (hb : Below w.heap.size w w') : MapV w' b n M := by
  obtain ⟨D, ⟨es, clock, h1, h2, h3, h4⟩, h5, h6⟩ := h
  exact ⟨D, ⟨es, clock, (hb.block b (Array.getElem?_eq_some_iff.1 h1).1).trans h1, h2, h3, h4⟩, h5, h6⟩
theorem MapV.other {w w' : World} {b n : Nat} {M : Nat → Option Value} (h : MapV w b n M) (hb : w'.heap[b]? = w.heap[b]?) : MapV w' b n M := by
  obtain ⟨D, ⟨es, clock, h1, h2, h3, h4⟩, h5, h6⟩ := h
  exact ⟨D, ⟨es, clock, hb.trans h1, h2, h3, h4⟩, h5, h6⟩
theorem MapV.lt {w : World} {b n : Nat} {M : Nat → Option Value} (h : MapV w b n M) : b < w.heap.size := by
  obtain ⟨D, h1, _⟩ := h
  exact h1.lt
theorem MapV.run {w : World} {b n : Nat} {M : Nat → Option Value} (h : MapV w b n M) {t e : TypeId} (ht : Try.prog.underlying t = some (.map 5 e)) {z : Value} (hz : (zeroValue e).run Try.prog w = .ok z w) {r : Nat} (hr : r < 256) :
    (Instr.lookup t (.map (some b)) (.int .u8 (r : Int)) false).run Try.prog w = .ok ((M r).getD z) w := by
  obtain ⟨D, h1, h2, h3⟩ := h
  obtain ⟨v, ps, hrun, hv⟩ := h1.lookup u8law ht hz (zd := .held z) (zp := []) rfl (u8key hr)
  rw [h3 r hr] at hv
  have : v = (M r).getD z := by
    have := (Prod.mk.inj (Option.some.inj hv)).1
    exact DataW.held.inj this
  rw [← this]
  exact hrun
theorem MapV.put {w' : World} {b n : Nat} {M : Nat → Option Value} {D : DataW Value} {r : Nat} {v : Value} (hD : IsMap D) (hat : ∀ r : Nat, r < 256 → ∀ z, D.atKey (.int .u8 (r : Int)) (.held z) = .held ((M r).getD z))
    (h : w'.ownsMap Try.prog 5 tokR b n (D.put (.int .u8 (r : Int)) (.held v))) : MapV w' b n (fun k => if k = r then some v else M k) := by
  refine ⟨_, h, hD.put _ _, fun k hk z => ?_⟩
  by_cases hkr : k = r
  · subst hkr
    rw [Maps.atKey_put_same hD (show WideAt.IsKeyLit (.int .u8 (k : Int)) from trivial)]
    simp
  · rw [Maps.atKey_put_other (by intro h; injection h with _ h; omega), hat k hk]
    simp [hkr]
/-- A look-up, at the operation. -/
theorem wpList_lookup_v (w : World) {ops : Array Oper} {rest : List Oper} {o : Oper} {a : Act} {Q : Exit → Act → World → Prop}
    (hg : o.guard = none) (m x : Operand) (t e : TypeId) (hop : o.op = Op.lookup t m x false) (ht : Try.prog.underlying t = some (.map 5 e)) (z : Value) (hz : (zeroValue e).run Try.prog w = .ok z w)
    (b n r : Nat) (M : Nat → Option Value) (hM : MapV w b n M) (hm : a.eval m = .map (some b)) (hx : a.eval x = .int .u8 (r : Int)) (hr : r < 256)
    (hK : wpList Try.prog ops Q rest (a.put o.dst ((M r).getD z)) w) : wpList Try.prog ops Q (o :: rest) a w := by
  refine wpList_plain hg fun K' hK' => ?_
  have hrun := hM.run ht hz hr
  unfold Oper.wp
  simp [execOp, hop, hm, hx, hrun, Result.andThen]
  exact hK' _ _ hK
/-- A store, at the operation. -/
theorem wpList_update_v (w : World) {ops : Array Oper} {rest : List Oper} {o : Oper} {a : Act} {Q : Exit → Act → World → Prop}
    (hg : o.guard = none) (m x v : Operand) (t e : TypeId) (hop : o.op = Op.mapUpdate t m x v) (ht : Try.prog.underlying t = some (.map 5 e))
    (b n r : Nat) (M : Nat → Option Value) (hM : MapV w b n M) (hn : n < 9223372036854775807) (hm : a.eval m = .map (some b)) (hx : a.eval x = .int .u8 (r : Int)) (hr : r < 256) (val : Value) (hv : a.eval v = val)
    (hK : ∀ w', MapV w' b (n + 1) (fun k => if k = r then some val else M k) → w.grownBy w' (some b) → wpList Try.prog ops Q rest (a.put o.dst undef) w') : wpList Try.prog ops Q (o :: rest) a w := by
  obtain ⟨D, h1, h2, h3⟩ := hM
  exact wpList_mapUpdate_own w hg m x v t hop 5 e u8law ht tokR b n D hm h1 (by unfold maxLen; omega) _ val _ hx hv (u8key hr) (.held val) [] rfl (fun w' h g => hK w' (MapV.put h2 h3 h) g)
end Go.Proofs.Ytmgdbgloacbacaa

/- octavo/clock: byReplica and told: what each answers. Conditions: the clock may be; the function that is told answers spans of its own. -/
namespace Go.Proofs.Ytmgdbgloacbacaa.Clocks
open Go.RowKit Go.Proofs.Ytmgdbgloacbacaa.Spans
attribute [local go_sem ↓] Go.wp_at_zero Go.wp_at_succ

theorem spn_snoc : ∀ {c : List Tm} {x : Tm} {lo : Nat}, Up lo (c ++ [x]) → ∀ r, spn (c ++ [x]) r = if x.1 = r then x.2 else spn c r
  | [], x, _, _, r => rfl
  | y :: c, x, lo, h, r => by
    have h2 : Up (y.1 + 1) (c ++ [x]) := by
      unfold Up at h
      exact h.2.2.2.2
    have ih := spn_snoc h2 r
    have hx := (up_all h2 x (by simp)).1
    show (if y.1 = r then y.2 else spn (c ++ [x]) r) = if x.1 = r then x.2 else (if y.1 = r then y.2 else spn c r)
    rw [ih]
    by_cases h3 : y.1 = r
    · rw [if_pos h3, if_neg (by omega), if_pos h3]
    · rw [if_neg h3, if_neg h3]

set_option maxRecDepth 100000 in
set_option maxHeartbeats 4000000 in
theorem byRep_any {v : Value} {c : List Tm} {w : World} (hv : Tms w v c) (hc : Cok c) :
    Calls Try.prog 80 #[v] w fun e w' => ∃ (b n : Nat) (M : Nat → Option Value), e = .returned (.map (some b)) ∧ w.heap.size ≤ b ∧ MapV w' b n M ∧ (∀ r : Nat, r < 256 → Sps w ((M r).getD (.slice none 0 0)) (spn c r)) ∧ Below w.heap.size w w' := by
  obtain ⟨ao, cap, rfl⟩ := hv.shape
  obtain ⟨n, hn⟩ : ∃ n, n = c.length := ⟨_, rfl⟩
  have hm : n ≤ 9223372036854775807 := by rw [hn]; exact Tms.max hv
  have HV := Lib.hid hv
  have HN := Lib.hid hn
  have HC := Lib.hid hc
  rw [← hn]
  clear hv hn hc
  have hmm := @run_makeMap Try.prog
  have M0 := Lib.hid (MapV.made w)
  have B0 := Lib.hid ((Below.refl w.heap.size w).alloc (Nat.le_refl _) (.map #[] 0))
  have S0 : Hid (∀ r : Nat, r < 256 → Sps w (((fun _ => none : Nat → Option Value) r).getD (.slice none 0 0)) (spn (c.take 0) r)) := fun r _ => by
    rw [List.take_zero]
    exact Sees.nil w 2
  go_enter Try.func80, Try.ntmps80
  go_wp2
  go_loopw [9] (fun i wr => ∃ (k : Nat) (M : Nat → Option Value), k ≤ n ∧ i = .int .i64 (k : Int) ∧ Hid (MapV wr w.heap.size k M) ∧ Hid (∀ r : Nat, r < 256 → Sps w ((M r).getD (.slice none 0 0)) (spn (c.take k) r)) ∧ Hid (Below w.heap.size w wr)) (fun i _ => n - (intOf i).toNat)
  case atStart => exact ⟨0, _, by omega, rfl, M0, S0, B0⟩
  case round =>
    clear M0 S0 B0
    obtain ⟨k, M, hk, rfl, hM, hS, hbel⟩ := hrel
    by_cases hkn : k < n
    · have q1 : decide (k < n) = true := by simpa using hkn
      have q2 : (0 : Int) ≤ (k : Int) := by omega
      have q3 : (k : Int) < (n : Int) := by omega
      have hkl : k < c.length := by rw [← HN.out]; exact hkn
      obtain ⟨b1, o1, u, rfl, hb1, ha0, ha1, hr256, hsp⟩ := HV.out.at k hkl
      have ha0 := (hbel.out.cell (p := ⟨b1, o1 + k * 2, none⟩) hb1).trans ha0
      have ha1 := (hbel.out.cell (p := ⟨b1, o1 + k * 2 + 1, none⟩) hb1).trans ha1
      obtain ⟨x, hx⟩ : ∃ x, x = c.getD k ztm := ⟨_, rfl⟩
      have hx' : c.getD k (0, []) = x := hx.symm
      rw [hx'] at ha0 hr256 hsp
      have hs := tm_take_snoc c k hkl
      have hup := up_take HC.out (k + 1)
      rw [hs] at hup
      have hsn := spn_snoc hup
      rw [← hs, ← hx] at hsn
      obtain ⟨xr, xs⟩ := x
      simp only at ha0 hr256 hsp hsn
      obtain ⟨so, sc, rfl⟩ := hsp.shape
      obtain ⟨sl, hsl⟩ : ∃ sl, sl = xs.length := ⟨_, rfl⟩
      rw [← hsl] at ha1 hsp
      have HS2 : Hid (∀ r : Nat, r < 256 → Sps w (((fun j => if j = xr then some (.slice so sl sc) else M j) r).getD (.slice none 0 0)) (spn (c.take (k + 1)) r)) := fun r hr => by
        rw [hsn r]
        by_cases h : r = xr
        · subst h
          simp only [if_true, Option.getD_some]
          exact hsp
        · rw [if_neg (fun e : xr = r => h e.symm)]
          simp only [if_neg h]
          exact hS.out r hr
      obtain ⟨wo, rfl⟩ : ∃ wo : World, wo = wr := ⟨_, rfl⟩
      have MA : Hid (∀ o : Obj, MapV (wo.alloc o) w.heap.size k M) := fun o => hM.out.keeps ((Below.refl _ _).alloc (Nat.le_refl _) o)
      have BA : Hid (∀ o : Obj, Below w.heap.size w (wo.alloc o)) := fun o => hbel.out.alloc hbel.out.size o
      have hkm : k < 9223372036854775807 := by omega
      clear hx hx' hs hup hsn hsp hsl hS
      go_wp2_with (first | (at_mapUpdate; refine wpList_update_v _ rfl _ _ _ 107 48 rfl Try.underlying107 w.heap.size k xr M (MA.out _) hkm rfl rfl hr256 _ rfl ?_) | go_in)
      intro w1 m1 g1
      have B1 : Hid (Below w.heap.size w w1) := (BA.out _).grown g1 (BA.out _).size (fun j e => by cases e; exact Nat.le_refl _)
      have M1 := Lib.hid m1
      clear m1 g1
      go_wp2
      go_roundw
      case rel => exact ⟨k + 1, _, by omega, by go_num, M1, HS2, B1⟩
      case measure => simp [intOf]; omega
    · have q1 : decide (k < n) = false := by simpa using hkn
      have hkk : c.take k = c := List.take_of_length_le (by have := HN.out; omega)
      rw [hkk] at hS
      clear hkk
      go_wp2
      go_ret
      exact ⟨_, _, _, rfl, Nat.le_refl _, hM.out, hS.out, hbel.out⟩

/-! ### told -/
/-- What lies below B stays, and what has come from H on. -/
def Apart (B H : Nat) (w w' : World) : Prop := Below B w w' ∧ ∀ j, H ≤ j → j < w.heap.size → w'.heap[j]? = w.heap[j]?
theorem Apart.of {B H : Nat} {w w' : World} (h : Below w.heap.size w w') (hB : B ≤ w.heap.size) : Apart B H w w' := ⟨h.mono hB, fun j _ hj => h.block j hj⟩
theorem own_apart {B H sz n : Nat} {w w' : World} {e : TypeId} {v : Value} {cs : List Value} (h : w.ownsRow H e sz v n cs) (ha : Apart B H w w') : w'.ownsRow H e sz v n cs := by
  refine ⟨h.1, ?_⟩
  rcases h.2 with h0 | ⟨g, cap, cur, rfl, h1, hg, h2⟩
  · exact .inl h0
  · exact .inr ⟨g, cap, cur, rfl, h1, (ha.2 g h1 (Array.getElem?_eq_some_iff.1 hg).1).trans hg, h2⟩
theorem holdO_apart {B H : Nat} {w w' : World} (ha : Apart B H w w') : ∀ {cs : List Value} {c : List Tm}, HoldO w H cs c → HoldO w' H cs c
  | [], [], _ => trivial
  | _ :: _ :: _, _ :: _, h => ⟨h.1, h.2.1, own_apart h.2.2.1 ha, holdO_apart ha h.2.2.2⟩
theorem ownC_apart {B H : Nat} {w w' : World} {v : Value} {c : List Tm} (h : OwnC w H v c) (ha : Apart B H w w') : OwnC w' H v c := by
  obtain ⟨cs, h1, h2⟩ := h
  exact ⟨cs, own_apart h1 ha, holdO_apart ha h2⟩

set_option maxRecDepth 100000 in
set_option maxHeartbeats 4000000 in
theorem told_any {gf : Nat} {lb : Array Value} (eg : ∀ args w, (callFunc gf args).run Try.prog w = .ok (.enter gf args) w) {B : Nat} {w : World} (g : Nat → List Sp) (St : Nat → World → Prop) (h0 : St 0 w) (hB : B ≤ w.heap.size)
    (hst : ∀ k W W', St k W → w.heap.size ≤ W.heap.size → Below w.heap.size W W' → St k W')
    (hcall : ∀ (k : Nat) (W : World), k < 8 → w.heap.size ≤ W.heap.size → St k W → Calls Try.prog gf (#[.int .u8 (k : Int)] ++ lb) W fun e w' => ∃ v', e = .returned (.tuple #[v', .int .i64 0]) ∧
      w'.ownsRow W.heap.size 53 2 v' (g k).length (sps (g k)) ∧ Apart B w.heap.size W w' ∧ St (k + 1) w') :
    Calls Try.prog 31 #[.func (.func gf) #[] lb] w fun e w' => ∃ v', e = .returned (.tuple #[v', .int .i64 0]) ∧ OwnC w' w.heap.size v' (clkFrom g 0 8) ∧ Below B w w' := by
  have H0 := Lib.hid h0
  have HST := Lib.hid hst
  have HCA := Lib.hid hcall
  clear h0 hst hcall
  have O0 : Hid (OwnC w w.heap.size (.slice none 0 0) (clkFrom g 0 0)) := OwnC.nil _ _
  have B0 := Lib.hid (Below.refl B w)
  go_enter Try.func31, Try.ntmps31
  go_wp2
  go_loopw [4, 8] (fun o i wr => ∃ k : Nat, k ≤ 8 ∧ i = .int .u8 (k : Int) ∧ Hid (OwnC wr w.heap.size o (clkFrom g 0 k)) ∧ Hid (St k wr) ∧ Hid (Below B w wr)) (fun _ i _ => 8 - (intOf i).toNat)
  case atStart => exact ⟨0, by omega, rfl, O0, H0, B0⟩
  case round =>
    clear O0 H0 B0
    obtain ⟨k, hk, rfl, hown, hs, hbel⟩ := hrel
    by_cases hk8 : k < 8
    · have q1 : decide ((k : Int) < 8) = true := decide_eq_true (by omega)
      have q2 : decide (k < 8) = true := decide_eq_true hk8
      have hsz := hbel.out.size
      have CA := Lib.hid (HCA.out k wr hk8 hsz hs.out)
      have hln := clkFrom_len g k 0
      have hsn := clkFrom_snoc g k 0
      rw [Nat.zero_add] at hsn
      have HSN : Hid (clkFrom g 0 (k + 1) = putC (clkFrom g 0 k) k (g k)) := hsn
      have e1 : IntKind.u8.wrap ((k : Int) + 1) = (k : Int) + 1 := by rw [IntKind.wrap_u8]; omega
      have HLN := Lib.hid hln
      clear hsn hln hs
      go_wp2_with fail
      refine CA.out.mono ?_
      rintro e w1 ⟨v1, rfl, o1, a1, s1⟩
      have hsz1 : w.heap.size ≤ w1.heap.size := Nat.le_trans hsz a1.1.size
      have OC := Lib.hid (ownC_apart hown.out a1)
      have O1 := Lib.hid (own_base o1 hsz)
      have B1 := Lib.hid (hbel.out.trans a1.1)
      have S1 := Lib.hid s1
      clear o1 a1 s1 CA hown
      obtain ⟨l, hl⟩ : ∃ l, l = g k := ⟨_, rfl⟩
      rw [← hl] at O1 HSN
      clear hl
      obtain ⟨c, hc⟩ : ∃ c, c = clkFrom g 0 k := ⟨_, rfl⟩
      rw [← hc] at OC HSN HLN
      clear hc
      obtain ⟨m, hm⟩ : ∃ m, m = l.length := ⟨_, rfl⟩
      have HM := Lib.hid hm
      rw [← hm] at O1
      obtain ⟨cs, hv1, hv2⟩ := OC.out
      obtain ⟨ao, cap, rfl⟩ := Sees.shape (Sees.own hv1)
      obtain ⟨so, sc, rfl⟩ := Sees.shape (Sees.own O1.out)
      obtain ⟨n, hn⟩ : ∃ n, n = c.length := ⟨_, rfl⟩
      have HN := Lib.hid hn
      rw [← hn] at hv1 HLN ⊢
      have hln : n ≤ 8 := by have := HLN.out; omega
      have HV1 := Lib.hid hv1
      have HV2 := Lib.hid hv2
      clear hv1 hv2 HLN
      by_cases hm0 : m = 0
      · have hl0 : l = [] := List.length_eq_zero_iff.1 (by omega)
        have e : putC c k l = c := by unfold putC; rw [if_pos hl0, List.append_nil]
        rw [e] at HSN
        have O2 : Hid (OwnC w1 w.heap.size (.slice ao n cap) (clkFrom g 0 (k + 1))) := by show OwnC _ _ _ _; rw [HSN.out]; exact ⟨cs, by rw [← HN.out]; exact HV1.out, HV2.out⟩
        have t1 : decide ((0 : Int) < (m : Int)) = false := decide_eq_false (by omega)
        have t2 : decide (0 < m) = false := decide_eq_false (by omega)
        clear hm hn e hl0 OC
        go_wp2
        go_roundw
        case rel => exact ⟨k + 1, by omega, by go_num, O2, S1, B1⟩
        case measure => simp [intOf]; omega
      · have hl0 : l ≠ [] := fun h => hm0 (by rw [hm, h]; rfl)
        have t1 : decide ((0 : Int) < (m : Int)) = true := decide_eq_true (by omega)
        have t2 : decide (0 < m) = true := decide_eq_true (by omega)
        have e : putC c k l = c ++ [(k, l)] := by unfold putC; rw [if_neg hl0]
        rw [e] at HSN
        have hlen : (c ++ [(k, l)]).length = n + 1 := by simp [hn]
        have HLEN := Lib.hid hlen
        have SE : Hid (Sees (w1.alloc (.cells #[.int .u8 (k : Int), .slice so m sc] 50)) (.slice (some ⟨w1.heap.size, 0, none⟩) 1 1) 2 1 [.int .u8 (k : Int), .slice so m sc]) := sees_new w1 [.int .u8 (k : Int), .slice so m sc] 2 1 rfl (by omega) _ _
        have BX := Lib.hid ((Below.refl w1.heap.size w1).alloc (Nat.le_refl _) (.cells #[.int .u8 (k : Int), .slice so m sc] 50))
        clear hm hn e hl0 hlen OC
        go_wp2_with (at_builtin; go_loud (refine wpList_append_sees rfl (.tmp 23) (.tmp 27) 22 50 rfl Try.underlying22 times_info rfl (by decide) w.heap.size _ n cs rfl (own_stays HV1.out BX.out) _ 1 _ rfl SE.out (by intro z hz; simp at hz; rcases hz with rfl | rfl <;> rfl) ?a1 ?a2 ?a3 ?_))
        case a1 => omega
        case a2 => omega
        case a3 => exact Nat.le_trans hsz1 BX.out.size
        rintro v5 w5 o5 g5 b5
        have OW : Hid (OwnC w5 w.heap.size v5 (clkFrom g 0 (k + 1))) := by
          show OwnC _ _ _ _
          rw [HSN.out]
          have hx := own_stays HV1.out BX.out
          refine ⟨cs ++ [.int .u8 (k : Int), .slice so m sc], by rw [HLEN.out]; exact o5, HoldO.append (hold_grown (HV2.out.keeps BX.out) g5 (times_row hx)) ⟨rfl, by show k < 256; omega, ?_, trivial⟩⟩
          have := own_kept_span (own_stays O1.out BX.out) hx g5
          rw [HM.out] at this
          rw [HM.out]
          exact this
        have BH : Below w.heap.size w1 w5 := (BX.out.mono hsz1).trans b5
        have BB := Lib.hid (B1.out.trans (BH.mono hB))
        have SS := Lib.hid (HST.out _ _ _ S1.out hsz1 BH)
        obtain ⟨a5, c5, rfl⟩ : ∃ ao cap, v5 = .slice ao (n + 1) cap := Sees.shape (Sees.own o5)
        clear o5 g5 b5 SE BX BH
        go_wp2
        go_roundw
        case rel => exact ⟨k + 1, by omega, by go_num, OW, SS, BB⟩
        case measure => simp [intOf]; omega
    · have q1 : decide ((k : Int) < 8) = false := decide_eq_false (by omega)
      have q2 : decide (k < 8) = false := decide_eq_false hk8
      obtain rfl : k = 8 := by omega
      go_wp2
      go_ret2
      exact ⟨_, rfl, hown.out, hbel.out⟩
end Go.Proofs.Ytmgdbgloacbacaa.Clocks

/- octavo/clock: done with its closure, Join, Less, Add: what each answers. Conditions: the slices' cells are replicas' spans; no replica has more than 1024 spans in both together. -/
namespace Go.Proofs.Ytmgdbgloacbacaa.Clocks
open Go.RowKit Go.Proofs.Ytmgdbgloacbacaa.Spans
attribute [local go_sem ↓] Go.wp_at_zero Go.wp_at_succ

theorem zero_sps (w : World) : (zeroValue 48).run Try.prog w = .ok (.slice none 0 0) w := by kernel_rfl
/-- What a function does that is handed on: it answers spans of its own. -/
def Does (gd : Nat) (op : List Sp → List Sp → List Sp) : Prop :=
  ∀ (W : World) (x y : Value) (a b : List Sp), Sps W x a → Sps W y b → mayB a = true → mayB b = true → a.length + b.length ≤ 1024 →
    Calls Try.prog gd #[x, y] W fun e w' => ∃ v', e = .returned (.tuple #[v', .int .i64 0]) ∧ w'.ownsRow W.heap.size 53 2 v' (op a b).length (sps (op a b)) ∧ Below W.heap.size W w'
set_option maxRecDepth 100000 in
set_option maxHeartbeats 2000000 in
theorem doneOne_any {gd : Nat} (ed : ∀ args w, (callFunc gd args).run Try.prog w = .ok (.enter gd args) w) {op : List Sp → List Sp → List Sp} (HD : Does gd op) {k P Q m1 n1 m2 n2 : Nat} {M1 M2 : Nat → Option Value} {a b : List Sp} {W : World} (hk : k < 256)
    (hp : W.cell? ⟨P, 0, none⟩ = some (.func (.func gd) #[] #[])) (hq : W.cell? ⟨Q, 0, none⟩ = some (.map (some m1))) (hr : W.cell? ⟨Q + 1, 0, none⟩ = some (.map (some m2))) (h1 : MapV W m1 n1 M1) (h2 : MapV W m2 n2 M2)
    (ha : Sps W ((M1 k).getD (.slice none 0 0)) a) (hb : Sps W ((M2 k).getD (.slice none 0 0)) b) (fa : mayB a = true) (fb : mayB b = true) (hf : a.length + b.length ≤ 1024) :
    Calls Try.prog 81 #[.int .u8 (k : Int), .pointer (some ⟨P, 0, none⟩), .pointer (some ⟨Q, 0, none⟩), .pointer (some ⟨Q + 1, 0, none⟩)] W fun e w' => ∃ v', e = .returned (.tuple #[v', .int .i64 0]) ∧
      w'.ownsRow W.heap.size 53 2 v' (op a b).length (sps (op a b)) ∧ Below W.heap.size W w' := by
  have H1 := Lib.hid h1
  have H2 := Lib.hid h2
  have CD := Lib.hid (HD W _ _ a b ha hb fa fb hf)
  obtain ⟨x, hx⟩ : ∃ x, x = (M1 k).getD (.slice none 0 0) := ⟨_, rfl⟩
  obtain ⟨y, hy⟩ : ∃ y, y = (M2 k).getD (.slice none 0 0) := ⟨_, rfl⟩
  rw [← hx] at ha CD
  rw [← hy] at hb CD
  have HX := Lib.hid hx
  have HY := Lib.hid hy
  obtain ⟨xo, xc, rfl⟩ := ha.shape
  obtain ⟨yo, yc, rfl⟩ := hb.shape
  obtain ⟨r, hr'⟩ : ∃ r, r = op a b := ⟨_, rfl⟩
  rw [← hr'] at CD ⊢
  obtain ⟨la, hla⟩ : ∃ la, la = a.length := ⟨_, rfl⟩
  obtain ⟨lb, hlb⟩ : ∃ lb, lb = b.length := ⟨_, rfl⟩
  rw [← hla] at CD HX
  rw [← hlb] at CD HY
  clear h1 h2 ha hb fa fb hf HD hx hy hr' hla hlb
  go_enter Try.func81, Try.ntmps81
  go_wp2_with (first | (at_lookup; refine wpList_lookup_v _ rfl _ _ 107 48 rfl Try.underlying107 (.slice none 0 0) (zero_sps _) m1 n1 k M1 H1.out rfl rfl hk ?_; rw [← HX.out]) | (at_lookup; refine wpList_lookup_v _ rfl _ _ 107 48 rfl Try.underlying107 (.slice none 0 0) (zero_sps _) m2 n2 k M2 H2.out rfl rfl hk ?_; rw [← HY.out]) | go_in)
  refine CD.out.mono ?_
  rintro e w1 ⟨v1, rfl, o1, b1⟩
  have O1 := Lib.hid o1
  have B1 := Lib.hid b1
  obtain ⟨so, sc, rfl⟩ := Sees.shape (Sees.own o1)
  clear o1 b1
  go_wp2
  go_ret2
  exact ⟨_, rfl, O1.out, B1.out⟩

theorem idx_c0 (x y : Value) (W : World) : (Instr.index 106 (.agg #[x, y]) (.int .i64 0)).run Try.prog W = .ok x W := by
  simp [Instr.index, asIntOf, run_underlying Try.underlying106, go_sem]
theorem idx_c1 (x y : Value) (W : World) : (Instr.index 106 (.agg #[x, y]) (.int .i64 1)).run Try.prog W = .ok y W := by
  simp [Instr.index, asIntOf, run_underlying Try.underlying106, go_sem]

set_option maxRecDepth 100000 in
set_option maxHeartbeats 4000000 in
theorem done_any {gd : Nat} (ed : ∀ args w, (callFunc gd args).run Try.prog w = .ok (.enter gd args) w) {op : List Sp → List Sp → List Sp} (HD : Does gd op) {v u : Value} {a b L : List Tm} {c : Int} {w : World} (hv : Tms w v a) (hu : Tms w u b) (hf : Few a b)
    (hbad : ¬ (mayC a = true ∧ mayC b = true) → L = [] ∧ c = 8) (hgood : mayC a = true → mayC b = true → L = clk (fun r => op (spn a r) (spn b r)) ∧ c = 0) :
    Calls Try.prog 66 #[v, u, .func (.func gd) #[] #[]] w (DoneC L c w) := by
  have HV := Lib.hid hv
  have HU := Lib.hid hu
  have HF := Lib.hid hf
  have HDO := Lib.hid HD
  have HBad := Lib.hid hbad
  have HGood := Lib.hid hgood
  obtain ⟨ao, ac, rfl⟩ := hv.shape
  obtain ⟨bo, bc, rfl⟩ := hu.shape
  obtain ⟨la, hla⟩ : ∃ la, la = a.length := ⟨_, rfl⟩
  obtain ⟨lb, hlb⟩ : ∃ lb, lb = b.length := ⟨_, rfl⟩
  rw [← hla] at HV ⊢
  rw [← hlb] at HU ⊢
  have B0 : Hid (Below w.heap.size w (w.alloc (.cells #[.func (.func gd) #[] #[]] 92)) ∧ (w.alloc (.cells #[.func (.func gd) #[] #[]] 92)).heap[w.heap.size]? = some (.cells #[.func (.func gd) #[] #[]] 92)) :=
    ⟨(Below.refl _ _).alloc (Nat.le_refl _) _, kb_new rfl⟩
  have CK1 : Hid (∀ W : World, Below w.heap.size w W → Calls Try.prog 14 #[.slice ao la ac] W fun e w' => e = .returned (.int .i64 (chkC a)) ∧ Below W.heap.size W w') := fun W hW => cCheck_any (HV.out.keeps hW)
  have CK2 : Hid (∀ W : World, Below w.heap.size w W → Calls Try.prog 14 #[.slice bo lb bc] W fun e w' => e = .returned (.int .i64 (chkC b)) ∧ Below W.heap.size W w') := fun W hW => cCheck_any (HU.out.keeps hW)
  have I0 := Lib.hid (idx_c0 (.slice ao la ac) (.slice bo lb bc))
  have I1 := Lib.hid (idx_c1 (.slice ao la ac) (.slice bo lb bc))
  obtain ⟨pa, hpa⟩ : ∃ p, mayC a = p := ⟨_, rfl⟩
  obtain ⟨pb, hpb⟩ : ∃ p, mayC b = p := ⟨_, rfl⟩
  have HPA := Lib.hid hpa
  have HPB := Lib.hid hpb
  unfold chkC at CK1 CK2
  rw [hpa] at CK1
  rw [hpb] at CK2
  clear hv hu hf HD hbad hgood hla hlb hpa hpb
  go_enter Try.func66, Try.ntmps66
  go_wp2
  go_loopw [16] (fun i wr => Hid (Below w.heap.size w wr ∧ wr.heap[w.heap.size]? = some (.cells #[.func (.func gd) #[] #[]] 92)) ∧ (i = .int .i64 0 ∨ (i = .int .i64 1 ∧ pa = true) ∨ (i = .int .i64 2 ∧ pa = true ∧ pb = true))) (fun i _ => 2 - (intOf i).toNat)
  case atStart => exact ⟨B0, .inl rfl⟩
  case round =>
    clear B0
    obtain ⟨wo, rfl⟩ : ∃ wo : World, wo = wr := ⟨_, rfl⟩
    obtain ⟨hP, hc⟩ := hrel
    rcases hc with rfl | ⟨rfl, rfl⟩ | ⟨rfl, rfl, rfl⟩
    · have i0 := I0.out
      have C := Lib.hid (CK1.out wo hP.out.1)
      cases pa
      · obtain ⟨rfl, rfl⟩ := HBad.out (fun h => by have := h.1; rw [HPA.out] at this; cases this)
        rw [if_neg (by simp)] at C
        go_wp2_with fail
        refine C.out.mono ?_
        rintro e w1 ⟨rfl, b1⟩
        have B1 := Lib.hid (bt hP.out.1 b1)
        clear b1
        go_wp2
        go_ret2
        exact ⟨_, rfl, OwnC.nil _ _, B1.out⟩
      · rw [if_pos rfl] at C
        go_wp2_with fail
        refine C.out.mono ?_
        rintro e w1 ⟨rfl, b1⟩
        have B1 : Hid (Below w.heap.size w w1 ∧ w1.heap[w.heap.size]? = some (.cells #[.func (.func gd) #[] #[]] 92)) := ⟨bt hP.out.1 b1, (b1.block _ (Array.getElem?_eq_some_iff.1 hP.out.2).1).trans hP.out.2⟩
        clear b1
        go_wp2
        go_roundw
        case rel => exact ⟨B1, .inr (.inl ⟨by go_num, trivial⟩)⟩
        case measure => simp [intOf]
    · have i1 := I1.out
      have C := Lib.hid (CK2.out wo hP.out.1)
      cases pb
      · obtain ⟨rfl, rfl⟩ := HBad.out (fun h => by have := h.2; rw [HPB.out] at this; cases this)
        rw [if_neg (by simp)] at C
        go_wp2_with fail
        refine C.out.mono ?_
        rintro e w1 ⟨rfl, b1⟩
        have B1 := Lib.hid (bt hP.out.1 b1)
        clear b1
        go_wp2
        go_ret2
        exact ⟨_, rfl, OwnC.nil _ _, B1.out⟩
      · rw [if_pos rfl] at C
        go_wp2_with fail
        refine C.out.mono ?_
        rintro e w1 ⟨rfl, b1⟩
        have B1 : Hid (Below w.heap.size w w1 ∧ w1.heap[w.heap.size]? = some (.cells #[.func (.func gd) #[] #[]] 92)) := ⟨bt hP.out.1 b1, (b1.block _ (Array.getElem?_eq_some_iff.1 hP.out.2).1).trans hP.out.2⟩
        clear b1
        go_wp2
        go_roundw
        case rel => exact ⟨B1, .inr (.inr ⟨by go_num, trivial, trivial⟩)⟩
        case measure => simp [intOf]
    · have hA := (mayC_iff a).1 HPA.out
      have hB := (mayC_iff b).1 HPB.out
      obtain ⟨rfl, rfl⟩ := HGood.out HPA.out HPB.out
      have hsz : w.heap.size ≤ wo.heap.size := hP.out.1.size
      have CA := Lib.hid (byRep_any (HV.out.keeps hP.out.1) hA)
      have CB : Hid (∀ W : World, Below w.heap.size w W → Calls Try.prog 80 #[.slice bo lb bc] W fun e w' => ∃ (m n : Nat) (M : Nat → Option Value), e = .returned (.map (some m)) ∧ W.heap.size ≤ m ∧ MapV w' m n M ∧ (∀ r : Nat, r < 256 → Sps W ((M r).getD (.slice none 0 0)) (spn b r)) ∧ Below W.heap.size W w') := fun W hW => byRep_any (HU.out.keeps hW) hB
      have SA := Lib.hid (fun r => spn_may hA r)
      have SB := Lib.hid (fun r => spn_may hB r)
      have e1 := enters_of Try.func81 (by kernel_rfl) rfl
      have E1 := Lib.hid e1
      clear HBad HGood CK1 CK2 hA hB
      go_wp2_with fail
      refine CA.out.mono ?_
      rintro e w1 ⟨m1, n1, M1, rfl, hm1, mv1, sp1, b1⟩
      have B1 := Lib.hid b1
      have X1 := Lib.hid mv1
      have S1 := Lib.hid sp1
      clear b1 mv1 sp1 CA
      go_wp2_with fail
      refine (CB.out _ (bt hP.out.1 B1.out)).mono ?_
      rintro e w2 ⟨m2, n2, M2, rfl, hm2, mv2, sp2, b2⟩
      have B2 := Lib.hid (bt B1.out b2)
      have X1' := Lib.hid (X1.out.keeps b2)
      have X2 := Lib.hid mv2
      have S2 := Lib.hid sp2
      have B21 := Lib.hid b2
      clear b2 mv2 sp2 CB X1
      obtain ⟨w5, hw5⟩ : ∃ w5 : World, w5 = (w2.alloc (.cells #[.map (some m1)] 107)).alloc (.cells #[.map (some m2)] 107) := ⟨_, rfl⟩
      have b25 : Below w2.heap.size w2 w5 := by rw [hw5]; exact ((Below.refl _ _).alloc (Nat.le_refl _) _).alloc (by simp) _
      have c5 : w5.heap.size = w2.heap.size + 1 + 1 ∧ w5.cell? ⟨w.heap.size, 0, none⟩ = some (.func (.func gd) #[] #[]) ∧ w5.cell? ⟨w2.heap.size, 0, none⟩ = some (.map (some m1)) ∧ w5.cell? ⟨w2.heap.size + 1, 0, none⟩ = some (.map (some m2)) := by
        refine ⟨by rw [hw5]; simp, ?_, ?_, ?_⟩
        · have hlt := (Array.getElem?_eq_some_iff.1 hP.out.2).1
          have hlt2 : w.heap.size < w2.heap.size := Nat.lt_of_lt_of_le hlt B2.out.size
          exact (b25.cell (p := ⟨w.heap.size, 0, none⟩) hlt2).trans ((B2.out.cell (p := ⟨w.heap.size, 0, none⟩) hlt).trans (one_blk hP.out.2).1)
        · rw [hw5]; exact (one_blk (kb_old (kb_new rfl))).1
        · rw [hw5]; exact (one_blk (kb_new (by simp))).1
      have XA := Lib.hid (X1'.out.keeps b25)
      have XB := Lib.hid (X2.out.keeps b25)
      have BW5 := Lib.hid (bt (bt hP.out.1 B2.out) b25)
      have SA5 : Hid (∀ r : Nat, r < 256 → Sps w5 ((M1 r).getD (.slice none 0 0)) (spn a r)) := fun r hr => (S1.out r hr).keeps (bt B2.out b25)
      have SB5 : Hid (∀ r : Nat, r < 256 → Sps w5 ((M2 r).getD (.slice none 0 0)) (spn b r)) := fun r hr => (S2.out r hr).keeps (bt B21.out b25)
      have C5 := Lib.hid c5
      have TC := Lib.hid (told_any (gf := 81) (lb := #[.pointer (some ⟨w.heap.size, 0, none⟩), .pointer (some ⟨w2.heap.size, 0, none⟩), .pointer (some ⟨w2.heap.size + 1, 0, none⟩)]) E1.out (B := w5.heap.size) (w := w5) (fun r => op (spn a r) (spn b r)) (fun _ W => Below w5.heap.size w5 W) (Below.refl _ _) (Nat.le_refl _)
        (fun k W W' h1 h2 h3 => h1.trans h3)
        (fun k W hk hW h => by
          have hlt := (Array.getElem?_eq_some_iff.1 hP.out.2).1
          have hlt2 : w.heap.size < w2.heap.size := Nat.lt_of_lt_of_le hlt B2.out.size
          obtain ⟨z1, z2, z3, z4⟩ := C5.out
          refine (doneOne_any (k := k) ed HDO.out (by omega) ((h.cell (p := ⟨w.heap.size, 0, none⟩) (by show w.heap.size < _; omega)).trans z2) ((h.cell (p := ⟨w2.heap.size, 0, none⟩) (by show w2.heap.size < _; omega)).trans z3) ((h.cell (p := ⟨w2.heap.size + 1, 0, none⟩) (by show w2.heap.size + 1 < _; omega)).trans z4) (XA.out.keeps h) (XB.out.keeps h) ((SA5.out k (by omega)).keeps h) ((SB5.out k (by omega)).keeps h) (SA.out k) (SB.out k) (HF.out k)).mono ?_
          rintro e w' ⟨v', he, ho, hb⟩
          exact ⟨v', he, ho, Apart.of hb hW, h.trans (hb.mono hW)⟩))
      clear b25 c5 SA5 SB5 XA XB S1 S2 B21 X1' X2 C5
      subst hw5
      go_wp2_with fail
      refine TC.out.mono ?_
      rintro e w6 ⟨v6, rfl, o6, b6⟩
      have O6 := Lib.hid (OwnC.base o6 BW5.out.size)
      have B6 := Lib.hid (bt BW5.out b6)
      obtain ⟨so, sc, rfl⟩ := o6.tms.shape
      clear o6 b6
      go_wp2
      go_ret2
      exact ⟨_, rfl, O6.out, B6.out⟩
end Go.Proofs.Ytmgdbgloacbacaa.Clocks

/- octavo/clock: Join, Less, Add: what each answers. Conditions: the slices' cells are replicas' spans; no replica has more than 1024 spans in both together. -/
namespace Go.Proofs.Ytmgdbgloacbacaa.Clocks
open Go.RowKit Go.Proofs.Ytmgdbgloacbacaa.Spans
attribute [local go_sem ↓] Go.wp_at_zero Go.wp_at_succ

theorem does_join : Does 67 both := fun W x y a b ha hb fa fb hf => by
  have h := pJoin_any ha hb
  have e : joins a b = (both a b, 0) := by
    unfold joins told
    rw [if_pos ⟨fa, fb⟩, if_neg (by have := both_len b a; omega)]
  rw [e] at h
  exact h.mono fun e w' ⟨ao, cap, h1, h2, h3⟩ => ⟨_, h1, h2, h3⟩
theorem cJoin_any {v u : Value} {a b : List Tm} {w : World} (hv : Tms w v a) (hu : Tms w u b) (hf : Few a b) :
    Calls Try.prog 60 #[v, u] w (DoneC (joinsC a b).1 (joinsC a b).2 w) := by
  obtain ⟨L, c, hd⟩ : ∃ L c, joinsC a b = (L, c) := ⟨_, _, rfl⟩
  rw [hd]
  have C := Lib.hid (done_any (L := L) (c := c) (enters_of Try.func67 (by kernel_rfl) rfl) does_join hv hu hf
    (fun h => by unfold joinsC at hd; rw [if_neg h] at hd; exact ⟨(Prod.mk.inj hd).1.symm, (Prod.mk.inj hd).2.symm⟩)
    (fun h1 h2 => by unfold joinsC at hd; rw [if_pos ⟨h1, h2⟩] at hd; exact ⟨(Prod.mk.inj hd).1.symm, (Prod.mk.inj hd).2.symm⟩))
  simp only
  clear hv hu hd hf
  go_enter Try.func60, Try.ntmps60
  go_wp2_with fail
  refine C.out.mono ?_
  rintro e w1 ⟨v1, rfl, o1, b1⟩
  have O1 := Lib.hid o1
  obtain ⟨ao, cap, rfl⟩ := o1.tms.shape
  clear o1
  go_wp2
  go_ret2
  exact ⟨_, rfl, O1.out, b1⟩
/-- The clock of a stamp, laid: its span, itself, and a copy of itself in a slice. -/
theorem tms_one (a : Id) (X : World) :
    Tms (((X.alloc (.cells #[.int .u32 (a.t : Int), .int .u32 (a.t : Int)] 53)).alloc (.cells #[.int .u8 (a.r : Int), .slice (some ⟨X.heap.size, 0, none⟩) 1 1] 50)).alloc (.cells #[.int .u8 (a.r : Int), .slice (some ⟨X.heap.size, 0, none⟩) 1 1] 50))
      (.slice (some ⟨X.heap.size + 1 + 1, 0, none⟩) 1 1) (one a) := by
  have ht := a.ht
  have hr := a.hr
  have s1 : Sps (X.alloc (.cells #[.int .u32 (a.t : Int), .int .u32 (a.t : Int)] 53)) (.slice (some ⟨X.heap.size, 0, none⟩) 1 1) [mk a.t a.t] := sees_sp (kb_new rfl) (by rw [mk_f ht]) (by rw [mk_t ht])
  have s2 := (s1.keeps ((Below.refl _ _).alloc (Nat.le_refl _) (.cells #[.int .u8 (a.r : Int), .slice (some ⟨X.heap.size, 0, none⟩) 1 1] 50)))
  have s3 := (s2.keeps ((Below.refl _ _).alloc (Nat.le_refl _) (.cells #[.int .u8 (a.r : Int), .slice (some ⟨X.heap.size, 0, none⟩) 1 1] 50)))
  have h := sees_new ((X.alloc (.cells #[.int .u32 (a.t : Int), .int .u32 (a.t : Int)] 53)).alloc (.cells #[.int .u8 (a.r : Int), .slice (some ⟨X.heap.size, 0, none⟩) 1 1] 50)) [.int .u8 (a.r : Int), .slice (some ⟨X.heap.size, 0, none⟩) 1 1] 2 1 rfl (by omega) 50 (0, 0)
  simp only [World.size_alloc] at h
  exact ⟨_, h, Hold.one (x := (a.r, [mk a.t a.t])) hr s3⟩

set_option maxHeartbeats 2000000 in
theorem cAdd_any {v : Value} {c : List Tm} (a : Id) {w : World} (hv : Tms w v c) (hf : Few c (one a)) :
    Calls Try.prog 47 #[v, .agg #[.int .u32 (a.t : Int), .int .u8 (a.r : Int)]] w (DoneC (addsC c a).1 (addsC c a).2 w) := by
  have HV := Lib.hid hv
  have BX := Lib.hid ((Below.refl w.heap.size w).alloc (Nat.le_refl _) (.cells #[.int .u32 (a.t : Int), .int .u8 (a.r : Int)] 25))
  have PX : Hid (((w.alloc (.cells #[.int .u32 (a.t : Int), .int .u8 (a.r : Int)] 25)).heap[w.heap.size]? = some (.cells #[.int .u32 (a.t : Int), .int .u8 (a.r : Int)] 25))) := heap_alloc_new w _
  obtain ⟨L, x, hd⟩ : ∃ L x, addsC c a = (L, x) := ⟨_, _, rfl⟩
  rw [hd]
  have M1 := Lib.hid (cCheck_any (hv.keeps BX.out))
  have MI : Hid (∀ W : World, Calls Try.prog 30 #[.agg #[.int .u32 (a.t : Int), .int .u8 (a.r : Int)]] W fun e w' => e = .returned (.int .i64 (chkI a)) ∧ Below W.heap.size W w') := fun W => stCheck_any a W
  obtain ⟨pa, hpa⟩ : ∃ p, mayC c = p := ⟨_, rfl⟩
  unfold chkC at M1
  rw [hpa] at M1
  unfold chkI at MI
  have box : ∀ W : World, Below (w.heap.size + 1) (w.alloc (.cells #[.int .u32 (a.t : Int), .int .u8 (a.r : Int)] 25)) W → W.cell? ⟨w.heap.size, 0, none⟩ = some (.int .u32 (a.t : Int)) ∧ W.cell? ⟨w.heap.size, 1, none⟩ = some (.int .u8 (a.r : Int)) := fun W hW => by
    have h := (hW.block w.heap.size (by omega)).trans PX.out
    exact ⟨cell_of_row _ w.heap.size 0 _ _ _ h, cell_of_row _ w.heap.size 1 _ _ _ h⟩
  have Box := Lib.hid box
  have hsz : (w.alloc (.cells #[.int .u32 (a.t : Int), .int .u8 (a.r : Int)] 25)).heap.size = w.heap.size + 1 := by simp
  simp only
  cases pa
  · obtain ⟨rfl, rfl⟩ : L = [] ∧ x = 8 := by
      unfold addsC at hd
      rw [if_neg (by rw [hpa]; simp)] at hd
      exact ⟨(Prod.mk.inj hd).1.symm, (Prod.mk.inj hd).2.symm⟩
    rw [if_neg (by simp)] at M1
    clear hv hf hd hpa box MI
    go_enter Try.func47, Try.ntmps47
    go_wp2_with fail
    refine M1.out.mono ?_
    rintro e w1 ⟨rfl, b1⟩
    have B1 := Lib.hid (bt BX.out b1)
    clear b1
    go_wp2
    go_ret2
    exact ⟨_, rfl, OwnC.nil _ _, B1.out⟩
  rw [if_pos rfl] at M1
  by_cases hmi : mayI a
  · obtain ⟨rfl, rfl⟩ : L = bothC c (one a) ∧ x = 0 := by
      unfold addsC at hd
      rw [if_pos ⟨hpa, hmi⟩] at hd
      exact ⟨(Prod.mk.inj hd).1.symm, (Prod.mk.inj hd).2.symm⟩
    rw [if_pos hmi] at MI
    have hj : joinsC c (one a) = (bothC c (one a), 0) := by
      unfold joinsC
      rw [if_pos ⟨hpa, (mayC_iff _).2 (one_ok hmi)⟩]
    have JO : Hid (∀ (W : World) (u : Value), Below w.heap.size w W → Tms W u (one a) → Calls Try.prog 60 #[v, u] W (DoneC (bothC c (one a)) 0 W)) := fun W u hW hu => by
      have h := cJoin_any (HV.out.keeps hW) hu hf
      rwa [hj] at h
    have TO := Lib.hid (tms_one a)
    obtain ⟨J, hJ⟩ : ∃ J, J = bothC c (one a) := ⟨_, rfl⟩
    obtain ⟨O, hO⟩ : ∃ O, O = one a := ⟨_, rfl⟩
    rw [← hJ] at JO ⊢
    rw [← hO] at JO TO
    clear hv hf hd hpa box hJ hmi hO hj
    go_enter Try.func47, Try.ntmps47
    go_wp2_with fail
    refine M1.out.mono ?_
    rintro e w1 ⟨rfl, b1⟩
    have B1 := Lib.hid (bt BX.out b1)
    rw [hsz] at b1
    have N1 := Lib.hid b1
    obtain ⟨c0, c1⟩ := Box.out _ b1
    have hs1 : w.heap.size + 1 ≤ w1.heap.size := by have := b1.size; rw [hsz] at this; exact this
    clear b1
    go_wp2_with fail
    refine (MI.out _).mono ?_
    rintro e w2 ⟨rfl, b2⟩
    have B2 := Lib.hid (bt B1.out b2)
    have hb2 := N1.out.trans (b2.mono hs1)
    clear c0 c1
    obtain ⟨c0, c1⟩ := Box.out _ hb2
    clear b2 hb2
    go_wp2_with fail
    have B3 := Lib.hid (bt B2.out ((((Below.refl w2.heap.size w2).alloc (Nat.le_refl _) (.cells #[.int .u32 (a.t : Int), .int .u32 (a.t : Int)] 53)).alloc (by simp) (.cells #[.int .u8 (a.r : Int), .slice (some ⟨w2.heap.size, 0, none⟩) 1 1] 50)).alloc (by simp; omega) (.cells #[.int .u8 (a.r : Int), .slice (some ⟨w2.heap.size, 0, none⟩) 1 1] 50)))
    refine (JO.out _ _ B3.out (TO.out w2)).mono ?_
    rintro e w4 ⟨v4, rfl, o4, b4⟩
    have O4 := Lib.hid (OwnC.base o4 B3.out.size)
    have B4 := Lib.hid (bt B3.out b4)
    obtain ⟨a4, c4, rfl⟩ := o4.tms.shape
    clear o4 b4 c0 c1
    go_wp2
    go_ret2
    exact ⟨_, rfl, O4.out, B4.out⟩
  · obtain ⟨rfl, rfl⟩ : L = [] ∧ x = 8 := by
      unfold addsC at hd
      rw [if_neg (fun h => hmi h.2)] at hd
      exact ⟨(Prod.mk.inj hd).1.symm, (Prod.mk.inj hd).2.symm⟩
    rw [if_neg hmi] at MI
    clear hv hf hd hpa box
    go_enter Try.func47, Try.ntmps47
    go_wp2_with fail
    refine M1.out.mono ?_
    rintro e w1 ⟨rfl, b1⟩
    have B1 := Lib.hid (bt BX.out b1)
    rw [hsz] at b1
    obtain ⟨c0, c1⟩ := Box.out _ b1
    clear b1
    go_wp2_with fail
    refine (MI.out _).mono ?_
    rintro e w2 ⟨rfl, b2⟩
    have B2 := Lib.hid (bt B1.out b2)
    clear b2
    go_wp2
    go_ret2
    exact ⟨_, rfl, OwnC.nil _ _, B2.out⟩
end Go.Proofs.Ytmgdbgloacbacaa.Clocks
