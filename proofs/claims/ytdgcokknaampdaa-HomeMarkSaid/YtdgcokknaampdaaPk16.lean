/- octavo/span.chosen: what it answers. Conditions: the chooser answers what it is asked for; the slices' cells are spans. -/
import Derived.Maps.Own
import Derived.Maps.OwnOps
import Derived.Maps.Views
import Derived.Shelf.Abstract
import Derived.Test.YtdgcokknaampdaaPk15
import Derived.Test.YtdgcokknaampdaaPk09
import Derived.Test.YtdgcokknaampdaaPk01
import Derived.Test.YtdgcokknaampdaaPk14
import Derived.Test.YtdgcokknaampdaaPk10
import Derived.Test.YtdgcokknaampdaaPk13
import Derived.Test.YtdgcokknaampdaaPk07

namespace Go.Proofs.Ytdgcokknaampdaa.Spans
open Go.RowKit Go.Shelf
attribute [local go_sem ↓] Go.wp_at_zero Go.wp_at_succ
attribute [local go_sem] Oper.semAt_some

/-- The two results stored. -/
def put2 (N : Nat) (W : World) (v : Value) (c : Int) : World := (W.setCell ⟨N + 1, 0, none⟩ v).setCell ⟨N + 2, 0, none⟩ (.int .i64 c)
theorem put2_below {N B : Nat} {w W : World} (v : Value) (c : Int) (h : Below B w W) (hB : B ≤ N + 1) : Below B w (put2 N W v c) :=
  (h.setCell (p := ⟨N + 1, 0, none⟩) hB _).setCell (p := ⟨N + 2, 0, none⟩) (by simp; omega) _
end Go.Proofs.Ytdgcokknaampdaa.Spans

/- octavo/span: what each answers. Conditions: the slices' cells are spans. -/
namespace Go.Proofs.Ytdgcokknaampdaa.Spans
open Go.RowKit Go.Shelf
attribute [local go_sem ↓] Go.wp_at_zero Go.wp_at_succ

end Go.Proofs.Ytdgcokknaampdaa.Spans

/- octavo/clock: Check, Count, Top, and stamp.Check: what each answers. Conditions: the slices' cells are replicas' spans. -/
namespace Go.Proofs.Ytdgcokknaampdaa.Clocks
open Go.RowKit Go.Proofs.Ytdgcokknaampdaa.Spans
attribute [local go_sem ↓] Go.wp_at_zero Go.wp_at_succ

end Go.Proofs.Ytdgcokknaampdaa.Clocks

/- A map from bytes to values of any type, as a function from numbers to values. Conditions: none. -/
namespace Go.Proofs.Ytdgcokknaampdaa
open Go.RowKit Go.WideShapes
open Go.Maps (Keyed int_keyed IsMap keyOf_int_mk)

/-- A value as a token: every value reads so. -/
def tokR (v : Value) : Option (DataW Value × List MemPlace) := some (.held v, [])
theorem u8law : Keyed Try.prog 5 := int_keyed Try.underlying5
theorem u8wf {r : Nat} (h : r < 256) : (Lit.int .u8 (r : Int)).wf = true := by
  have h1 : IntKind.u8.min = 0 := by decide
  have h2 : IntKind.u8.max = 255 := by decide
  simp [Lit.wf, h1, h2]
  omega
theorem u8key {r : Nat} (h : r < 256) : keyOf Try.prog 5 (.int .u8 (r : Int)) = some (.int .u8 (r : Int)) := keyOf_int_mk Try.underlying5 (u8wf h)
/-- Block b is a map of at most n entries; where M is none it has no entry. -/
def MapV (w : World) (b n : Nat) (M : Nat → Option Value) : Prop :=
  ∃ D : DataW Value, w.ownsMap Try.prog 5 tokR b n D ∧ IsMap D ∧ ∀ r : Nat, r < 256 → ∀ z, D.atKey (.int .u8 (r : Int)) (.held z) = .held ((M r).getD z)
theorem MapV.made (w : World) : MapV (w.alloc (.map #[] 0)) w.heap.size 0 (fun _ => none) := ⟨_, World.ownsMap_made w _ _ _, Maps.isMap_empty, fun _ _ _ => rfl⟩
theorem MapV.keeps {w w' : World} {b n : Nat} {M : Nat → Option Value} (h : MapV w b n M) (hb : Below w.heap.size w w') : MapV w' b n M := by
  obtain ⟨D, ⟨es, clock, h1, h2, h3, h4⟩, h5, h6⟩ := h
  exact ⟨D, ⟨es, clock, (hb.block b (Array.getElem?_eq_some_iff.1 h1).1).trans h1, h2, h3, h4⟩, h5, h6⟩
theorem MapV.lt {w : World} {b n : Nat} {M : Nat → Option Value} (h : MapV w b n M) : b < w.heap.size := by
  obtain ⟨D, h1, _⟩ := h
  exact h1.lt
theorem MapV.run {w : World} {b n : Nat} {M : Nat → Option Value} (h : MapV w b n M) {t e : TypeId} (ht : Try.prog.underlying t = some (.map 5 e)) {z : Value} (hz : (zeroValue e).run Try.prog w = .ok z w) {r : Nat} (hr : r < 256) :
    (Instr.lookup t (.map (some b)) (.int .u8 (r : Int)) false).run Try.prog w = .ok ((M r).getD z) w := by
  obtain ⟨D, h1, h2, h3⟩ := h
  obtain ⟨v, ps, hrun, hv⟩ := h1.lookup u8law ht hz (zd := .held z) (zp := []) rfl (u8key hr)
  rw [h3 r hr] at hv
  have : v = (M r).getD z := by
    have := (Prod.mk.inj (Option.some.inj hv)).1
    exact DataW.held.inj this
  rw [← this]
  exact hrun
theorem MapV.put {w' : World} {b n : Nat} {M : Nat → Option Value} {D : DataW Value} {r : Nat} {v : Value} (hD : IsMap D) (hat : ∀ r : Nat, r < 256 → ∀ z, D.atKey (.int .u8 (r : Int)) (.held z) = .held ((M r).getD z))
    (h : w'.ownsMap Try.prog 5 tokR b n (D.put (.int .u8 (r : Int)) (.held v))) : MapV w' b n (fun k => if k = r then some v else M k) := by
  refine ⟨_, h, hD.put _ _, fun k hk z => ?_⟩
  by_cases hkr : k = r
  · subst hkr
    rw [Maps.atKey_put_same hD (show WideAt.IsKeyLit (.int .u8 (k : Int)) from trivial)]
    simp
  · rw [Maps.atKey_put_other (by intro h; injection h with _ h; omega), hat k hk]
    simp [hkr]
end Go.Proofs.Ytdgcokknaampdaa

/- octavo/clock: byReplica and told: what each answers. Conditions: the clock may be; the function that is told answers spans of its own. -/
namespace Go.Proofs.Ytdgcokknaampdaa.Clocks
open Go.RowKit Go.Proofs.Ytdgcokknaampdaa.Spans
attribute [local go_sem ↓] Go.wp_at_zero Go.wp_at_succ

/-! ### told -/
/-- What lies below B stays, and what has come from H on. -/
def Apart (B H : Nat) (w w' : World) : Prop := Below B w w' ∧ ∀ j, H ≤ j → j < w.heap.size → w'.heap[j]? = w.heap[j]?
theorem Apart.of {B H : Nat} {w w' : World} (h : Below w.heap.size w w') (hB : B ≤ w.heap.size) : Apart B H w w' := ⟨h.mono hB, fun j _ hj => h.block j hj⟩
theorem own_apart {B H sz n : Nat} {w w' : World} {e : TypeId} {v : Value} {cs : List Value} (h : w.ownsRow H e sz v n cs) (ha : Apart B H w w') : w'.ownsRow H e sz v n cs := by
  refine ⟨h.1, ?_⟩
  rcases h.2 with h0 | ⟨g, cap, cur, rfl, h1, hg, h2⟩
  · exact .inl h0
  · exact .inr ⟨g, cap, cur, rfl, h1, (ha.2 g h1 (Array.getElem?_eq_some_iff.1 hg).1).trans hg, h2⟩
end Go.Proofs.Ytdgcokknaampdaa.Clocks

/- octavo/marks.Live: what it answers. Conditions: the slice's cells are operations. -/
namespace Go.Proofs.Ytdgcokknaampdaa.Marks
open Go.RowKit Go.WideShapes Stamp Go.Proofs.Ytdgcokknaampdaa.Place Ops Codes Bags
attribute [local go_sem ↓] Go.wp_at_zero Go.wp_at_succ

/-- The live marks of a list, in its order. -/
def pickM (L l : List Opn) : List Opn := l.filter (fun o => decide (o.k = 2) && !ended L (idO o))
theorem pick_yes {L l : List Opn} {x : Opn} (hk : x.k = 2) (he : ended L (idO x) = false) : pickM L (l ++ [x]) = pickM L l ++ [x] := by
  unfold pickM
  rw [List.filter_append, List.filter_cons_of_pos (by simp [hk, he])]
  rfl
theorem pick_no {L l : List Opn} {x : Opn} (h : ¬ (x.k = 2 ∧ ended L (idO x) = false)) : pickM L (l ++ [x]) = pickM L l := by
  unfold pickM
  rw [List.filter_append, List.filter_cons_of_neg (by simpa using h)]
  simp
theorem pick_is {l m : List Opn} (hl : Bag l) (hp : m.Perm (pickM l l)) (hs : m.Pairwise (fun a b => ¬ cmp b.pl a.pl < 0)) : livesM l l = m := by
  have hmem : ∀ y, y ∈ m ↔ y ∈ l ∧ y.k = 2 ∧ ended l (idO y) = false := fun y => by
    rw [hp.mem_iff]
    unfold pickM
    simp
  refine lives_ext hl (fun x hx => hl.2.1 x ((hmem x).1 hx).1) ?_ hmem
  have hd : m.Pairwise (fun a b => idO a ≠ idO b) := by
    refine (hp.pairwise_iff (fun {a b} h => Ne.symm h)).2 ?_
    unfold pickM
    exact (hl.2.2.imp (fun h => lessO_ne h)).filter _
  refine List.Pairwise.imp_of_mem ?_ (hs.and hd)
  intro a b ha hb h
  have h1 := (hmem a).1 ha
  have h2 := (hmem b).1 hb
  rcases mark_ne (hl.2.1 a h1.1) (hl.2.1 b h2.1) h1.2.1 h2.2.1 h.2 with h3 | h3
  · exact h3
  · exact absurd h3 h.1
theorem grown_apart {w w' : World} {N : Nat} (hN : N ≤ w.heap.size) (h : w.grownBy w' (some N)) : Clocks.Apart N (N + 1) w w' :=
  ⟨⟨h.os, h.tape, h.output, h.size, fun k hk => h.block k (by omega) (by intro e; injection e with e; omega)⟩, fun k h1 h2 => h.block k h2 (by intro e; injection e with e; omega)⟩
theorem holdP_apart {B H : Nat} {w w' : World} (ha : Clocks.Apart B H w w') : ∀ {cs : List Value} {l : List Opn}, HoldP w H cs l → HoldP w' H cs l
  | _, [], h => h
  | _, _ :: _, ⟨v, d, h1, h2, h3⟩ => ⟨v, d, h1, Clocks.own_apart h2 ha, holdP_apart ha h3⟩
theorem ownL_apart {B H : Nat} {w w' : World} {v : Value} {l : List Opn} (h : OwnL w H v l) (ha : Clocks.Apart B H w w') : OwnL w' H v l := by
  obtain ⟨cs, h1, h2⟩ := h
  exact ⟨cs, Clocks.own_apart h1 ha, holdP_apart ha h2⟩
/-- What is told of the map: of the stamps that are still to come it tells whether they are joined. -/
def Ahead (l : List Opn) (j : Nat) (N n : Nat) (wr : World) : Prop := ∃ S, SetI wr N n S ∧ ∀ (i : Nat) (h : i < l.length), j ≤ i → S (idO (l[i]'h)) = ended l (idO (l[i]'h))
theorem Ahead.keeps {l : List Opn} {j N n : Nat} {w w' : World} (h : Ahead l j N n w) (hb : Below w.heap.size w w') : Ahead l j N n w' := by
  obtain ⟨S, h1, h2⟩ := h
  exact ⟨S, h1.keeps hb, h2⟩
theorem Ahead.next {l : List Opn} {j N n : Nat} {w : World} (h : Ahead l j N n w) : Ahead l (j + 1) N n w := by
  obtain ⟨S, h1, h2⟩ := h
  exact ⟨S, h1, fun i hi hj => h2 i hi (by omega)⟩
theorem bag_ids {l : List Opn} (hl : Bag l) {i j : Nat} (hi : i < l.length) (hj : j < l.length) (h : j < i) : idO (l[i]'hi) ≠ idO (l[j]'hj) :=
  fun e => lessO_ne (List.pairwise_iff_getElem.1 hl.2.2 j i hj hi h) e.symm

set_option maxRecDepth 100000 in
set_option maxHeartbeats 8000000 in
theorem mLive_any {v : Value} {l : List Opn} {w : World} (hv : OpL w v l) : Calls Try.prog 28 #[v] w (DoneN (liveL l) (chkL l) w) := by
  have CK := Lib.hid (bCheck_any hv)
  obtain ⟨ao, cap, rfl⟩ := hv.shape
  obtain ⟨n, hn⟩ : ∃ n, n = l.length := ⟨_, rfl⟩
  have HV : Hid (∀ W : World, Below w.heap.size w W → OpL W (.slice ao l.length cap) l) := fun W h => hv.keeps h
  have HN := Lib.hid hn
  by_cases hbag : Bag l
  rotate_left
  · have e1 : chkL l = 8 := chkL_no hbag
    have e2 : liveL l = [] := by unfold liveL; rw [bagB_no hbag]; rfl
    rw [e1] at CK ⊢
    rw [e2]
    rw [← hn] at CK ⊢
    clear hv hn e1 e2
    go_enter Try.func28, Try.ntmps28
    go_wp2_with fail
    refine CK.out.mono ?_
    rintro e w1 ⟨rfl, b1⟩
    have B1 := Lib.hid b1
    clear b1
    go_wp2
    go_ret2
    exact ⟨_, rfl, OwnL.nil _ _, B1.out⟩
  have e1 : chkL l = 0 := chkL_yes hbag
  have e2 : liveL l = livesM l l := by unfold liveL; rw [(bagB_iff l).2 hbag]; rfl
  have HB := Lib.hid hbag
  rw [e1] at CK ⊢
  rw [e2]
  have JI : Hid (∀ W : World, Below w.heap.size w W → Calls Try.prog 56 #[.slice ao l.length cap] W fun e w' => e = .returned (.map (some W.heap.size)) ∧ Ahead l 0 W.heap.size n w' ∧ Below W.heap.size W w') := fun W h => by
    refine (joinedIn_any (hv.keeps h) hbag.2.1 hbag.1).mono ?_
    rintro e w' ⟨rfl, h1, h2⟩
    exact ⟨rfl, ⟨_, by rw [HN.out]; exact h1, fun _ _ _ => rfl⟩, h2⟩
  have SO : Hid (∀ (W : World) (v : Value) (base : Nat), OwnL W base v (pickM l l) → base ≤ W.heap.size → Calls Try.prog 59 #[v, .func (.func 60) #[] #[]] W fun e w' => e = .returned (.tuple #[]) ∧ OwnL w' base v (livesM l l) ∧ Below base W w') := fun W v base h hB => by
    refine (sortL_any h (fun o ho => anyB_may (mayO_parts (hbag.2.1 o (List.mem_filter.1 ho).1)).2.1) (by have h1 := hbag.1; have h2 : (pickM l l).length ≤ l.length := List.length_filter_le _ _; omega)).mono ?_
    rintro e w' ⟨rfl, l', h1, h2, h3, h4⟩
    rw [pick_is hbag h1 h2]
    exact ⟨rfl, h3, h4⟩
  have hnm : n ≤ 1024 := by rw [hn]; exact hbag.1
  obtain ⟨R, hR⟩ : ∃ z, livesM l l = z := ⟨_, rfl⟩
  rw [hR] at SO ⊢
  rw [← hn] at CK JI ⊢
  clear hv hn e1 e2 hR hbag
  go_enter Try.func28, Try.ntmps28
  go_wp2_with fail
  refine CK.out.mono ?_
  rintro e w1 ⟨rfl, b1⟩
  have B1 := Lib.hid b1
  clear b1 CK
  go_wp2_with fail
  refine (JI.out _ B1.out).mono ?_
  rintro e w2 ⟨rfl, s2, b2⟩
  obtain ⟨N, hN⟩ : ∃ N, w1.heap.size = N := ⟨_, rfl⟩
  have hNw : w.heap.size ≤ N := by rw [← hN]; exact B1.out.size
  have hN2 : N < w2.heap.size := by obtain ⟨S, h1, _⟩ := s2; rw [hN] at h1; exact h1.lt
  rw [hN] at s2
  have S2 := Lib.hid s2
  have B2 := Lib.hid (bt B1.out b2)
  have L2 : Hid (OwnL w2 (N + 1) (.slice none 0 0) (pickM l (l.take 0))) := OwnL.nil _ _
  have M2 : Hid (0 = (pickM l (l.take 0)).length) := rfl
  have Z2 := Lib.hid hN2
  rw [hN]
  clear s2 b2 hN hN2 B1 JI
  have HNW := Lib.hid hNw
  clear hNw
  go_wp2
  go_loopw [6, 18] (fun v i wr => ∃ j m : Nat, j ≤ n ∧ m ≤ j ∧ i = .int .i64 (j : Int) ∧ (∃ ao cap, v = .slice ao m cap) ∧ Hid (m = (pickM l (l.take j)).length) ∧ Hid (OwnL wr (N + 1) v (pickM l (l.take j))) ∧ Hid (Ahead l j N n wr) ∧ Hid (N < wr.heap.size) ∧ Hid (Below w.heap.size w wr)) (fun _ i _ => n - (intOf i).toNat)
  case atStart => exact ⟨0, 0, by omega, by omega, rfl, ⟨none, 0, rfl⟩, M2, L2, S2, Z2, B2⟩
  case round =>
    clear S2 B2 L2 M2 Z2
    obtain ⟨j, m, hj, hmj, rfl, ⟨aoL, capL, rfl⟩, hm, hown, hset, hz, hbel⟩ := hrel
    by_cases hjn : j < n
    rotate_left
    · have q3 : decide (j < n) = false := by simpa using hjn
      have hkk : l.take j = l := List.take_of_length_le (by have := HN.out; omega)
      rw [hkk] at hown
      clear hkk hm hset
      have SX := Lib.hid (SO.out _ _ _ hown.out hz.out)
      clear SO
      go_wp2_with fail
      refine SX.out.mono ?_
      rintro e w3 ⟨rfl, o3, b3⟩
      have O3 : Hid (OwnL w3 w.heap.size (.slice aoL m capL) R) := o3.base (Nat.le_succ_of_le HNW.out)
      have B3 := Lib.hid (hbel.out.trans (b3.mono (Nat.le_succ_of_le HNW.out)))
      clear o3 b3 SX hown
      go_wp2
      go_ret2
      exact ⟨_, rfl, O3.out, B3.out⟩
    have q3 : decide (j < n) = true := by simpa using hjn
    have q4 : (0 : Int) ≤ (j : Int) := by omega
    have q5 : (j : Int) < (n : Int) := by omega
    have hjl : j < l.length := by rw [← HN.out]; exact hjn
    obtain ⟨bb, oo, u, e, hbb, hru, h0, h1, h2, h3, h4⟩ := opl_at (HV.out w (Below.refl _ _)) j hjl
    subst e
    replace h0 := (hbel.out.cell (p := ⟨bb, oo + j * 5, none⟩) hbb).trans h0
    replace h1 := (hbel.out.cell (p := ⟨bb, oo + j * 5 + 1, none⟩) hbb).trans h1
    replace h2 := (hbel.out.cell (p := ⟨bb, oo + j * 5 + 2, none⟩) hbb).trans h2
    replace h3 := (hbel.out.cell (p := ⟨bb, oo + j * 5 + 3, none⟩) hbb).trans h3
    replace h4 := (hbel.out.cell (p := ⟨bb, oo + j * 5 + 4, none⟩) hbb).trans h4
    obtain ⟨x, hx⟩ : ∃ x, x = l[j]'hjl := ⟨_, rfl⟩
    rw [← hx] at hru h0 h1 h2 h4
    have RU : Hid (∀ W : World, Below w.heap.size w W → Runs W u x.pl) := fun W h => hru.keeps h
    have hxm : x ∈ l := by rw [hx]; exact List.getElem_mem _
    have hpx : x.pl.length ≤ 8796093022208 := by have := mayO_fits (HB.out.2.1 x hxm); omega
    have hst : l.take (j + 1) = l.take j ++ [x] := by rw [List.take_succ_eq_append_getElem hjl, hx]
    have FY : Hid (x.k = 2 → ended l (idO x) = false → pickM l (l.take (j + 1)) = pickM l (l.take j) ++ [x]) := fun h h2 => by rw [hst]; exact pick_yes h h2
    have FN : Hid (¬ (x.k = 2 ∧ ended l (idO x) = false) → pickM l (l.take (j + 1)) = pickM l (l.take j)) := fun h => by rw [hst]; exact pick_no h
    have TO : Hid (∀ W : World, Ahead l j N n W → N < W.heap.size → Calls Try.prog 58 #[.map (some N), .agg #[.int .u32 (x.t : Int), .int .u8 (x.r : Int)]] W fun e w' => e = .returned (.bool (ended l (idO x))) ∧ Ahead l (j + 1) N n w' ∧ Clocks.Apart N (N + 1) W w') := fun W ⟨S, s1, s2⟩ hW => by
      refine (takeOut_any (idO x) s1).mono ?_
      rintro e w' ⟨rfl, k1, k2⟩
      refine ⟨by rw [hx, s2 j hjl (Nat.le_refl _)], ⟨_, k1, fun i hi hji => ?_⟩, grown_apart (Nat.le_of_lt hW) k2⟩
      show (S _ && !decide _) = _
      rw [s2 i hi (by omega), hx, decide_eq_false (bag_ids HB.out hi hjl (by omega))]
      simp
    have TW : Hid (∀ W : World, Below w.heap.size w W → Calls Try.prog 55 #[opv x u] W fun e w' => ∃ ao cap, e = .returned (opv x (.slice ao x.pl.length cap)) ∧ w'.ownsRow W.heap.size 35 3 (.slice ao x.pl.length cap) x.pl.length (runs x.pl) ∧ Below W.heap.size W w') := fun W h => by
      refine (oTwin_any (hru.keeps h) hpx).mono ?_
      rintro e w' ⟨v', rfl, ho, hb⟩
      obtain ⟨ao', cap', rfl⟩ : ∃ ao cap, v' = .slice ao x.pl.length cap := Sees.shape (Sees.own ho)
      exact ⟨ao', cap', rfl, ho, hb⟩
    have HO : Hid (∀ v : Value, opv x v = .agg #[.int .u8 (x.k : Int), .int .u32 (x.t : Int), .int .u8 (x.r : Int), v, .int .i64 x.p]) := fun v => rfl
    obtain ⟨uo, uc, rfl⟩ := hru.shape
    obtain ⟨nu, hnu⟩ : ∃ n, n = x.pl.length := ⟨_, rfl⟩
    have HNU := Lib.hid hnu
    rw [← hnu] at h3 TW
    obtain ⟨q, hq⟩ : ∃ q, ended l (idO x) = q := ⟨_, rfl⟩
    rw [hq] at FY FN TO
    clear hru hx hxm hpx hst hnu hq RU
    obtain ⟨k, hk⟩ : ∃ z, x.k = z := ⟨_, rfl⟩
    obtain ⟨t, ht⟩ : ∃ z, x.t = z := ⟨_, rfl⟩
    obtain ⟨r, hr⟩ : ∃ z, x.r = z := ⟨_, rfl⟩
    obtain ⟨p, hp⟩ : ∃ z, x.p = z := ⟨_, rfl⟩
    have HFV : Hid (∀ v : Value, [.int .u8 (k : Int), .int .u32 (t : Int), .int .u8 (r : Int), v, .int .i64 p] = [Value.int .u8 (x.k : Int), .int .u32 (x.t : Int), .int .u8 (x.r : Int), v, .int .i64 x.p]) := fun v => by rw [hk, ht, hr, hp]
    rw [hk, ht, hr, hp] at HO
    simp only [HO.out] at TW
    rw [ht, hr] at TO
    rw [hk] at h0 FY FN
    rw [ht] at h1
    rw [hr] at h2
    rw [hp] at h4
    have BL : Hid (Below wr.heap.size wr (wr.alloc (.cells #[.int .u8 (k : Int), .int .u32 (t : Int), .int .u8 (r : Int), .slice uo nu uc, .int .i64 p] 39))) := (Below.refl _ _).alloc (Nat.le_refl _) _
    have BW := Lib.hid (bt hbel.out BL.out)
    have OW := Lib.hid (hown.out.keeps BL.out)
    have SW := Lib.hid (hset.out.keeps BL.out)
    have ZW : Hid (N < (wr.alloc (.cells #[.int .u8 (k : Int), .int .u32 (t : Int), .int .u8 (r : Int), .slice uo nu uc, .int .i64 p] 39)).heap.size) := Nat.lt_of_lt_of_le hz.out BL.out.size
    have X0 : Hid ((wr.alloc (.cells #[.int .u8 (k : Int), .int .u32 (t : Int), .int .u8 (r : Int), .slice uo nu uc, .int .i64 p] 39)).heap[wr.heap.size]? = some (.cells #[.int .u8 (k : Int), .int .u32 (t : Int), .int .u8 (r : Int), .slice uo nu uc, .int .i64 p] 39)) := blk_new rfl
    clear hk ht hr hp HO hown hset
    by_cases hk2 : k = 2
    rotate_left
    · have qk : ((k : Int) == 2) = false := by simp; omega
      have qk2 : decide ((k : Int) = 2) = false := decide_eq_false (by omega)
      have FT := Lib.hid (FN.out (fun h => hk2 h.1))
      have SN := Lib.hid SW.out.next
      rw [← FT.out] at OW hm
      clear FY FN FT TO TW hk2 SW X0 hbb hz
      go_wp2
      go_roundw
      case rel => exact ⟨j + 1, m, by omega, by omega, by go_num, ⟨_, _, rfl⟩, hm, OW, SN, ZW, BW⟩
      case measure => simp [intOf]; omega
    subst hk2
    have HF2 : Hid (∀ v : Value, [.int .u8 2, .int .u32 (t : Int), .int .u8 (r : Int), v, .int .i64 p] = [Value.int .u8 (x.k : Int), .int .u32 (x.t : Int), .int .u8 (x.r : Int), v, .int .i64 x.p]) := HFV.out
    go_wp2_with fail
    refine (TO.out _ SW.out ZW.out).mono ?_
    rintro e w3 ⟨rfl, s3, a3⟩
    have S3 := Lib.hid s3
    have O3 := Lib.hid (ownL_apart OW.out a3)
    have B3 := Lib.hid (BW.out.trans (a3.1.mono HNW.out))
    have Z3 : Hid (N < w3.heap.size) := Nat.lt_of_lt_of_le ZW.out a3.1.size
    have X3 : Hid (w3.heap[wr.heap.size]? = some (.cells #[.int .u8 2, .int .u32 (t : Int), .int .u8 (r : Int), .slice uo nu uc, .int .i64 p] 39)) := (a3.2 wr.heap.size hz.out (Array.getElem?_eq_some_iff.1 X0.out).1).trans X0.out
    clear s3 a3 OW SW BW ZW X0 TO BL hz hbb
    cases q
    rotate_left
    · have FT := Lib.hid (FN.out (by simp))
      rw [← FT.out] at O3 hm
      clear FY FN FT TW X3
      go_wp2
      go_roundw
      case rel => exact ⟨j + 1, m, by omega, by omega, by go_num, ⟨_, _, rfl⟩, hm, O3, S3, Z3, B3⟩
      case measure => simp [intOf]; omega
    have FT := Lib.hid (FY.out (by first | trivial | rfl) (by first | trivial | rfl))
    clear FY FN
    have c0 := cell_of_row _ _ 0 _ _ _ X3.out
    have c1 := cell_of_row _ _ 1 _ _ _ X3.out
    have c2 := cell_of_row _ _ 2 _ _ _ X3.out
    have c3 := cell_of_row _ _ 3 _ _ _ X3.out
    have c4 := cell_of_row _ _ 4 _ _ _ X3.out
    go_wp2_with fail
    clear c0 c1 c2 c3 c4 X3
    refine (TW.out _ B3.out).mono ?_
    rintro e w5 ⟨aoO, capO, rfl, o5, b5⟩
    have L5 := Lib.hid (O3.out.keeps b5)
    have B5 := Lib.hid (bt B3.out b5)
    have S5 := Lib.hid (S3.out.keeps b5)
    have Z5 : Hid (N < w5.heap.size) := Nat.lt_of_lt_of_le Z3.out b5.size
    obtain ⟨cs, lo, lh⟩ := L5.out
    rw [← hm.out] at lo
    have LO := Lib.hid lo
    have LH := Lib.hid lh
    have PO : Hid (w5.ownsRow (N + 1) 35 3 (.slice aoO nu capO) nu (runs x.pl)) := op_base o5 Z3.out
    have SE : Hid (Sees (w5.alloc (.cells #[.int .u8 2, .int .u32 (t : Int), .int .u8 (r : Int), .slice aoO nu capO, .int .i64 p] 39)) (.slice (some ⟨w5.heap.size, 0, none⟩) 1 1) 5 1 [.int .u8 2, .int .u32 (t : Int), .int .u8 (r : Int), .slice aoO nu capO, .int .i64 p]) := sees_new w5 [.int .u8 2, .int .u32 (t : Int), .int .u8 (r : Int), .slice aoO nu capO, .int .i64 p] 5 1 rfl (by omega) 39 (0, 0)
    have BX : Hid (Below w5.heap.size w5 (w5.alloc (.cells #[.int .u8 2, .int .u32 (t : Int), .int .u8 (r : Int), .slice aoO nu capO, .int .i64 p] 39))) := (Below.refl _ _).alloc (Nat.le_refl _) _
    have OA := Lib.hid (own_stays LO.out BX.out)
    have SA := Lib.hid (S5.out.keeps BX.out)
    have FO : ∀ z ∈ [Value.int .u8 2, .int .u32 (t : Int), .int .u8 (r : Int), .slice aoO nu capO, .int .i64 p], z.oneCell' = true := by rw [HF2.out]; exact five_one x _ ⟨_, _, _, rfl⟩
    have FO2 := Lib.hid FO
    have bz : N + 1 ≤ (w5.alloc (.cells #[.int .u8 2, .int .u32 (t : Int), .int .u8 (r : Int), .slice aoO nu capO, .int .i64 p] 39)).heap.size := Nat.le_trans Z5.out BX.out.size
    clear o5 b5 lo lh FO O3 B3 S3 L5 TW
    go_wp2_with (at_builtin; refine wpList_append_sees rfl (.tmp 32) (.tmp 35) 28 39 rfl Try.underlying28 op_info rfl (by decide) (N + 1) _ m cs rfl OA.out _ 1 [.int .u8 2, .int .u32 (t : Int), .int .u8 (r : Int), .slice aoO nu capO, .int .i64 p] rfl SE.out FO2.out ?k1 ?k2 ?k3 ?_)
    case k1 => omega
    case k2 => omega
    case k3 => exact bz
    rintro v6 w6 o6 g6 b6
    have L6 : Hid (OwnL w6 (N + 1) v6 (pickM l (l.take (j + 1)))) := by
      have lo2 := LO.out
      have o7 := o6
      rw [HF2.out] at o7
      have po := own_stays PO.out BX.out
      have gx := g6
      unfold Hid
      rw [FT.out]
      rw [HNU.out] at po o7
      rw [hm.out] at lo2 gx
      refine OwnL.snoc (W := w5) (W8 := w5.alloc (.cells #[.int .u8 2, .int .u32 (t : Int), .int .u8 (r : Int), .slice aoO nu capO, .int .i64 p] 39)) (m := m + 1) lo2 LH.out BX.out ?_ gx o7 (by rw [← hm.out])
      rw [HNU.out]
      exact po
    have M6 : Hid (m + 1 = (pickM l (l.take (j + 1))).length) := by unfold Hid; rw [FT.out, List.length_append, List.length_singleton, ← hm.out]
    have S6 : Hid (Ahead l (j + 1) N n w6) := by
      obtain ⟨S, s1, s2⟩ := SA.out
      exact ⟨S, by
        obtain ⟨D, d1, d2⟩ := s1
        obtain ⟨es, clock, hb, d3⟩ := d1
        refine ⟨D, ⟨es, clock, (b6.block N (Nat.lt_succ_self _)).trans hb, d3⟩, d2⟩, s2⟩
    have B6 : Hid (Below w.heap.size w w6) := (bt B5.out BX.out).trans (b6.mono (Nat.le_succ_of_le HNW.out))
    have Z6 : Hid (N < w6.heap.size) := Nat.lt_of_lt_of_le bz b6.size
    obtain ⟨va, vc, rfl⟩ : ∃ ao cap, v6 = .slice ao (m + 1) cap := Sees.shape (Sees.own o6)
    clear o6 g6 b6 OA SE LO LH PO B5 bz SA S5 Z5 BX FO2 HFV HF2 hm
    go_wp2
    go_roundw
    case rel => exact ⟨j + 1, m + 1, by omega, by omega, by go_num, ⟨va, vc, rfl⟩, M6, L6, S6, Z6, B6⟩
    case measure => simp [intOf]; omega
end Go.Proofs.Ytdgcokknaampdaa.Marks

/- octavo/home.Of, All, Ahead, Span: what each answers. Conditions: the slices' cells are operations, runs. -/
namespace Go.Proofs.Ytdgcokknaampdaa.Homes
open Go.RowKit Go.WideShapes Stamp Go.Proofs.Ytdgcokknaampdaa.Place Ops Codes Bags Marks
attribute [local go_sem ↓] Go.wp_at_zero Go.wp_at_succ
attribute [local go_sem] yielded_undef

theorem live_yes {l : List Opn} (h : Bag l) : liveL l = livesM l l := by unfold liveL; rw [(bagB_iff l).2 h]; rfl
theorem live_no {l : List Opn} (h : ¬ Bag l) : liveL l = [] := by unfold liveL; rw [bagB_no h]; rfl
set_option maxRecDepth 100000 in
set_option maxHeartbeats 4000000 in
theorem hOf_any {v u : Value} {l : List Opn} {p : List Run} {w : World} (hv : OpL w v l) (hu : Runs w u p) : Calls Try.prog 10 #[v, u] w (OneI (homeL l p) (homeE l p) w) := by
  obtain ⟨wl, hwl⟩ : ∃ x, x = w.alloc (.cells #[.int .u32 0, .int .u8 0] 24) := ⟨_, rfl⟩
  have X0 : Hid (wl.heap[w.heap.size]? = some (.cells #[.int .u32 0, .int .u8 0] 24)) := by rw [hwl]; exact blk_new rfl
  have B0 : Hid (Below w.heap.size w wl) := by rw [hwl]; exact (Below.refl _ _).alloc (Nat.le_refl _) _
  have LV : Hid (Calls Try.prog 28 #[v] wl (DoneN (liveL l) (chkL l) wl)) := mLive_any (hv.keeps B0.out)
  have CK : Hid (∀ W : World, Below w.heap.size w W → Calls Try.prog 32 #[u] W fun e w' => e = .returned (.int .i64 (Go.Proofs.Ytdgcokknaampdaa.Place.chk p)) ∧ Below W.heap.size W w') := fun W h => check_any (hu.keeps h)
  have BN : Hid (Bag l → anyB p = true → ∀ (W : World) (y : Value), OpL W y (livesM l l) → Below w.heap.size w W → Calls Try.prog 33 #[y, u, .func (.func 34) #[] #[]] W fun e w' => (∃ q : Bool, e = .returned (.tuple #[.int .i64 (cntM (livesM l l) p : Int), .bool q])) ∧ Below W.heap.size W w') := fun hb hp W y h h2 => hBin_any h (hu.keeps h2) (by have := (lives_fits hb).1; omega) (liv_bag hb) hp
  have NA : Hid (Bag l → ∀ (W : World) (y : Value), OpL W y (livesM l l) → Calls Try.prog 30 #[y, .int .i64 (cntM (livesM l l) p : Int)] W fun e w' => e = .returned (.agg #[.int .u32 ((homeM (livesM l l) p).t : Int), .int .u8 ((homeM (livesM l l) p).r : Int)]) ∧ Below W.heap.size W w') := fun hb W y h => by
    rw [homeM_is (liv_bag hb)]
    exact hName_any h (by have := (lives_fits hb).1; omega) _ (cntM_le _ _)
  have HW := Lib.hid hwl
  obtain ⟨ua, uc, rfl⟩ := hu.shape
  have hum := hu.max
  clear hv hu hwl
  have BAD : Hid ((bagB l && anyB p) = false → homeL l p = zid ∧ homeE l p = 8) := fun h => by unfold homeL homeE; rw [h]; exact ⟨rfl, rfl⟩
  have GOOD : Hid ((bagB l && anyB p) = true → homeL l p = homeM (livesM l l) p ∧ homeE l p = 0) := fun h => by unfold homeL homeE; rw [h]; exact ⟨rfl, rfl⟩
  by_cases hb : Bag l
  rotate_left
  · obtain ⟨e1, e2⟩ := BAD.out (by rw [bagB_no hb]; rfl)
    rw [chkL_no hb, live_no hb] at LV
    rw [e1, e2]
    generalize p.length = np at *
    clear BAD GOOD BN NA CK hb e1 e2
    go_enter Try.func10, Try.ntmps10
    go_wp2_with fail
    rw [← HW.out]
    refine LV.out.mono ?_
    rintro e w1 ⟨v1, rfl, o1, b1⟩
    have B1 := Lib.hid (bt B0.out b1)
    have O1 := Lib.hid o1.opl
    have OB := Lib.hid (o1.base (b' := w.heap.size) B0.out.size)
    have X1 := Lib.hid (blk_below b1 X0.out)
    clear b1 o1 O1 OB X0 B0 HW LV
    have c0 := cell_of_row _ _ 0 _ _ _ X1.out
    have c1 := cell_of_row _ _ 1 _ _ _ X1.out
    have f0 : ∀ o, w1.frozen? ⟨w.heap.size, o, none⟩ = false := fun o => frz2 X1.out o
    have HF := Lib.hid (put2_same (.int .u32 0) (.int .u8 0) X1.out)
    have BF := Lib.hid (put2_below (.int .u32 0) (.int .u8 0) (Nat.le_refl w.heap.size) B1.out)
    obtain ⟨WF, hWF⟩ : ∃ WF, put2 w1 (w.heap.size) (.int .u32 0) (.int .u8 0) = WF := ⟨_, rfl⟩
    rw [hWF] at HF BF
    unfold put2 at hWF
    have HX := Lib.hid hWF
    clear hWF X1 B1
    go_wp2
    rw [HX.out]
    have e0 := cell_of_row _ _ 0 _ _ _ HF.out
    have e1 := cell_of_row _ _ 1 _ _ _ HF.out
    exact bodyPost_ret (v := .tuple #[.agg #[.int .u32 0, .int .u8 0], .int .i64 8]) (by simp [results, Try.results10, go_sem, e0, e1]) rfl ⟨rfl, BF.out⟩
  rw [(bagB_iff l).2 hb] at BAD GOOD
  rw [chkL_yes hb, live_yes hb] at LV
  have HPA : Hid (anyB p = (decide (p.length = 0) || mayB p)) := rfl
  by_cases hp : anyB p = true
  rotate_left
  · have hp' : anyB p = false := by simpa using hp
    obtain ⟨e1, e2⟩ := BAD.out (by rw [hp']; rfl)
    rw [e1, e2]
    have hA := HPA.out
    rw [hp'] at hA
    have hn0 : ¬ p.length = 0 := by
      intro h
      rw [h] at hA
      simp at hA
    have hmb : mayB p = false := by
      rw [decide_eq_false hn0, Bool.false_or] at hA
      exact hA.symm
    have hck : Go.Proofs.Ytdgcokknaampdaa.Place.chk p = 8 := by unfold Go.Proofs.Ytdgcokknaampdaa.Place.chk; rw [hmb]; rfl
    rw [hck] at CK
    obtain ⟨np, hnp⟩ : ∃ np, p.length = np := ⟨_, rfl⟩
    rw [hnp] at hn0 hum CK ⊢
    have t1 : decide ((0 : Int) < (np : Int)) = true := decide_eq_true (by omega)
    have t2 : decide (0 < np) = true := decide_eq_true (by omega)
    clear BAD GOOD BN NA HPA hb hp hp' e1 e2 hA hmb hck hnp
    go_enter Try.func10, Try.ntmps10
    go_wp2_with fail
    rw [← HW.out]
    refine LV.out.mono ?_
    rintro e w1 ⟨v1, rfl, o1, b1⟩
    have B1 := Lib.hid (bt B0.out b1)
    have O1 := Lib.hid o1.opl
    have OB := Lib.hid (o1.base (b' := w.heap.size) B0.out.size)
    have X1 := Lib.hid (blk_below b1 X0.out)
    clear b1 o1 O1 OB X0 B0 HW LV
    go_wp2_with fail
    refine (CK.out _ B1.out).mono ?_
    rintro e w2 ⟨rfl, b2⟩
    have B2 := Lib.hid (bt B1.out b2)
    have X2 := Lib.hid (blk_below b2 X1.out)
    clear b2 X1 B1 CK t1 t2
    have c0 := cell_of_row _ _ 0 _ _ _ X2.out
    have c1 := cell_of_row _ _ 1 _ _ _ X2.out
    have f0 : ∀ o, w2.frozen? ⟨w.heap.size, o, none⟩ = false := fun o => frz2 X2.out o
    have HF := Lib.hid (put2_same (.int .u32 0) (.int .u8 0) X2.out)
    have BF := Lib.hid (put2_below (.int .u32 0) (.int .u8 0) (Nat.le_refl w.heap.size) B2.out)
    obtain ⟨WF, hWF⟩ : ∃ WF, put2 w2 (w.heap.size) (.int .u32 0) (.int .u8 0) = WF := ⟨_, rfl⟩
    rw [hWF] at HF BF
    unfold put2 at hWF
    have HX := Lib.hid hWF
    clear hWF X2 B2
    go_wp2
    rw [HX.out]
    have e0 := cell_of_row _ _ 0 _ _ _ HF.out
    have e1 := cell_of_row _ _ 1 _ _ _ HF.out
    exact bodyPost_ret (v := .tuple #[.agg #[.int .u32 0, .int .u8 0], .int .i64 8]) (by simp [results, Try.results10, go_sem, e0, e1]) rfl ⟨rfl, BF.out⟩
  obtain ⟨e1, e2⟩ := GOOD.out (by rw [hp]; rfl)
  have BN2 := Lib.hid (BN.out hb hp)
  have NA2 := Lib.hid (NA.out hb)
  rw [e1, e2]
  have hk0 : ¬ p.length = 0 → Go.Proofs.Ytdgcokknaampdaa.Place.chk p = 0 := fun h => by
    have hA := HPA.out
    rw [hp, decide_eq_false h, Bool.false_or] at hA
    unfold Go.Proofs.Ytdgcokknaampdaa.Place.chk
    rw [← hA]
    rfl
  obtain ⟨⟨T, r, hT, hr⟩, hR⟩ : ∃ z, homeM (livesM l l) p = z := ⟨_, rfl⟩
  rw [hR] at NA2 ⊢
  simp only at NA2 ⊢
  obtain ⟨c, hc⟩ : ∃ c, Go.Proofs.Ytdgcokknaampdaa.Place.chk p = c := ⟨_, rfl⟩
  rw [hc] at CK hk0
  obtain ⟨V, hV⟩ : ∃ V, livesM l l = V := ⟨_, rfl⟩
  simp only [hV] at BN2 NA2 LV
  obtain ⟨K, hK⟩ : ∃ K, cntM V p = K := ⟨_, rfl⟩
  rw [hK] at BN2 NA2
  obtain ⟨np, hnp⟩ : ∃ np, p.length = np := ⟨_, rfl⟩
  rw [hnp] at hum CK BN2 hk0 ⊢
  clear BAD GOOD BN NA HPA hb hp e1 e2 hR hc hV hK hnp
  by_cases hz : np = 0
  · subst hz
    clear CK hk0
    go_enter Try.func10, Try.ntmps10
    go_wp2_with fail
    rw [← HW.out]
    refine LV.out.mono ?_
    rintro e w1 ⟨v1, rfl, o1, b1⟩
    have B1 := Lib.hid (bt B0.out b1)
    have O1 := Lib.hid o1.opl
    have OB := Lib.hid (o1.base (b' := w.heap.size) B0.out.size)
    have X1 := Lib.hid (blk_below b1 X0.out)
    clear b1 o1 OB X0 B0 HW LV
    go_wp2_with fail
    refine (BN2.out _ _ O1.out B1.out).mono ?_
    rintro e w2 ⟨⟨q, rfl⟩, b2⟩
    have B2 := Lib.hid (bt B1.out b2)
    have X2 := Lib.hid (blk_below b2 X1.out)
    have O2 := Lib.hid (O1.out.keeps b2)
    clear b2 X1 B1 O1 BN2
    go_wp2_with fail
    refine (NA2.out _ _ O2.out).mono ?_
    rintro e w3 ⟨rfl, b3⟩
    have B3 := Lib.hid (bt B2.out b3)
    have X3 := Lib.hid (blk_below b3 X2.out)
    clear b3 X2 B2 O2 NA2
    have c0 := cell_of_row _ _ 0 _ _ _ X3.out
    have c1 := cell_of_row _ _ 1 _ _ _ X3.out
    have f0 : ∀ o, w3.frozen? ⟨w.heap.size, o, none⟩ = false := fun o => frz2 X3.out o
    have HF := Lib.hid (put2_same (.int .u32 (T : Int)) (.int .u8 (r : Int)) X3.out)
    have BF := Lib.hid (put2_below (.int .u32 (T : Int)) (.int .u8 (r : Int)) (Nat.le_refl w.heap.size) B3.out)
    obtain ⟨WF, hWF⟩ : ∃ WF, put2 w3 (w.heap.size) (.int .u32 (T : Int)) (.int .u8 (r : Int)) = WF := ⟨_, rfl⟩
    rw [hWF] at HF BF
    unfold put2 at hWF
    have HX := Lib.hid hWF
    clear hWF X3 B3
    go_wp2
    rw [HX.out]
    have e0 := cell_of_row _ _ 0 _ _ _ HF.out
    have e1 := cell_of_row _ _ 1 _ _ _ HF.out
    exact bodyPost_ret (v := .tuple #[.agg #[.int .u32 (T : Int), .int .u8 (r : Int)], .int .i64 0]) (by simp [results, Try.results10, go_sem, e0, e1]) rfl ⟨rfl, BF.out⟩
  · obtain rfl := hk0 hz
    have t1 : decide ((0 : Int) < (np : Int)) = true := decide_eq_true (by omega)
    have t2 : decide (0 < np) = true := decide_eq_true (by omega)
    clear hk0
    go_enter Try.func10, Try.ntmps10
    go_wp2_with fail
    rw [← HW.out]
    refine LV.out.mono ?_
    rintro e w1 ⟨v1, rfl, o1, b1⟩
    have B1 := Lib.hid (bt B0.out b1)
    have O1 := Lib.hid o1.opl
    have OB := Lib.hid (o1.base (b' := w.heap.size) B0.out.size)
    have X1 := Lib.hid (blk_below b1 X0.out)
    clear b1 o1 OB X0 B0 HW LV
    go_wp2_with fail
    refine (CK.out _ B1.out).mono ?_
    rintro e w2 ⟨rfl, b2⟩
    have B2 := Lib.hid (bt B1.out b2)
    have X2 := Lib.hid (blk_below b2 X1.out)
    have O2 := Lib.hid (O1.out.keeps b2)
    clear b2 X1 B1 O1 CK t1 t2
    go_wp2_with fail
    refine (BN2.out _ _ O2.out B2.out).mono ?_
    rintro e w3 ⟨⟨q, rfl⟩, b3⟩
    have B3 := Lib.hid (bt B2.out b3)
    have X3 := Lib.hid (blk_below b3 X2.out)
    have O3 := Lib.hid (O2.out.keeps b3)
    clear b3 X2 B2 O2 BN2
    go_wp2_with fail
    refine (NA2.out _ _ O3.out).mono ?_
    rintro e w4 ⟨rfl, b4⟩
    have B4 := Lib.hid (bt B3.out b4)
    have X4 := Lib.hid (blk_below b4 X3.out)
    clear b4 X3 B3 O3 NA2
    have c0 := cell_of_row _ _ 0 _ _ _ X4.out
    have c1 := cell_of_row _ _ 1 _ _ _ X4.out
    have f0 : ∀ o, w4.frozen? ⟨w.heap.size, o, none⟩ = false := fun o => frz2 X4.out o
    have HF := Lib.hid (put2_same (.int .u32 (T : Int)) (.int .u8 (r : Int)) X4.out)
    have BF := Lib.hid (put2_below (.int .u32 (T : Int)) (.int .u8 (r : Int)) (Nat.le_refl w.heap.size) B4.out)
    obtain ⟨WF, hWF⟩ : ∃ WF, put2 w4 (w.heap.size) (.int .u32 (T : Int)) (.int .u8 (r : Int)) = WF := ⟨_, rfl⟩
    rw [hWF] at HF BF
    unfold put2 at hWF
    have HX := Lib.hid hWF
    clear hWF X4 B4
    go_wp2
    rw [HX.out]
    have e0 := cell_of_row _ _ 0 _ _ _ HF.out
    have e1 := cell_of_row _ _ 1 _ _ _ HF.out
    exact bodyPost_ret (v := .tuple #[.agg #[.int .u32 (T : Int), .int .u8 (r : Int)], .int .i64 0]) (by simp [results, Try.results10, go_sem, e0, e1]) rfl ⟨rfl, BF.out⟩

theorem sects_take_succ {live : List Opn} {j : Nat} (h : j < live.length + 1) : (sectsM live).take (j + 1) = (sectsM live).take j ++ [(sectsM live).getD j zid] := by
  have h2 : j < (sectsM live).length := by rw [sectsM_len]; exact h
  rw [List.take_succ_eq_append_getElem h2, getD_get h2]
set_option maxRecDepth 100000 in
set_option maxHeartbeats 4000000 in
theorem hAll_any {v : Value} {l : List Opn} {w : World} (hv : OpL w v l) : Calls Try.prog 15 #[v] w (AllI (allL l) (chkL l) w) := by
  have LV : Hid (Calls Try.prog 28 #[v] w (DoneN (liveL l) (chkL l) w)) := mLive_any hv
  clear hv
  by_cases hb : Bag l
  rotate_left
  · have e2 : allL l = [] := by unfold allL; rw [bagB_no hb]; rfl
    rw [e2]
    rw [chkL_no hb, live_no hb] at LV
    rw [chkL_no hb]
    clear e2 hb
    go_enter Try.func15, Try.ntmps15
    go_wp2_with fail
    refine LV.out.mono ?_
    rintro e w1 ⟨v1, rfl, o1, b1⟩
    have B1 := Lib.hid b1
    clear b1 o1 LV
    go_wp2
    go_ret2
    exact ⟨_, _, rfl, World.ownsRow_nil _ _ _ _, B1.out⟩
  have e2 : allL l = sectsM (livesM l l) := by unfold allL; rw [(bagB_iff l).2 hb]; rfl
  rw [e2]
  rw [chkL_yes hb, live_yes hb] at LV
  rw [chkL_yes hb]
  have hlen := (lives_fits hb).1
  obtain ⟨V, hV⟩ : ∃ V, livesM l l = V := ⟨_, rfl⟩
  rw [hV] at LV hlen ⊢
  have NA : Hid (∀ (W : World) (y : Value) (i : Nat), i < V.length + 1 → OpL W y V → Calls Try.prog 30 #[y, .int .i64 (i : Int)] W fun e w' => e = .returned (.agg #[.int .u32 (((sectsM V).getD i zid).t : Int), .int .u8 (((sectsM V).getD i zid).r : Int)]) ∧ Below W.heap.size W w') := fun W y i hi h => hName_any h (by omega) i (by omega)
  have TK : Hid (∀ j, j < V.length + 1 → (sectsM V).take (j + 1) = (sectsM V).take j ++ [(sectsM V).getD j zid]) := fun j h => sects_take_succ h
  have HN : Hid (V.length + 1 = (sectsM V).length) := (sectsM_len V).symm
  have T0 : Hid ((sectsM V).take 0 = []) := rfl
  have OS : Hid (∀ (W : World) (y : Value), OwnL W w.heap.size y V → OpL W y V ∧ ∃ ao cap, y = .slice ao V.length cap) := fun W y h => ⟨h.opl, h.opl.shape⟩
  obtain ⟨L, hL⟩ : ∃ z, sectsM V = z := ⟨_, rfl⟩
  simp only [hL] at NA TK HN T0 ⊢
  obtain ⟨n, hn⟩ : ∃ n, V.length = n := ⟨_, rfl⟩
  rw [hn] at NA TK HN OS hlen
  obtain ⟨N, hNN⟩ : ∃ N, n + 1 = N := ⟨_, rfl⟩
  rw [hNN] at NA TK HN
  have hNm : N ≤ 1025 := by omega
  have e0 : (n : Int) + 1 = (N : Int) := by omega
  have e1 : IntKind.i64.wrap (N : Int) = (N : Int) := IntWalk.i64_in _ (by omega)
  clear e2 hb hV hL hn hNN
  go_enter Try.func15, Try.ntmps15
  go_wp2_with fail
  refine LV.out.mono ?_
  rintro e w1 ⟨v1, rfl, o1, b1⟩
  obtain ⟨ol, ao, cap, rfl⟩ := OS.out _ _ o1
  have B1 := Lib.hid b1
  have V1 : Hid (∀ W : World, Below w1.heap.size w1 W → OpL W (.slice ao n cap) V) := fun W h => ol.keeps h
  have S0 : Hid (Shr idE 24 w1 w1 (.slice none 0 0) (L.take 0)) := by
    unfold Hid
    rw [T0.out]
    exact ⟨[], World.ownsRow_nil _ _ _ _, rfl⟩
  have M0 : Hid (0 = (L.take 0).length) := by unfold Hid; rw [T0.out]; rfl
  have Z1 : Hid (Below w1.heap.size w1 w1) := Below.refl _ _
  clear b1 o1 ol LV OS T0
  go_wp2
  go_loopw [6, 19] (fun v i wr => ∃ j : Nat, j ≤ N ∧ i = .int .i64 (j : Int) ∧ (∃ ao cap, v = .slice ao j cap) ∧ Hid (Shr idE 24 w1 wr v (L.take j)) ∧ Hid (Below w1.heap.size w1 wr)) (fun _ i _ => N - (intOf i).toNat)
  case atStart => exact ⟨0, by omega, rfl, ⟨_, _, rfl⟩, S0, Z1⟩
  case round =>
    clear S0 Z1 M0
    obtain ⟨j, hj, rfl, ⟨aoL, capL, rfl⟩, hshr, hbel⟩ := hrel
    by_cases hjn : j < N
    rotate_left
    · have q3 : decide (j < N) = false := by simpa using hjn
      have hkk : L.take j = L := List.take_of_length_le (by have := HN.out; omega)
      obtain rfl : j = N := by omega
      rw [hkk] at hshr
      have SO : Hid (OwnI wr w.heap.size (.slice aoL j capL) L) := op_base (OwnI.of hshr.out) B1.out.size
      have BE := Lib.hid (bt B1.out hbel.out)
      have HNL : Hid (∀ a c, Value.slice a j c = Value.slice a L.length c) := fun a c => by rw [HN.out]
      clear hkk hshr NA TK V1
      go_wp2
      go_ret2
      refine ⟨aoL, capL, ?_, ?_, BE.out⟩
      · rw [← HNL.out]; rfl
      · rw [← HNL.out]; exact SO.out
    have q3 : decide (j < N) = true := by simpa using hjn
    have NX := Lib.hid (NA.out wr _ j hjn (V1.out wr hbel.out))
    have FT := Lib.hid (TK.out j hjn)
    obtain ⟨x, hx⟩ : ∃ x, L.getD j zid = x := ⟨_, rfl⟩
    rw [hx] at NX FT
    have INN : Hid (idE.inn w1 [.int .u32 (x.t : Int), .int .u8 (x.r : Int)] x) := rfl
    have HM : Hid (j = (L.take j).length) := by unfold Hid; rw [List.length_take, ← HN.out]; omega
    obtain ⟨t, ht⟩ : ∃ z, x.t = z := ⟨_, rfl⟩
    obtain ⟨r, hr⟩ : ∃ z, x.r = z := ⟨_, rfl⟩
    rw [ht, hr] at INN NX
    clear hx ht hr
    go_wp2_with fail
    refine NX.out.mono ?_
    rintro e wq ⟨rfl, bq⟩
    have SQ := Lib.hid (hshr.out.keeps bq)
    have BQ := Lib.hid (bt hbel.out bq)
    have HZ : Hid (w1.heap.size ≤ wq.heap.size) := BQ.out.size
    clear bq hshr hbel NX
    go_wp2_with (at_builtin; refine wpList_append_enc (E := idE) Try.underlying42 id_info rfl (w0 := w1) (wp := wq) (by rfl) (.tmp 22) (.tmp 26) (by rfl) (by rfl) SQ.out (G := wq.heap.size) (by rfl) rfl (c := #[.int .u32 (t : Int), .int .u8 (r : Int)]) INN.out HM.out (by omega) (by omega) HZ.out ?_)
    rintro v6 w6 s6 va vc rfl b6
    have S6 := Lib.hid s6
    rw [← FT.out] at S6
    have B6 := Lib.hid (BQ.out.trans b6)
    clear s6 b6 SQ BQ
    go_wp2
    go_roundw
    case rel => exact ⟨j + 1, by omega, by go_num, ⟨va, vc, rfl⟩, S6, B6⟩
    case measure => simp [intOf]; omega
set_option maxRecDepth 100000 in
set_option maxHeartbeats 4000000 in
theorem hAhead_any {v : Value} {l : List Opn} (s : Id) {w : World} (hv : OpL w v l) : Calls Try.prog 7 #[v, .agg #[.int .u32 (s.t : Int), .int .u8 (s.r : Int)]] w (OneI (aheadL l s) (aheadE l s) w) := by
  obtain ⟨wb, hwb⟩ : ∃ x, x = w.alloc (.cells #[.int .u32 (s.t : Int), .int .u8 (s.r : Int)] 24) := ⟨_, rfl⟩
  obtain ⟨wl, hwl⟩ : ∃ x, x = wb.alloc (.cells #[.int .u32 0, .int .u8 0] 24) := ⟨_, rfl⟩
  have hsz : wb.heap.size = w.heap.size + 1 := by rw [hwb]; exact Array.size_push _
  have X0 : Hid (wl.heap[w.heap.size + 1]? = some (.cells #[.int .u32 0, .int .u8 0] 24)) := by rw [hwl, ← hsz]; exact blk_new rfl
  have Bb : Below w.heap.size w wb := by rw [hwb]; exact (Below.refl _ _).alloc (Nat.le_refl _) _
  have Y0 : Hid (wl.heap[w.heap.size]? = some (.cells #[.int .u32 (s.t : Int), .int .u8 (s.r : Int)] 24)) := by
    have h1 : wb.heap[w.heap.size]? = some (.cells #[.int .u32 (s.t : Int), .int .u8 (s.r : Int)] 24) := by rw [hwb]; exact blk_new rfl
    rw [hwl]
    exact blk_below ((Below.refl _ _).alloc (Nat.le_refl _) _) h1
  have B0 : Hid (Below w.heap.size w wl) := by rw [hwl]; exact Bb.alloc (by omega) _
  have HW : Hid (wl = (w.alloc (.cells #[.int .u32 (s.t : Int), .int .u8 (s.r : Int)] 24)).alloc (.cells #[.int .u32 0, .int .u8 0] 24)) := by rw [hwl, hwb]; rfl
  have LV : Hid (Calls Try.prog 28 #[v] wl (DoneN (liveL l) (chkL l) wl)) := mLive_any (hv.keeps B0.out)
  have NU : Hid (Bag l → ∀ (W : World) (y : Value), OpL W y (livesM l l) → Calls Try.prog 29 #[y, .agg #[.int .u32 (s.t : Int), .int .u8 (s.r : Int)]] W fun e w' => NumI (whereM (livesM l l) s) e ∧ Below W.heap.size W w') := fun hb W y h => hNumber_any s h (by have := (lives_fits hb).1; omega)
  have NA : Hid (Bag l → ∀ (W : World) (y : Value) (i : Nat), i ≤ (livesM l l).length → OpL W y (livesM l l) → Calls Try.prog 30 #[y, .int .i64 (i : Int)] W fun e w' => e = .returned (.agg #[.int .u32 (((sectsM (livesM l l)).getD i zid).t : Int), .int .u8 (((sectsM (livesM l l)).getD i zid).r : Int)]) ∧ Below W.heap.size W w') := fun hb W y i hi h => hName_any h (by have := (lives_fits hb).1; omega) i hi
  clear hv hwl hwb Bb hsz
  by_cases hb : Bag l
  rotate_left
  · have e1 : aheadL l s = zid := by unfold aheadL; rw [bagB_no hb]; rfl
    have e2 : aheadE l s = 8 := by unfold aheadE; rw [bagB_no hb]; rfl
    rw [chkL_no hb, live_no hb] at LV
    rw [e1, e2]
    clear NU NA hb e1 e2
    go_enter Try.func7, Try.ntmps7
    go_wp2_with fail
    rw [← HW.out]
    refine LV.out.mono ?_
    rintro e w1 ⟨v1, rfl, o1, b1⟩
    have B1 := Lib.hid (bt B0.out b1)
    have O1 := Lib.hid o1.opl
    have OB := Lib.hid (o1.base (b' := w.heap.size) B0.out.size)
    have X1 := Lib.hid (blk_below b1 X0.out)
    clear b1 o1 O1 OB X0 Y0 B0 HW LV
    have c0 := cell_of_row _ _ 0 _ _ _ X1.out
    have c1 := cell_of_row _ _ 1 _ _ _ X1.out
    have f0 : ∀ o, w1.frozen? ⟨w.heap.size + 1, o, none⟩ = false := fun o => frz2 X1.out o
    have HF := Lib.hid (put2_same (.int .u32 0) (.int .u8 0) X1.out)
    have BF := Lib.hid (put2_below (.int .u32 0) (.int .u8 0) (Nat.le_add_right w.heap.size 1) B1.out)
    obtain ⟨WF, hWF⟩ : ∃ WF, put2 w1 (w.heap.size + 1) (.int .u32 0) (.int .u8 0) = WF := ⟨_, rfl⟩
    rw [hWF] at HF BF
    unfold put2 at hWF
    have HX := Lib.hid hWF
    clear hWF X1 B1
    go_wp2
    rw [HX.out]
    have e0 := cell_of_row _ _ 0 _ _ _ HF.out
    have e1 := cell_of_row _ _ 1 _ _ _ HF.out
    exact bodyPost_ret (v := .tuple #[.agg #[.int .u32 0, .int .u8 0], .int .i64 8]) (by simp [results, Try.results7, go_sem, e0, e1]) rfl ⟨rfl, BF.out⟩
  rw [chkL_yes hb, live_yes hb] at LV
  have NU2 := Lib.hid (NU.out hb)
  have NA2 := Lib.hid (NA.out hb)
  have hbb := (bagB_iff l).2 hb
  have hlen := (lives_fits hb).1
  clear NU NA hb
  obtain ⟨V, hV⟩ : ∃ z, livesM l l = z := ⟨_, rfl⟩
  have aL : aheadL l s = if 1 ≤ whereM V s then (sectsM V).getD (whereN V s - 1) zid else zid := by unfold aheadL; rw [hV, hbb]; simp
  have aE : aheadE l s = if 1 ≤ whereM V s then 0 else 130 := by unfold aheadE; rw [hV, hbb]; simp
  rw [hV] at LV NU2 NA2 hlen
  rw [aL, aE]
  clear aL aE hV hbb
  by_cases hx : 1 ≤ whereM V s
  rotate_left
  · rw [if_neg hx, if_neg hx]
    clear NA2
    by_cases hx0 : 0 ≤ whereM V s
    · have hw0 : whereM V s = 0 := by omega
      rw [hw0] at NU2
      have NI : Hid (∀ e, NumI 0 e → e = .returned (.tuple #[.int .i64 0, .bool true])) := fun e h => h
      clear hw0 hx hx0 hlen
      go_enter Try.func7, Try.ntmps7
      go_wp2_with fail
      rw [← HW.out]
      refine LV.out.mono ?_
      rintro e w1 ⟨v1, rfl, o1, b1⟩
      have B1 := Lib.hid (bt B0.out b1)
      have O1 := Lib.hid o1.opl
      have OB := Lib.hid (o1.base (b' := w.heap.size) B0.out.size)
      have Y1 := Lib.hid (blk_below b1 Y0.out)
      have X1 := Lib.hid (blk_below b1 X0.out)
      have d0 := cell_of_row _ _ 0 _ _ _ Y1.out
      have d1 := cell_of_row _ _ 1 _ _ _ Y1.out
      clear b1 o1 X0 Y0 B0 HW LV
      go_wp2_with fail
      refine (NU2.out _ _ O1.out).mono ?_
      rintro e w2 ⟨hnum, b2⟩
      obtain rfl := NI.out e hnum
      have B2 := Lib.hid (bt B1.out b2)
      have X2 := Lib.hid (blk_below b2 X1.out)
      have O2 := Lib.hid (OB.out.keeps b2)
      clear b2 hnum d0 d1 Y1 B1 O1 OB NU2 NI X1
      clear O2
      have c0 := cell_of_row _ _ 0 _ _ _ X2.out
      have c1 := cell_of_row _ _ 1 _ _ _ X2.out
      have f0 : ∀ o, w2.frozen? ⟨w.heap.size + 1, o, none⟩ = false := fun o => frz2 X2.out o
      have HF := Lib.hid (put2_same (.int .u32 0) (.int .u8 0) X2.out)
      have BF := Lib.hid (put2_below (.int .u32 0) (.int .u8 0) (Nat.le_add_right w.heap.size 1) B2.out)
      obtain ⟨WF, hWF⟩ : ∃ WF, put2 w2 (w.heap.size + 1) (.int .u32 0) (.int .u8 0) = WF := ⟨_, rfl⟩
      rw [hWF] at HF BF
      unfold put2 at hWF
      have HX := Lib.hid hWF
      clear hWF X2 B2
      go_wp2
      rw [HX.out]
      have e0 := cell_of_row _ _ 0 _ _ _ HF.out
      have e1 := cell_of_row _ _ 1 _ _ _ HF.out
      exact bodyPost_ret (v := .tuple #[.agg #[.int .u32 0, .int .u8 0], .int .i64 130]) (by simp [results, Try.results7, go_sem, e0, e1]) rfl ⟨rfl, BF.out⟩
    · obtain ⟨x, hxx⟩ : ∃ x, whereM V s = x := ⟨_, rfl⟩
      rw [hxx] at NU2 hx0
      have NI : Hid (∀ e, NumI x e → e = .returned (.tuple #[.int .i64 0, .bool false])) := fun e h => by
        unfold NumI at h
        rwa [if_neg hx0, decide_eq_false hx0] at h
      clear hxx hx hx0 hlen
      go_enter Try.func7, Try.ntmps7
      go_wp2_with fail
      rw [← HW.out]
      refine LV.out.mono ?_
      rintro e w1 ⟨v1, rfl, o1, b1⟩
      have B1 := Lib.hid (bt B0.out b1)
      have O1 := Lib.hid o1.opl
      have OB := Lib.hid (o1.base (b' := w.heap.size) B0.out.size)
      have Y1 := Lib.hid (blk_below b1 Y0.out)
      have X1 := Lib.hid (blk_below b1 X0.out)
      have d0 := cell_of_row _ _ 0 _ _ _ Y1.out
      have d1 := cell_of_row _ _ 1 _ _ _ Y1.out
      clear b1 o1 X0 Y0 B0 HW LV
      go_wp2_with fail
      refine (NU2.out _ _ O1.out).mono ?_
      rintro e w2 ⟨hnum, b2⟩
      obtain rfl := NI.out e hnum
      have B2 := Lib.hid (bt B1.out b2)
      have X2 := Lib.hid (blk_below b2 X1.out)
      have O2 := Lib.hid (OB.out.keeps b2)
      clear b2 hnum d0 d1 Y1 B1 O1 OB NU2 NI X1
      clear O2
      have c0 := cell_of_row _ _ 0 _ _ _ X2.out
      have c1 := cell_of_row _ _ 1 _ _ _ X2.out
      have f0 : ∀ o, w2.frozen? ⟨w.heap.size + 1, o, none⟩ = false := fun o => frz2 X2.out o
      have HF := Lib.hid (put2_same (.int .u32 0) (.int .u8 0) X2.out)
      have BF := Lib.hid (put2_below (.int .u32 0) (.int .u8 0) (Nat.le_add_right w.heap.size 1) B2.out)
      obtain ⟨WF, hWF⟩ : ∃ WF, put2 w2 (w.heap.size + 1) (.int .u32 0) (.int .u8 0) = WF := ⟨_, rfl⟩
      rw [hWF] at HF BF
      unfold put2 at hWF
      have HX := Lib.hid hWF
      clear hWF X2 B2
      go_wp2
      rw [HX.out]
      have e0 := cell_of_row _ _ 0 _ _ _ HF.out
      have e1 := cell_of_row _ _ 1 _ _ _ HF.out
      exact bodyPost_ret (v := .tuple #[.agg #[.int .u32 0, .int .u8 0], .int .i64 130]) (by simp [results, Try.results7, go_sem, e0, e1]) rfl ⟨rfl, BF.out⟩
  obtain ⟨j, hj, hjn, hjl⟩ := where_pos hx
  rw [if_pos hx, if_pos hx, hjn, Nat.add_sub_cancel]
  rw [hj] at NU2
  have NI : Hid (∀ e, NumI ((j : Int) + 1) e → e = .returned (.tuple #[.int .i64 ((j : Int) + 1), .bool true])) := fun e h => by
    unfold NumI at h
    rwa [if_pos (by omega), decide_eq_true (by omega)] at h
  rw [sectsM_len] at hjl
  have NX := Lib.hid (fun W y h => NA2.out W y j (by omega) h)
  obtain ⟨x, hxx⟩ : ∃ x, (sectsM V).getD j zid = x := ⟨_, rfl⟩
  rw [hxx] at NX ⊢
  obtain ⟨T, r, hT, hr⟩ := x
  simp only at NX ⊢
  have q1 : decide ((j : Int) + 1 = 0) = false := decide_eq_false (by omega)
  have q0 : ¬ ((j : Int) + 1 = 0) := by omega
  have q6 : (j : Int) + 1 - 1 = (j : Int) := by omega
  have q7 : IntKind.i64.wrap (j : Int) = (j : Int) := IntWalk.i64_in _ (by omega)
  clear NA2 hx hj hjn hjl hlen hxx
  go_enter Try.func7, Try.ntmps7
  go_wp2_with fail
  rw [← HW.out]
  refine LV.out.mono ?_
  rintro e w1 ⟨v1, rfl, o1, b1⟩
  have B1 := Lib.hid (bt B0.out b1)
  have O1 := Lib.hid o1.opl
  have OB := Lib.hid (o1.base (b' := w.heap.size) B0.out.size)
  have Y1 := Lib.hid (blk_below b1 Y0.out)
  have X1 := Lib.hid (blk_below b1 X0.out)
  have d0 := cell_of_row _ _ 0 _ _ _ Y1.out
  have d1 := cell_of_row _ _ 1 _ _ _ Y1.out
  clear b1 o1 X0 Y0 B0 HW LV
  go_wp2_with fail
  refine (NU2.out _ _ O1.out).mono ?_
  rintro e w2 ⟨hnum, b2⟩
  obtain rfl := NI.out e hnum
  have B2 := Lib.hid (bt B1.out b2)
  have X2 := Lib.hid (blk_below b2 X1.out)
  have O2 := Lib.hid (OB.out.keeps b2)
  clear b2 hnum d0 d1 Y1 B1 O1 OB NU2 NI X1
  go_wp2_with fail
  refine (NX.out _ _ O2.out.opl).mono ?_
  rintro e w3 ⟨rfl, b3⟩
  have B3 := Lib.hid (bt B2.out b3)
  have X3 := Lib.hid (blk_below b3 X2.out)
  clear b3 X2 B2 O2 NX
  have c0 := cell_of_row _ _ 0 _ _ _ X3.out
  have c1 := cell_of_row _ _ 1 _ _ _ X3.out
  have f0 : ∀ o, w3.frozen? ⟨w.heap.size + 1, o, none⟩ = false := fun o => frz2 X3.out o
  have HF := Lib.hid (put2_same (.int .u32 (T : Int)) (.int .u8 (r : Int)) X3.out)
  have BF := Lib.hid (put2_below (.int .u32 (T : Int)) (.int .u8 (r : Int)) (Nat.le_add_right w.heap.size 1) B3.out)
  obtain ⟨WF, hWF⟩ : ∃ WF, put2 w3 (w.heap.size + 1) (.int .u32 (T : Int)) (.int .u8 (r : Int)) = WF := ⟨_, rfl⟩
  rw [hWF] at HF BF
  unfold put2 at hWF
  have HX := Lib.hid hWF
  clear hWF X3 B3
  go_wp2
  rw [HX.out]
  have e0 := cell_of_row _ _ 0 _ _ _ HF.out
  have e1 := cell_of_row _ _ 1 _ _ _ HF.out
  exact bodyPost_ret (v := .tuple #[.agg #[.int .u32 (T : Int), .int .u8 (r : Int)], .int .i64 0]) (by simp [results, Try.results7, go_sem, e0, e1]) rfl ⟨rfl, BF.out⟩
set_option maxRecDepth 100000 in
set_option maxHeartbeats 4000000 in
theorem hSpan_any {v : Value} {l : List Opn} (s : Id) {w : World} (hv : OpL w v l) : Calls Try.prog 9 #[v, .agg #[.int .u32 (s.t : Int), .int .u8 (s.r : Int)]] w (TwoR (fromL l s) (toL l s) (spanE l s) w) := by
  obtain ⟨wl, hwl⟩ : ∃ x, x = w.alloc (.cells #[.int .u32 (s.t : Int), .int .u8 (s.r : Int)] 24) := ⟨_, rfl⟩
  have Y0 : Hid (wl.heap[w.heap.size]? = some (.cells #[.int .u32 (s.t : Int), .int .u8 (s.r : Int)] 24)) := by rw [hwl]; exact blk_new rfl
  have B0 : Hid (Below w.heap.size w wl) := by rw [hwl]; exact (Below.refl _ _).alloc (Nat.le_refl _) _
  have HW := Lib.hid hwl
  have LV : Hid (Calls Try.prog 28 #[v] wl (DoneN (liveL l) (chkL l) wl)) := mLive_any (hv.keeps B0.out)
  have NU : Hid (Bag l → ∀ (W : World) (y : Value), OpL W y (livesM l l) → Calls Try.prog 29 #[y, .agg #[.int .u32 (s.t : Int), .int .u8 (s.r : Int)]] W fun e w' => NumI (whereM (livesM l l) s) e ∧ Below W.heap.size W w') := fun hb W y h => hNumber_any s h (by have := (lives_fits hb).1; omega)
  have BG : Hid (∀ (W : World) (y : Value) (V : List Opn) (i : Nat), V.length ≤ 1024 → i ≤ 1025 → OwnL W w.heap.size y V → Calls Try.prog 31 #[y, .int .i64 (i : Int)] W fun e w' => (∃ ao cap, e = .returned (.slice ao (beginM V i).length cap) ∧ W.ownsRow w.heap.size 35 3 (.slice ao (beginM V i).length cap) (beginM V i).length (runs (beginM V i))) ∧ w' = W) := fun W y V i h1 h2 h => hBegin_any h i (by omega)
  clear hv hwl
  by_cases hb : Bag l
  rotate_left
  · have e1 : fromL l s = [] := by unfold fromL; rw [bagB_no hb]; rfl
    have e2 : toL l s = [] := by unfold toL; rw [bagB_no hb]; rfl
    have e3 : spanE l s = 8 := by unfold spanE; rw [bagB_no hb]; rfl
    rw [chkL_no hb, live_no hb] at LV
    rw [e1, e2, e3]
    clear NU BG hb e1 e2 e3
    go_enter Try.func9, Try.ntmps9
    go_wp2_with fail
    rw [← HW.out]
    refine LV.out.mono ?_
    rintro e w1 ⟨v1, rfl, o1, b1⟩
    have B1 := Lib.hid (bt B0.out b1)
    have O1 := Lib.hid o1.opl
    have OB := Lib.hid (o1.base (b' := w.heap.size) B0.out.size)
    clear b1 o1 O1 OB Y0 B0 HW LV
    go_wp2
    exact bodyPost_ret (v := .tuple #[.slice none 0 0, .slice none 0 0, .int .i64 8]) (by simp [results, Try.results9, go_sem]) rfl ⟨_, _, rfl, World.ownsRow_nil _ _ _ _, World.ownsRow_nil _ _ _ _, B1.out⟩
  rw [chkL_yes hb, live_yes hb] at LV
  have NU2 := Lib.hid (NU.out hb)
  have hbb := (bagB_iff l).2 hb
  have hlen := (lives_fits hb).1
  clear NU hb
  obtain ⟨V, hV⟩ : ∃ z, livesM l l = z := ⟨_, rfl⟩
  have aF : fromL l s = if 0 ≤ whereM V s then beginM V (whereM V s) else [] := by unfold fromL; rw [hV, hbb]; simp
  have aT : toL l s = if 0 ≤ whereM V s then beginM V (whereM V s + 1) else [] := by unfold toL; rw [hV, hbb]; simp
  have aE : spanE l s = if 0 ≤ whereM V s then 0 else 130 := by unfold spanE; rw [hV, hbb]; simp
  rw [hV] at LV NU2 hlen
  rw [aF, aT, aE]
  have hlo := where_lo V s
  obtain ⟨x, hx⟩ : ∃ x, whereM V s = x := ⟨_, rfl⟩
  rw [hx] at NU2 hlo ⊢
  clear aF aT aE hV hbb hx
  by_cases hx : 0 ≤ x
  rotate_left
  · rw [if_neg hx, if_neg hx, if_neg hx]
    have NI : Hid (∀ e, NumI x e → e = .returned (.tuple #[.int .i64 0, .bool false])) := fun e h => by
      unfold NumI at h
      rwa [if_neg hx, decide_eq_false hx] at h
    clear BG hlen hlo hx
    go_enter Try.func9, Try.ntmps9
    go_wp2_with fail
    rw [← HW.out]
    refine LV.out.mono ?_
    rintro e w1 ⟨v1, rfl, o1, b1⟩
    have B1 := Lib.hid (bt B0.out b1)
    have O1 := Lib.hid o1.opl
    have OB := Lib.hid (o1.base (b' := w.heap.size) B0.out.size)
    have Y1 := Lib.hid (blk_below b1 Y0.out)
    have d0 := cell_of_row _ _ 0 _ _ _ Y1.out
    have d1 := cell_of_row _ _ 1 _ _ _ Y1.out
    clear b1 o1 Y0 B0 HW LV
    go_wp2_with fail
    refine (NU2.out _ _ O1.out).mono ?_
    rintro e w2 ⟨hnum, b2⟩
    obtain rfl := NI.out e hnum
    have B2 := Lib.hid (bt B1.out b2)
    have O2 := Lib.hid (OB.out.keeps b2)
    clear b2 hnum d0 d1 Y1 B1 O1 OB NU2 NI
    clear O2
    go_wp2
    exact bodyPost_ret (v := .tuple #[.slice none 0 0, .slice none 0 0, .int .i64 130]) (by simp [results, Try.results9, go_sem]) rfl ⟨_, _, rfl, World.ownsRow_nil _ _ _ _, World.ownsRow_nil _ _ _ _, B2.out⟩
  rw [if_pos hx, if_pos hx, if_pos hx]
  obtain ⟨k, rfl⟩ : ∃ k : Nat, x = (k : Int) := ⟨x.toNat, by omega⟩
  have NI : Hid (∀ e, NumI (k : Int) e → e = .returned (.tuple #[.int .i64 (k : Int), .bool true])) := fun e h => by
    unfold NumI at h
    rwa [if_pos hx, decide_eq_true hx] at h
  have ek : (k : Int) + 1 = ((k + 1 : Nat) : Int) := by omega
  have q2 : IntKind.i64.wrap ((k : Int) + 1) = (k : Int) + 1 := IntWalk.i64_in _ (by omega)
  have g1 := Lib.hid (fun W y h => BG.out W y V k hlen (by omega) h)
  have g2 := Lib.hid (fun W y h => BG.out W y V (k + 1) hlen (by omega) h)
  rw [← ek] at g2
  obtain ⟨F, hF⟩ : ∃ z, beginM V (k : Int) = z := ⟨_, rfl⟩
  obtain ⟨T, hT⟩ : ∃ z, beginM V ((k : Int) + 1) = z := ⟨_, rfl⟩
  simp only [hF] at g1 ⊢
  simp only [hT] at g2 ⊢
  clear BG hF hT hlen hlo hx ek
  go_enter Try.func9, Try.ntmps9
  go_wp2_with fail
  rw [← HW.out]
  refine LV.out.mono ?_
  rintro e w1 ⟨v1, rfl, o1, b1⟩
  have B1 := Lib.hid (bt B0.out b1)
  have O1 := Lib.hid o1.opl
  have OB := Lib.hid (o1.base (b' := w.heap.size) B0.out.size)
  have Y1 := Lib.hid (blk_below b1 Y0.out)
  have d0 := cell_of_row _ _ 0 _ _ _ Y1.out
  have d1 := cell_of_row _ _ 1 _ _ _ Y1.out
  clear b1 o1 Y0 B0 HW LV
  go_wp2_with fail
  refine (NU2.out _ _ O1.out).mono ?_
  rintro e w2 ⟨hnum, b2⟩
  obtain rfl := NI.out e hnum
  have B2 := Lib.hid (bt B1.out b2)
  have O2 := Lib.hid (OB.out.keeps b2)
  clear b2 hnum d0 d1 Y1 B1 O1 OB NU2 NI
  go_wp2_with fail
  refine (g1.out _ _ O2.out).mono ?_
  rintro e w3 ⟨⟨fo, fc, rfl, r3⟩, rfl⟩
  have R3 := Lib.hid r3
  clear r3 g1
  go_wp2_with fail
  refine (g2.out _ _ O2.out).mono ?_
  rintro e w4 ⟨⟨eo, ec, rfl, r4⟩, rfl⟩
  have R4 := Lib.hid r4
  clear r4 g2 O2
  go_wp2
  exact bodyPost_ret (v := .tuple #[.slice fo F.length fc, .slice eo T.length ec, .int .i64 0]) (by simp [results, Try.results9, go_sem]) rfl ⟨_, _, rfl, R3.out, R4.out, B2.out⟩
end Go.Proofs.Ytdgcokknaampdaa.Homes

/- octavo/bag.Same: what it answers. Conditions: the slices' cells are operations. -/
namespace Go.Proofs.Ytdgcokknaampdaa.Bags
open Go.RowKit Go.WideShapes Stamp Go.Proofs.Ytdgcokknaampdaa.Place Ops Codes
attribute [local go_sem ↓] Go.wp_at_zero Go.wp_at_succ

end Go.Proofs.Ytdgcokknaampdaa.Bags
