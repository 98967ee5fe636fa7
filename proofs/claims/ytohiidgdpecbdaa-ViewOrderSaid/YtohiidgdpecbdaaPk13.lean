/- octavo/marks.Live: what it answers. Conditions: the slice's cells are operations. -/
import Derived.WalkKit
import Derived.WalkSpells
import Derived.WalkLawsBesides
import Derived.RegionTactic
import Derived.Deep.DrawnRows
import Derived.Deep.QuietTactic
import Derived.BigQuiet
import Derived.Deep.DeepCutAuto
import Derived.IntWalk
import Derived.Deep.RegionHeld3
import Derived.Lib.Tables
import Derived.Laws.Bits64
import Derived.Test.YtohiidgdpecbdaaPk11
import Derived.Test.YtohiidgdpecbdaaPk08
import Derived.Test.YtohiidgdpecbdaaPk06
import Derived.Test.YtohiidgdpecbdaaPk12
import Derived.Test.YtohiidgdpecbdaaPk10
import Derived.Test.YtohiidgdpecbdaaPk01

namespace Go.Proofs.Ytohiidgdpecbdaa.Marks
open Go.RowKit Go.WideShapes Stamp Go.Proofs.Ytohiidgdpecbdaa.Place Ops Codes Bags
attribute [local go_sem ↓] Go.wp_at_zero Go.wp_at_succ

/-- The live marks of a list, in its order. -/
def pickM (L l : List Opn) : List Opn := l.filter (fun o => decide (o.k = 2) && !ended L (idO o))
theorem pick_yes {L l : List Opn} {x : Opn} (hk : x.k = 2) (he : ended L (idO x) = false) : pickM L (l ++ [x]) = pickM L l ++ [x] := by
  unfold pickM
  rw [List.filter_append, List.filter_cons_of_pos (by simp [hk, he])]
  rfl
theorem pick_no {L l : List Opn} {x : Opn} (h : ¬ (x.k = 2 ∧ ended L (idO x) = false)) : pickM L (l ++ [x]) = pickM L l := by
  unfold pickM
  rw [List.filter_append, List.filter_cons_of_neg (by simpa using h)]
  simp
theorem pick_is {l m : List Opn} (hl : Bag l) (hp : m.Perm (pickM l l)) (hs : m.Pairwise (fun a b => ¬ cmp b.pl a.pl < 0)) : livesM l l = m := by
  have hmem : ∀ y, y ∈ m ↔ y ∈ l ∧ y.k = 2 ∧ ended l (idO y) = false := fun y => by
    rw [hp.mem_iff]
    unfold pickM
    simp
  refine lives_ext hl (fun x hx => hl.2.1 x ((hmem x).1 hx).1) ?_ hmem
  have hd : m.Pairwise (fun a b => idO a ≠ idO b) := by
    refine (hp.pairwise_iff (fun {a b} h => Ne.symm h)).2 ?_
    unfold pickM
    exact (hl.2.2.imp (fun h => lessO_ne h)).filter _
  refine List.Pairwise.imp_of_mem ?_ (hs.and hd)
  intro a b ha hb h
  have h1 := (hmem a).1 ha
  have h2 := (hmem b).1 hb
  rcases mark_ne (hl.2.1 a h1.1) (hl.2.1 b h2.1) h1.2.1 h2.2.1 h.2 with h3 | h3
  · exact h3
  · exact absurd h3 h.1
theorem grown_apart {w w' : World} {N : Nat} (hN : N ≤ w.heap.size) (h : w.grownBy w' (some N)) : Clocks.Apart N (N + 1) w w' :=
  ⟨⟨h.os, h.tape, h.output, h.size, fun k hk => h.block k (by omega) (by intro e; injection e with e; omega)⟩, fun k h1 h2 => h.block k h2 (by intro e; injection e with e; omega)⟩
theorem holdP_apart {B H : Nat} {w w' : World} (ha : Clocks.Apart B H w w') : ∀ {cs : List Value} {l : List Opn}, HoldP w H cs l → HoldP w' H cs l
  | _, [], h => h
  | _, _ :: _, ⟨v, d, h1, h2, h3⟩ => ⟨v, d, h1, Clocks.own_apart h2 ha, holdP_apart ha h3⟩
theorem ownL_apart {B H : Nat} {w w' : World} {v : Value} {l : List Opn} (h : OwnL w H v l) (ha : Clocks.Apart B H w w') : OwnL w' H v l := by
  obtain ⟨cs, h1, h2⟩ := h
  exact ⟨cs, Clocks.own_apart h1 ha, holdP_apart ha h2⟩
/-- What is told of the map: of the stamps that are still to come it tells whether they are joined. -/
def Ahead (l : List Opn) (j : Nat) (N n : Nat) (wr : World) : Prop := ∃ S, SetI wr N n S ∧ ∀ (i : Nat) (h : i < l.length), j ≤ i → S (idO (l[i]'h)) = ended l (idO (l[i]'h))
theorem Ahead.keeps {l : List Opn} {j N n : Nat} {w w' : World} (h : Ahead l j N n w) (hb : Below w.heap.size w w') : Ahead l j N n w' := by
  obtain ⟨S, h1, h2⟩ := h
  exact ⟨S, h1.keeps hb, h2⟩
theorem Ahead.next {l : List Opn} {j N n : Nat} {w : World} (h : Ahead l j N n w) : Ahead l (j + 1) N n w := by
  obtain ⟨S, h1, h2⟩ := h
  exact ⟨S, h1, fun i hi hj => h2 i hi (by omega)⟩
theorem bag_ids {l : List Opn} (hl : Bag l) {i j : Nat} (hi : i < l.length) (hj : j < l.length) (h : j < i) : idO (l[i]'hi) ≠ idO (l[j]'hj) :=
  fun e => lessO_ne (List.pairwise_iff_getElem.1 hl.2.2 j i hj hi h) e.symm

set_option maxRecDepth 100000 in
set_option maxHeartbeats 8000000 in
theorem mLive_any {v : Value} {l : List Opn} {w : World} (hv : OpL w v l) : Calls Try.prog 24 #[v] w (DoneN (liveL l) (chkL l) w) := by
  have CK := Lib.hid (bCheck_any hv)
  obtain ⟨ao, cap, rfl⟩ := hv.shape
  obtain ⟨n, hn⟩ : ∃ n, n = l.length := ⟨_, rfl⟩
  have HV : Hid (∀ W : World, Below w.heap.size w W → OpL W (.slice ao l.length cap) l) := fun W h => hv.keeps h
  have HN := Lib.hid hn
  by_cases hbag : Bag l
  rotate_left
  · have e1 : chkL l = 8 := chkL_no hbag
    have e2 : liveL l = [] := by unfold liveL; rw [bagB_no hbag]; rfl
    rw [e1] at CK ⊢
    rw [e2]
    rw [← hn] at CK ⊢
    clear hv hn e1 e2
    go_enter Try.func24, Try.ntmps24
    go_wp2_with fail
    refine CK.out.mono ?_
    rintro e w1 ⟨rfl, b1⟩
    have B1 := Lib.hid b1
    clear b1
    go_wp2
    go_ret2
    exact ⟨_, rfl, OwnL.nil _ _, B1.out⟩
  have e1 : chkL l = 0 := chkL_yes hbag
  have e2 : liveL l = livesM l l := by unfold liveL; rw [(bagB_iff l).2 hbag]; rfl
  have HB := Lib.hid hbag
  rw [e1] at CK ⊢
  rw [e2]
  have JI : Hid (∀ W : World, Below w.heap.size w W → Calls Try.prog 43 #[.slice ao l.length cap] W fun e w' => e = .returned (.map (some W.heap.size)) ∧ Ahead l 0 W.heap.size n w' ∧ Below W.heap.size W w') := fun W h => by
    refine (joinedIn_any (hv.keeps h) hbag.2.1 hbag.1).mono ?_
    rintro e w' ⟨rfl, h1, h2⟩
    exact ⟨rfl, ⟨_, by rw [HN.out]; exact h1, fun _ _ _ => rfl⟩, h2⟩
  have SO : Hid (∀ (W : World) (v : Value) (base : Nat), OwnL W base v (pickM l l) → base ≤ W.heap.size → Calls Try.prog 46 #[v, .func (.func 47) #[] #[]] W fun e w' => e = .returned (.tuple #[]) ∧ OwnL w' base v (livesM l l) ∧ Below base W w') := fun W v base h hB => by
    refine (sortL_any h (fun o ho => anyB_may (mayO_parts (hbag.2.1 o (List.mem_filter.1 ho).1)).2.1) (by have h1 := hbag.1; have h2 : (pickM l l).length ≤ l.length := List.length_filter_le _ _; omega)).mono ?_
    rintro e w' ⟨rfl, l', h1, h2, h3, h4⟩
    rw [pick_is hbag h1 h2]
    exact ⟨rfl, h3, h4⟩
  have hnm : n ≤ 1024 := by rw [hn]; exact hbag.1
  obtain ⟨R, hR⟩ : ∃ z, livesM l l = z := ⟨_, rfl⟩
  rw [hR] at SO ⊢
  rw [← hn] at CK JI ⊢
  clear hv hn e1 e2 hR hbag
  go_enter Try.func24, Try.ntmps24
  go_wp2_with fail
  refine CK.out.mono ?_
  rintro e w1 ⟨rfl, b1⟩
  have B1 := Lib.hid b1
  clear b1 CK
  go_wp2_with fail
  refine (JI.out _ B1.out).mono ?_
  rintro e w2 ⟨rfl, s2, b2⟩
  obtain ⟨N, hN⟩ : ∃ N, w1.heap.size = N := ⟨_, rfl⟩
  have hNw : w.heap.size ≤ N := by rw [← hN]; exact B1.out.size
  have hN2 : N < w2.heap.size := by obtain ⟨S, h1, _⟩ := s2; rw [hN] at h1; exact h1.lt
  rw [hN] at s2
  have S2 := Lib.hid s2
  have B2 := Lib.hid (bt B1.out b2)
  have L2 : Hid (OwnL w2 (N + 1) (.slice none 0 0) (pickM l (l.take 0))) := OwnL.nil _ _
  have M2 : Hid (0 = (pickM l (l.take 0)).length) := rfl
  have Z2 := Lib.hid hN2
  rw [hN]
  clear s2 b2 hN hN2 B1 JI
  have HNW := Lib.hid hNw
  clear hNw
  go_wp2
  go_loopw [6, 18] (fun v i wr => ∃ j m : Nat, j ≤ n ∧ m ≤ j ∧ i = .int .i64 (j : Int) ∧ (∃ ao cap, v = .slice ao m cap) ∧ Hid (m = (pickM l (l.take j)).length) ∧ Hid (OwnL wr (N + 1) v (pickM l (l.take j))) ∧ Hid (Ahead l j N n wr) ∧ Hid (N < wr.heap.size) ∧ Hid (Below w.heap.size w wr)) (fun _ i _ => n - (intOf i).toNat)
  case atStart => exact ⟨0, 0, by omega, by omega, rfl, ⟨none, 0, rfl⟩, M2, L2, S2, Z2, B2⟩
  case round =>
    clear S2 B2 L2 M2 Z2
    obtain ⟨j, m, hj, hmj, rfl, ⟨aoL, capL, rfl⟩, hm, hown, hset, hz, hbel⟩ := hrel
    by_cases hjn : j < n
    rotate_left
    · have q3 : decide (j < n) = false := by simpa using hjn
      have hkk : l.take j = l := List.take_of_length_le (by have := HN.out; omega)
      rw [hkk] at hown
      clear hkk hm hset
      have SX := Lib.hid (SO.out _ _ _ hown.out hz.out)
      clear SO
      go_wp2_with fail
      refine SX.out.mono ?_
      rintro e w3 ⟨rfl, o3, b3⟩
      have O3 : Hid (OwnL w3 w.heap.size (.slice aoL m capL) R) := o3.base (Nat.le_succ_of_le HNW.out)
      have B3 := Lib.hid (hbel.out.trans (b3.mono (Nat.le_succ_of_le HNW.out)))
      clear o3 b3 SX hown
      go_wp2
      go_ret2
      exact ⟨_, rfl, O3.out, B3.out⟩
    have q3 : decide (j < n) = true := by simpa using hjn
    have q4 : (0 : Int) ≤ (j : Int) := by omega
    have q5 : (j : Int) < (n : Int) := by omega
    have hjl : j < l.length := by rw [← HN.out]; exact hjn
    obtain ⟨bb, oo, u, e, hbb, hru, h0, h1, h2, h3, h4⟩ := opl_at (HV.out w (Below.refl _ _)) j hjl
    subst e
    replace h0 := (hbel.out.cell (p := ⟨bb, oo + j * 5, none⟩) hbb).trans h0
    replace h1 := (hbel.out.cell (p := ⟨bb, oo + j * 5 + 1, none⟩) hbb).trans h1
    replace h2 := (hbel.out.cell (p := ⟨bb, oo + j * 5 + 2, none⟩) hbb).trans h2
    replace h3 := (hbel.out.cell (p := ⟨bb, oo + j * 5 + 3, none⟩) hbb).trans h3
    replace h4 := (hbel.out.cell (p := ⟨bb, oo + j * 5 + 4, none⟩) hbb).trans h4
    obtain ⟨x, hx⟩ : ∃ x, x = l[j]'hjl := ⟨_, rfl⟩
    rw [← hx] at hru h0 h1 h2 h4
    have RU : Hid (∀ W : World, Below w.heap.size w W → Runs W u x.pl) := fun W h => hru.keeps h
    have hxm : x ∈ l := by rw [hx]; exact List.getElem_mem _
    have hpx : x.pl.length ≤ 8796093022208 := by have := mayO_fits (HB.out.2.1 x hxm); omega
    have hst : l.take (j + 1) = l.take j ++ [x] := by rw [List.take_succ_eq_append_getElem hjl, hx]
    have FY : Hid (x.k = 2 → ended l (idO x) = false → pickM l (l.take (j + 1)) = pickM l (l.take j) ++ [x]) := fun h h2 => by rw [hst]; exact pick_yes h h2
    have FN : Hid (¬ (x.k = 2 ∧ ended l (idO x) = false) → pickM l (l.take (j + 1)) = pickM l (l.take j)) := fun h => by rw [hst]; exact pick_no h
    have TO : Hid (∀ W : World, Ahead l j N n W → N < W.heap.size → Calls Try.prog 44 #[.map (some N), .agg #[.int .u32 (x.t : Int), .int .u8 (x.r : Int)]] W fun e w' => e = .returned (.bool (ended l (idO x))) ∧ Ahead l (j + 1) N n w' ∧ Clocks.Apart N (N + 1) W w') := fun W ⟨S, s1, s2⟩ hW => by
      refine (takeOut_any (idO x) s1).mono ?_
      rintro e w' ⟨rfl, k1, k2⟩
      refine ⟨by rw [hx, s2 j hjl (Nat.le_refl _)], ⟨_, k1, fun i hi hji => ?_⟩, grown_apart (Nat.le_of_lt hW) k2⟩
      show (S _ && !decide _) = _
      rw [s2 i hi (by omega), hx, decide_eq_false (bag_ids HB.out hi hjl (by omega))]
      simp
    have TW : Hid (∀ W : World, Below w.heap.size w W → Calls Try.prog 45 #[opv x u] W fun e w' => ∃ ao cap, e = .returned (opv x (.slice ao x.pl.length cap)) ∧ w'.ownsRow W.heap.size 31 3 (.slice ao x.pl.length cap) x.pl.length (runs x.pl) ∧ Below W.heap.size W w') := fun W h => by
      refine (oTwin_any (hru.keeps h) hpx).mono ?_
      rintro e w' ⟨v', rfl, ho, hb⟩
      obtain ⟨ao', cap', rfl⟩ : ∃ ao cap, v' = .slice ao x.pl.length cap := Sees.shape (Sees.own ho)
      exact ⟨ao', cap', rfl, ho, hb⟩
    have HO : Hid (∀ v : Value, opv x v = .agg #[.int .u8 (x.k : Int), .int .u32 (x.t : Int), .int .u8 (x.r : Int), v, .int .i64 x.p]) := fun v => rfl
    obtain ⟨uo, uc, rfl⟩ := hru.shape
    obtain ⟨nu, hnu⟩ : ∃ n, n = x.pl.length := ⟨_, rfl⟩
    have HNU := Lib.hid hnu
    rw [← hnu] at h3 TW
    obtain ⟨q, hq⟩ : ∃ q, ended l (idO x) = q := ⟨_, rfl⟩
    rw [hq] at FY FN TO
    clear hru hx hxm hpx hst hnu hq RU
    obtain ⟨k, hk⟩ : ∃ z, x.k = z := ⟨_, rfl⟩
    obtain ⟨t, ht⟩ : ∃ z, x.t = z := ⟨_, rfl⟩
    obtain ⟨r, hr⟩ : ∃ z, x.r = z := ⟨_, rfl⟩
    obtain ⟨p, hp⟩ : ∃ z, x.p = z := ⟨_, rfl⟩
    have HFV : Hid (∀ v : Value, [.int .u8 (k : Int), .int .u32 (t : Int), .int .u8 (r : Int), v, .int .i64 p] = [Value.int .u8 (x.k : Int), .int .u32 (x.t : Int), .int .u8 (x.r : Int), v, .int .i64 x.p]) := fun v => by rw [hk, ht, hr, hp]
    rw [hk, ht, hr, hp] at HO
    simp only [HO.out] at TW
    rw [ht, hr] at TO
    rw [hk] at h0 FY FN
    rw [ht] at h1
    rw [hr] at h2
    rw [hp] at h4
    have BL : Hid (Below wr.heap.size wr (wr.alloc (.cells #[.int .u8 (k : Int), .int .u32 (t : Int), .int .u8 (r : Int), .slice uo nu uc, .int .i64 p] 54))) := (Below.refl _ _).alloc (Nat.le_refl _) _
    have BW := Lib.hid (bt hbel.out BL.out)
    have OW := Lib.hid (hown.out.keeps BL.out)
    have SW := Lib.hid (hset.out.keeps BL.out)
    have ZW : Hid (N < (wr.alloc (.cells #[.int .u8 (k : Int), .int .u32 (t : Int), .int .u8 (r : Int), .slice uo nu uc, .int .i64 p] 54)).heap.size) := Nat.lt_of_lt_of_le hz.out BL.out.size
    have X0 : Hid ((wr.alloc (.cells #[.int .u8 (k : Int), .int .u32 (t : Int), .int .u8 (r : Int), .slice uo nu uc, .int .i64 p] 54)).heap[wr.heap.size]? = some (.cells #[.int .u8 (k : Int), .int .u32 (t : Int), .int .u8 (r : Int), .slice uo nu uc, .int .i64 p] 54)) := blk_new rfl
    clear hk ht hr hp HO hown hset
    by_cases hk2 : k = 2
    rotate_left
    · have qk : ((k : Int) == 2) = false := by simp; omega
      have qk2 : decide ((k : Int) = 2) = false := decide_eq_false (by omega)
      have FT := Lib.hid (FN.out (fun h => hk2 h.1))
      have SN := Lib.hid SW.out.next
      rw [← FT.out] at OW hm
      clear FY FN FT TO TW hk2 SW X0 hbb hz
      go_wp2
      go_roundw
      case rel => exact ⟨j + 1, m, by omega, by omega, by go_num, ⟨_, _, rfl⟩, hm, OW, SN, ZW, BW⟩
      case measure => simp [intOf]; omega
    subst hk2
    have HF2 : Hid (∀ v : Value, [.int .u8 2, .int .u32 (t : Int), .int .u8 (r : Int), v, .int .i64 p] = [Value.int .u8 (x.k : Int), .int .u32 (x.t : Int), .int .u8 (x.r : Int), v, .int .i64 x.p]) := HFV.out
    go_wp2_with fail
    refine (TO.out _ SW.out ZW.out).mono ?_
    rintro e w3 ⟨rfl, s3, a3⟩
    have S3 := Lib.hid s3
    have O3 := Lib.hid (ownL_apart OW.out a3)
    have B3 := Lib.hid (BW.out.trans (a3.1.mono HNW.out))
    have Z3 : Hid (N < w3.heap.size) := Nat.lt_of_lt_of_le ZW.out a3.1.size
    have X3 : Hid (w3.heap[wr.heap.size]? = some (.cells #[.int .u8 2, .int .u32 (t : Int), .int .u8 (r : Int), .slice uo nu uc, .int .i64 p] 54)) := (a3.2 wr.heap.size hz.out (Array.getElem?_eq_some_iff.1 X0.out).1).trans X0.out
    clear s3 a3 OW SW BW ZW X0 TO BL hz hbb
    cases q
    rotate_left
    · have FT := Lib.hid (FN.out (by simp))
      rw [← FT.out] at O3 hm
      clear FY FN FT TW X3
      go_wp2
      go_roundw
      case rel => exact ⟨j + 1, m, by omega, by omega, by go_num, ⟨_, _, rfl⟩, hm, O3, S3, Z3, B3⟩
      case measure => simp [intOf]; omega
    have FT := Lib.hid (FY.out (by first | trivial | rfl) (by first | trivial | rfl))
    clear FY FN
    have c0 := cell_of_row _ _ 0 _ _ _ X3.out
    have c1 := cell_of_row _ _ 1 _ _ _ X3.out
    have c2 := cell_of_row _ _ 2 _ _ _ X3.out
    have c3 := cell_of_row _ _ 3 _ _ _ X3.out
    have c4 := cell_of_row _ _ 4 _ _ _ X3.out
    go_wp2_with fail
    clear c0 c1 c2 c3 c4 X3
    refine (TW.out _ B3.out).mono ?_
    rintro e w5 ⟨aoO, capO, rfl, o5, b5⟩
    have L5 := Lib.hid (O3.out.keeps b5)
    have B5 := Lib.hid (bt B3.out b5)
    have S5 := Lib.hid (S3.out.keeps b5)
    have Z5 : Hid (N < w5.heap.size) := Nat.lt_of_lt_of_le Z3.out b5.size
    obtain ⟨cs, lo, lh⟩ := L5.out
    rw [← hm.out] at lo
    have LO := Lib.hid lo
    have LH := Lib.hid lh
    have PO : Hid (w5.ownsRow (N + 1) 31 3 (.slice aoO nu capO) nu (runs x.pl)) := op_base o5 Z3.out
    have SE : Hid (Sees (w5.alloc (.cells #[.int .u8 2, .int .u32 (t : Int), .int .u8 (r : Int), .slice aoO nu capO, .int .i64 p] 54)) (.slice (some ⟨w5.heap.size, 0, none⟩) 1 1) 5 1 [.int .u8 2, .int .u32 (t : Int), .int .u8 (r : Int), .slice aoO nu capO, .int .i64 p]) := sees_new w5 [.int .u8 2, .int .u32 (t : Int), .int .u8 (r : Int), .slice aoO nu capO, .int .i64 p] 5 1 rfl (by omega) 54 (0, 0)
    have BX : Hid (Below w5.heap.size w5 (w5.alloc (.cells #[.int .u8 2, .int .u32 (t : Int), .int .u8 (r : Int), .slice aoO nu capO, .int .i64 p] 54))) := (Below.refl _ _).alloc (Nat.le_refl _) _
    have OA := Lib.hid (own_stays LO.out BX.out)
    have SA := Lib.hid (S5.out.keeps BX.out)
    have FO : ∀ z ∈ [Value.int .u8 2, .int .u32 (t : Int), .int .u8 (r : Int), .slice aoO nu capO, .int .i64 p], z.oneCell' = true := by rw [HF2.out]; exact five_one x _ ⟨_, _, _, rfl⟩
    have FO2 := Lib.hid FO
    have bz : N + 1 ≤ (w5.alloc (.cells #[.int .u8 2, .int .u32 (t : Int), .int .u8 (r : Int), .slice aoO nu capO, .int .i64 p] 54)).heap.size := Nat.le_trans Z5.out BX.out.size
    clear o5 b5 lo lh FO O3 B3 S3 L5 TW
    go_wp2_with (at_builtin; refine wpList_append_sees rfl (.tmp 32) (.tmp 35) 22 54 rfl Try.underlying22 op_info rfl (by decide) (N + 1) _ m cs rfl OA.out _ 1 [.int .u8 2, .int .u32 (t : Int), .int .u8 (r : Int), .slice aoO nu capO, .int .i64 p] rfl SE.out FO2.out ?k1 ?k2 ?k3 ?_)
    case k1 => omega
    case k2 => omega
    case k3 => exact bz
    rintro v6 w6 o6 g6 b6
    have L6 : Hid (OwnL w6 (N + 1) v6 (pickM l (l.take (j + 1)))) := by
      have lo2 := LO.out
      have o7 := o6
      rw [HF2.out] at o7
      have po := own_stays PO.out BX.out
      have gx := g6
      unfold Hid
      rw [FT.out]
      rw [HNU.out] at po o7
      rw [hm.out] at lo2 gx
      refine OwnL.snoc (W := w5) (W8 := w5.alloc (.cells #[.int .u8 2, .int .u32 (t : Int), .int .u8 (r : Int), .slice aoO nu capO, .int .i64 p] 54)) (m := m + 1) lo2 LH.out BX.out ?_ gx o7 (by rw [← hm.out])
      rw [HNU.out]
      exact po
    have M6 : Hid (m + 1 = (pickM l (l.take (j + 1))).length) := by unfold Hid; rw [FT.out, List.length_append, List.length_singleton, ← hm.out]
    have S6 : Hid (Ahead l (j + 1) N n w6) := by
      obtain ⟨S, s1, s2⟩ := SA.out
      exact ⟨S, by
        obtain ⟨D, d1, d2⟩ := s1
        obtain ⟨es, clock, hb, d3⟩ := d1
        refine ⟨D, ⟨es, clock, (b6.block N (Nat.lt_succ_self _)).trans hb, d3⟩, d2⟩, s2⟩
    have B6 : Hid (Below w.heap.size w w6) := (bt B5.out BX.out).trans (b6.mono (Nat.le_succ_of_le HNW.out))
    have Z6 : Hid (N < w6.heap.size) := Nat.lt_of_lt_of_le bz b6.size
    obtain ⟨va, vc, rfl⟩ : ∃ ao cap, v6 = .slice ao (m + 1) cap := Sees.shape (Sees.own o6)
    clear o6 g6 b6 OA SE LO LH PO B5 bz SA S5 Z5 BX FO2 HFV HF2 hm
    go_wp2
    go_roundw
    case rel => exact ⟨j + 1, m + 1, by omega, by omega, by go_num, ⟨va, vc, rfl⟩, M6, L6, S6, Z6, B6⟩
    case measure => simp [intOf]; omega
end Go.Proofs.Ytohiidgdpecbdaa.Marks

/- octavo/home.Of, All, Ahead, Span: what each answers. Conditions: the slices' cells are operations, runs. -/
namespace Go.Proofs.Ytohiidgdpecbdaa.Homes
open Go.RowKit Go.WideShapes Stamp Go.Proofs.Ytohiidgdpecbdaa.Place Ops Codes Bags Marks
attribute [local go_sem ↓] Go.wp_at_zero Go.wp_at_succ
attribute [local go_sem] yielded_undef

theorem live_yes {l : List Opn} (h : Bag l) : liveL l = livesM l l := by unfold liveL; rw [(bagB_iff l).2 h]; rfl
theorem live_no {l : List Opn} (h : ¬ Bag l) : liveL l = [] := by unfold liveL; rw [bagB_no h]; rfl
theorem sects_take_succ {live : List Opn} {j : Nat} (h : j < live.length + 1) : (sectsM live).take (j + 1) = (sectsM live).take j ++ [(sectsM live).getD j zid] := by
  have h2 : j < (sectsM live).length := by rw [sectsM_len]; exact h
  rw [List.take_succ_eq_append_getElem h2, getD_get h2]
set_option maxRecDepth 100000 in
set_option maxHeartbeats 4000000 in
theorem hAll_any {v : Value} {l : List Opn} {w : World} (hv : OpL w v l) : Calls Try.prog 12 #[v] w (AllI (allL l) (chkL l) w) := by
  have LV : Hid (Calls Try.prog 24 #[v] w (DoneN (liveL l) (chkL l) w)) := mLive_any hv
  clear hv
  by_cases hb : Bag l
  rotate_left
  · have e2 : allL l = [] := by unfold allL; rw [bagB_no hb]; rfl
    rw [e2]
    rw [chkL_no hb, live_no hb] at LV
    rw [chkL_no hb]
    clear e2 hb
    go_enter Try.func12, Try.ntmps12
    go_wp2_with fail
    refine LV.out.mono ?_
    rintro e w1 ⟨v1, rfl, o1, b1⟩
    have B1 := Lib.hid b1
    clear b1 o1 LV
    go_wp2
    go_ret2
    exact ⟨_, _, rfl, World.ownsRow_nil _ _ _ _, B1.out⟩
  have e2 : allL l = sectsM (livesM l l) := by unfold allL; rw [(bagB_iff l).2 hb]; rfl
  rw [e2]
  rw [chkL_yes hb, live_yes hb] at LV
  rw [chkL_yes hb]
  have hlen := (lives_fits hb).1
  obtain ⟨V, hV⟩ : ∃ V, livesM l l = V := ⟨_, rfl⟩
  rw [hV] at LV hlen ⊢
  have NA : Hid (∀ (W : World) (y : Value) (i : Nat), i < V.length + 1 → OpL W y V → Calls Try.prog 25 #[y, .int .i64 (i : Int)] W fun e w' => e = .returned (.agg #[.int .u32 (((sectsM V).getD i zid).t : Int), .int .u8 (((sectsM V).getD i zid).r : Int)]) ∧ Below W.heap.size W w') := fun W y i hi h => hName_any h (by omega) i (by omega)
  have TK : Hid (∀ j, j < V.length + 1 → (sectsM V).take (j + 1) = (sectsM V).take j ++ [(sectsM V).getD j zid]) := fun j h => sects_take_succ h
  have HN : Hid (V.length + 1 = (sectsM V).length) := (sectsM_len V).symm
  have T0 : Hid ((sectsM V).take 0 = []) := rfl
  have OS : Hid (∀ (W : World) (y : Value), OwnL W w.heap.size y V → OpL W y V ∧ ∃ ao cap, y = .slice ao V.length cap) := fun W y h => ⟨h.opl, h.opl.shape⟩
  obtain ⟨L, hL⟩ : ∃ z, sectsM V = z := ⟨_, rfl⟩
  simp only [hL] at NA TK HN T0 ⊢
  obtain ⟨n, hn⟩ : ∃ n, V.length = n := ⟨_, rfl⟩
  rw [hn] at NA TK HN OS hlen
  obtain ⟨N, hNN⟩ : ∃ N, n + 1 = N := ⟨_, rfl⟩
  rw [hNN] at NA TK HN
  have hNm : N ≤ 1025 := by omega
  have e0 : (n : Int) + 1 = (N : Int) := by omega
  have e1 : IntKind.i64.wrap (N : Int) = (N : Int) := IntWalk.i64_in _ (by omega)
  clear e2 hb hV hL hn hNN
  go_enter Try.func12, Try.ntmps12
  go_wp2_with fail
  refine LV.out.mono ?_
  rintro e w1 ⟨v1, rfl, o1, b1⟩
  obtain ⟨ol, ao, cap, rfl⟩ := OS.out _ _ o1
  have B1 := Lib.hid b1
  have V1 : Hid (∀ W : World, Below w1.heap.size w1 W → OpL W (.slice ao n cap) V) := fun W h => ol.keeps h
  have S0 : Hid (Shr idE 29 w1 w1 (.slice none 0 0) (L.take 0)) := by
    unfold Hid
    rw [T0.out]
    exact ⟨[], World.ownsRow_nil _ _ _ _, rfl⟩
  have M0 : Hid (0 = (L.take 0).length) := by unfold Hid; rw [T0.out]; rfl
  have Z1 : Hid (Below w1.heap.size w1 w1) := Below.refl _ _
  clear b1 o1 ol LV OS T0
  go_wp2
  go_loopw [6, 19] (fun v i wr => ∃ j : Nat, j ≤ N ∧ i = .int .i64 (j : Int) ∧ (∃ ao cap, v = .slice ao j cap) ∧ Hid (Shr idE 29 w1 wr v (L.take j)) ∧ Hid (Below w1.heap.size w1 wr)) (fun _ i _ => N - (intOf i).toNat)
  case atStart => exact ⟨0, by omega, rfl, ⟨_, _, rfl⟩, S0, Z1⟩
  case round =>
    clear S0 Z1 M0
    obtain ⟨j, hj, rfl, ⟨aoL, capL, rfl⟩, hshr, hbel⟩ := hrel
    by_cases hjn : j < N
    rotate_left
    · have q3 : decide (j < N) = false := by simpa using hjn
      have hkk : L.take j = L := List.take_of_length_le (by have := HN.out; omega)
      obtain rfl : j = N := by omega
      rw [hkk] at hshr
      have SO : Hid (OwnI wr w.heap.size (.slice aoL j capL) L) := op_base (OwnI.of hshr.out) B1.out.size
      have BE := Lib.hid (bt B1.out hbel.out)
      have HNL : Hid (∀ a c, Value.slice a j c = Value.slice a L.length c) := fun a c => by rw [HN.out]
      clear hkk hshr NA TK V1
      go_wp2
      go_ret2
      refine ⟨aoL, capL, ?_, ?_, BE.out⟩
      · rw [← HNL.out]; rfl
      · rw [← HNL.out]; exact SO.out
    have q3 : decide (j < N) = true := by simpa using hjn
    have NX := Lib.hid (NA.out wr _ j hjn (V1.out wr hbel.out))
    have FT := Lib.hid (TK.out j hjn)
    obtain ⟨x, hx⟩ : ∃ x, L.getD j zid = x := ⟨_, rfl⟩
    rw [hx] at NX FT
    have INN : Hid (idE.inn w1 [.int .u32 (x.t : Int), .int .u8 (x.r : Int)] x) := rfl
    have HM : Hid (j = (L.take j).length) := by unfold Hid; rw [List.length_take, ← HN.out]; omega
    obtain ⟨t, ht⟩ : ∃ z, x.t = z := ⟨_, rfl⟩
    obtain ⟨r, hr⟩ : ∃ z, x.r = z := ⟨_, rfl⟩
    rw [ht, hr] at INN NX
    clear hx ht hr
    go_wp2_with fail
    refine NX.out.mono ?_
    rintro e wq ⟨rfl, bq⟩
    have SQ := Lib.hid (hshr.out.keeps bq)
    have BQ := Lib.hid (bt hbel.out bq)
    have HZ : Hid (w1.heap.size ≤ wq.heap.size) := BQ.out.size
    clear bq hshr hbel NX
    go_wp2_with (at_builtin; refine wpList_append_enc (E := idE) Try.underlying41 id_info rfl (w0 := w1) (wp := wq) (by rfl) (.tmp 22) (.tmp 26) (by rfl) (by rfl) SQ.out (G := wq.heap.size) (by rfl) rfl (c := #[.int .u32 (t : Int), .int .u8 (r : Int)]) INN.out HM.out (by omega) (by omega) HZ.out ?_)
    rintro v6 w6 s6 va vc rfl b6
    have S6 := Lib.hid s6
    rw [← FT.out] at S6
    have B6 := Lib.hid (BQ.out.trans b6)
    clear s6 b6 SQ BQ
    go_wp2
    go_roundw
    case rel => exact ⟨j + 1, by omega, by go_num, ⟨va, vc, rfl⟩, S6, B6⟩
    case measure => simp [intOf]; omega
set_option maxRecDepth 100000 in
set_option maxHeartbeats 4000000 in
theorem hSpan_any {v : Value} {l : List Opn} (s : Id) {w : World} (hv : OpL w v l) : Calls Try.prog 63 #[v, .agg #[.int .u32 (s.t : Int), .int .u8 (s.r : Int)]] w (TwoR (fromL l s) (toL l s) (spanE l s) w) := by
  obtain ⟨wl, hwl⟩ : ∃ x, x = w.alloc (.cells #[.int .u32 (s.t : Int), .int .u8 (s.r : Int)] 29) := ⟨_, rfl⟩
  have Y0 : Hid (wl.heap[w.heap.size]? = some (.cells #[.int .u32 (s.t : Int), .int .u8 (s.r : Int)] 29)) := by rw [hwl]; exact blk_new rfl
  have B0 : Hid (Below w.heap.size w wl) := by rw [hwl]; exact (Below.refl _ _).alloc (Nat.le_refl _) _
  have HW := Lib.hid hwl
  have LV : Hid (Calls Try.prog 24 #[v] wl (DoneN (liveL l) (chkL l) wl)) := mLive_any (hv.keeps B0.out)
  have NU : Hid (Bag l → ∀ (W : World) (y : Value), OpL W y (livesM l l) → Calls Try.prog 92 #[y, .agg #[.int .u32 (s.t : Int), .int .u8 (s.r : Int)]] W fun e w' => NumI (whereM (livesM l l) s) e ∧ Below W.heap.size W w') := fun hb W y h => hNumber_any s h (by have := (lives_fits hb).1; omega)
  have BG : Hid (∀ (W : World) (y : Value) (V : List Opn) (i : Nat), V.length ≤ 1024 → i ≤ 1025 → OwnL W w.heap.size y V → Calls Try.prog 93 #[y, .int .i64 (i : Int)] W fun e w' => (∃ ao cap, e = .returned (.slice ao (beginM V i).length cap) ∧ W.ownsRow w.heap.size 31 3 (.slice ao (beginM V i).length cap) (beginM V i).length (runs (beginM V i))) ∧ w' = W) := fun W y V i h1 h2 h => hBegin_any h i (by omega)
  clear hv hwl
  by_cases hb : Bag l
  rotate_left
  · have e1 : fromL l s = [] := by unfold fromL; rw [bagB_no hb]; rfl
    have e2 : toL l s = [] := by unfold toL; rw [bagB_no hb]; rfl
    have e3 : spanE l s = 8 := by unfold spanE; rw [bagB_no hb]; rfl
    rw [chkL_no hb, live_no hb] at LV
    rw [e1, e2, e3]
    clear NU BG hb e1 e2 e3
    go_enter Try.func63, Try.ntmps63
    go_wp2_with fail
    rw [← HW.out]
    refine LV.out.mono ?_
    rintro e w1 ⟨v1, rfl, o1, b1⟩
    have B1 := Lib.hid (bt B0.out b1)
    have O1 := Lib.hid o1.opl
    have OB := Lib.hid (o1.base (b' := w.heap.size) B0.out.size)
    clear b1 o1 O1 OB Y0 B0 HW LV
    go_wp2
    exact bodyPost_ret (v := .tuple #[.slice none 0 0, .slice none 0 0, .int .i64 8]) (by simp [results, Try.results63, go_sem]) rfl ⟨_, _, rfl, World.ownsRow_nil _ _ _ _, World.ownsRow_nil _ _ _ _, B1.out⟩
  rw [chkL_yes hb, live_yes hb] at LV
  have NU2 := Lib.hid (NU.out hb)
  have hbb := (bagB_iff l).2 hb
  have hlen := (lives_fits hb).1
  clear NU hb
  obtain ⟨V, hV⟩ : ∃ z, livesM l l = z := ⟨_, rfl⟩
  have aF : fromL l s = if 0 ≤ whereM V s then beginM V (whereM V s) else [] := by unfold fromL; rw [hV, hbb]; simp
  have aT : toL l s = if 0 ≤ whereM V s then beginM V (whereM V s + 1) else [] := by unfold toL; rw [hV, hbb]; simp
  have aE : spanE l s = if 0 ≤ whereM V s then 0 else 130 := by unfold spanE; rw [hV, hbb]; simp
  rw [hV] at LV NU2 hlen
  rw [aF, aT, aE]
  have hlo := where_lo V s
  obtain ⟨x, hx⟩ : ∃ x, whereM V s = x := ⟨_, rfl⟩
  rw [hx] at NU2 hlo ⊢
  clear aF aT aE hV hbb hx
  by_cases hx : 0 ≤ x
  rotate_left
  · rw [if_neg hx, if_neg hx, if_neg hx]
    have NI : Hid (∀ e, NumI x e → e = .returned (.tuple #[.int .i64 0, .bool false])) := fun e h => by
      unfold NumI at h
      rwa [if_neg hx, decide_eq_false hx] at h
    clear BG hlen hlo hx
    go_enter Try.func63, Try.ntmps63
    go_wp2_with fail
    rw [← HW.out]
    refine LV.out.mono ?_
    rintro e w1 ⟨v1, rfl, o1, b1⟩
    have B1 := Lib.hid (bt B0.out b1)
    have O1 := Lib.hid o1.opl
    have OB := Lib.hid (o1.base (b' := w.heap.size) B0.out.size)
    have Y1 := Lib.hid (blk_below b1 Y0.out)
    have d0 := cell_of_row _ _ 0 _ _ _ Y1.out
    have d1 := cell_of_row _ _ 1 _ _ _ Y1.out
    clear b1 o1 Y0 B0 HW LV
    go_wp2_with fail
    refine (NU2.out _ _ O1.out).mono ?_
    rintro e w2 ⟨hnum, b2⟩
    obtain rfl := NI.out e hnum
    have B2 := Lib.hid (bt B1.out b2)
    have O2 := Lib.hid (OB.out.keeps b2)
    clear b2 hnum d0 d1 Y1 B1 O1 OB NU2 NI
    clear O2
    go_wp2
    exact bodyPost_ret (v := .tuple #[.slice none 0 0, .slice none 0 0, .int .i64 130]) (by simp [results, Try.results63, go_sem]) rfl ⟨_, _, rfl, World.ownsRow_nil _ _ _ _, World.ownsRow_nil _ _ _ _, B2.out⟩
  rw [if_pos hx, if_pos hx, if_pos hx]
  obtain ⟨k, rfl⟩ : ∃ k : Nat, x = (k : Int) := ⟨x.toNat, by omega⟩
  have NI : Hid (∀ e, NumI (k : Int) e → e = .returned (.tuple #[.int .i64 (k : Int), .bool true])) := fun e h => by
    unfold NumI at h
    rwa [if_pos hx, decide_eq_true hx] at h
  have ek : (k : Int) + 1 = ((k + 1 : Nat) : Int) := by omega
  have q2 : IntKind.i64.wrap ((k : Int) + 1) = (k : Int) + 1 := IntWalk.i64_in _ (by omega)
  have g1 := Lib.hid (fun W y h => BG.out W y V k hlen (by omega) h)
  have g2 := Lib.hid (fun W y h => BG.out W y V (k + 1) hlen (by omega) h)
  rw [← ek] at g2
  obtain ⟨F, hF⟩ : ∃ z, beginM V (k : Int) = z := ⟨_, rfl⟩
  obtain ⟨T, hT⟩ : ∃ z, beginM V ((k : Int) + 1) = z := ⟨_, rfl⟩
  simp only [hF] at g1 ⊢
  simp only [hT] at g2 ⊢
  clear BG hF hT hlen hlo hx ek
  go_enter Try.func63, Try.ntmps63
  go_wp2_with fail
  rw [← HW.out]
  refine LV.out.mono ?_
  rintro e w1 ⟨v1, rfl, o1, b1⟩
  have B1 := Lib.hid (bt B0.out b1)
  have O1 := Lib.hid o1.opl
  have OB := Lib.hid (o1.base (b' := w.heap.size) B0.out.size)
  have Y1 := Lib.hid (blk_below b1 Y0.out)
  have d0 := cell_of_row _ _ 0 _ _ _ Y1.out
  have d1 := cell_of_row _ _ 1 _ _ _ Y1.out
  clear b1 o1 Y0 B0 HW LV
  go_wp2_with fail
  refine (NU2.out _ _ O1.out).mono ?_
  rintro e w2 ⟨hnum, b2⟩
  obtain rfl := NI.out e hnum
  have B2 := Lib.hid (bt B1.out b2)
  have O2 := Lib.hid (OB.out.keeps b2)
  clear b2 hnum d0 d1 Y1 B1 O1 OB NU2 NI
  go_wp2_with fail
  refine (g1.out _ _ O2.out).mono ?_
  rintro e w3 ⟨⟨fo, fc, rfl, r3⟩, rfl⟩
  have R3 := Lib.hid r3
  clear r3 g1
  go_wp2_with fail
  refine (g2.out _ _ O2.out).mono ?_
  rintro e w4 ⟨⟨eo, ec, rfl, r4⟩, rfl⟩
  have R4 := Lib.hid r4
  clear r4 g2 O2
  go_wp2
  exact bodyPost_ret (v := .tuple #[.slice fo F.length fc, .slice eo T.length ec, .int .i64 0]) (by simp [results, Try.results63, go_sem]) rfl ⟨_, _, rfl, R3.out, R4.out, B2.out⟩
end Go.Proofs.Ytohiidgdpecbdaa.Homes

/- Rows of numbers that are put in order where they stand: what stays, what comes to be in order. Conditions: none. -/
namespace Go.Proofs.Ytohiidgdpecbdaa.Srt

/-- Between a and b the same ones in whatever order; elsewhere nothing has turned. -/
structure Sw (a b : Nat) (xs ys : List Nat) : Prop where
  len : ys.length = xs.length
  out : ∀ i, i < a ∨ b ≤ i → ys.getD i 0 = xs.getD i 0
  tto : ∀ i, a ≤ i → i < b → ∃ j, a ≤ j ∧ j < b ∧ ys.getD i 0 = xs.getD j 0
  fro : ∀ j, a ≤ j → j < b → ∃ i, a ≤ i ∧ i < b ∧ xs.getD j 0 = ys.getD i 0
theorem Sw.refl (a b : Nat) (xs : List Nat) : Sw a b xs xs := ⟨rfl, fun _ _ => rfl, fun i h1 h2 => ⟨i, h1, h2, rfl⟩, fun j h1 h2 => ⟨j, h1, h2, rfl⟩⟩
theorem Sw.trans {a b : Nat} {xs ys zs : List Nat} (h : Sw a b xs ys) (k : Sw a b ys zs) : Sw a b xs zs := by
  refine ⟨k.len.trans h.len, fun i hi => (k.out i hi).trans (h.out i hi), fun i h1 h2 => ?_, fun j h1 h2 => ?_⟩
  · obtain ⟨p, p1, p2, p3⟩ := k.tto i h1 h2
    obtain ⟨q, q1, q2, q3⟩ := h.tto p p1 p2
    exact ⟨q, q1, q2, p3.trans q3⟩
  · obtain ⟨p, p1, p2, p3⟩ := h.fro j h1 h2
    obtain ⟨q, q1, q2, q3⟩ := k.fro p p1 p2
    exact ⟨q, q1, q2, p3.trans q3⟩
theorem Sw.mono {a b a' b' : Nat} {xs ys : List Nat} (h : Sw a b xs ys) (ha : a' ≤ a) (hb : b ≤ b') : Sw a' b' xs ys := by
  refine ⟨h.len, fun i hi => h.out i (by omega), fun i h1 h2 => ?_, fun j h1 h2 => ?_⟩
  · by_cases hi : a ≤ i ∧ i < b
    · obtain ⟨j, j1, j2, j3⟩ := h.tto i hi.1 hi.2
      exact ⟨j, by omega, by omega, j3⟩
    · exact ⟨i, h1, h2, h.out i (by omega)⟩
  · by_cases hj : a ≤ j ∧ j < b
    · obtain ⟨i, i1, i2, i3⟩ := h.fro j hj.1 hj.2
      exact ⟨i, by omega, by omega, i3⟩
    · exact ⟨j, h1, h2, (h.out j (by omega)).symm⟩
theorem Sw.all {a b : Nat} {xs ys : List Nat} (h : Sw a b xs ys) {P : Nat → Prop} (hp : ∀ i, a ≤ i → i < b → P (xs.getD i 0)) : ∀ i, a ≤ i → i < b → P (ys.getD i 0) := fun i h1 h2 => by
  obtain ⟨j, j1, j2, j3⟩ := h.tto i h1 h2
  rw [j3]
  exact hp j j1 j2
/-- Two exchanged: the value of j at i, then that of i at j. -/
def ex (xs : List Nat) (i j : Nat) : List Nat := (xs.set i (xs.getD j 0)).set j (xs.getD i 0)
theorem ex_len (xs : List Nat) (i j : Nat) : (ex xs i j).length = xs.length := by simp [ex]
theorem ex_get {xs : List Nat} {i j : Nat} (hi : i < xs.length) (hj : j < xs.length) (k : Nat) : (ex xs i j).getD k 0 = if k = j then xs.getD i 0 else if k = i then xs.getD j 0 else xs.getD k 0 := by
  unfold ex
  by_cases h1 : k = j
  · subst h1
    rw [if_pos rfl]
    simp only [List.getD, List.getElem?_set, List.length_set]
    simp [hj]
  · rw [if_neg h1]
    by_cases h2 : k = i
    · subst h2
      rw [if_pos rfl]
      simp only [List.getD, List.getElem?_set, List.length_set]
      simp [hi, show ¬ j = k from fun e => h1 e.symm]
    · rw [if_neg h2]
      simp only [List.getD, List.getElem?_set, List.length_set]
      simp [show ¬ j = k from fun e => h1 e.symm, show ¬ i = k from fun e => h2 e.symm]
theorem Sw.ex {a b i j : Nat} {xs : List Nat} (h1 : a ≤ i) (h2 : i < b) (h3 : a ≤ j) (h4 : j < b) (hb : b ≤ xs.length) : Sw a b xs (ex xs i j) := by
  have g := ex_get (xs := xs) (i := i) (j := j) (by omega) (by omega)
  refine ⟨ex_len _ _ _, fun k hk => ?_, fun k k1 k2 => ?_, fun k k1 k2 => ?_⟩
  · rw [g, if_neg (by omega), if_neg (by omega)]
  · by_cases e : k = j
    · exact ⟨i, h1, h2, by rw [g, if_pos e]⟩
    · by_cases e2 : k = i
      · exact ⟨j, h3, h4, by rw [g, if_neg e, if_pos e2]⟩
      · exact ⟨k, k1, k2, by rw [g, if_neg e, if_neg e2]⟩
  · by_cases e : k = i
    · exact ⟨j, h3, h4, by rw [g, if_pos rfl, e]⟩
    · by_cases e2 : k = j
      · refine ⟨i, h1, h2, ?_⟩
        rw [g]
        by_cases e3 : i = j
        · rw [if_pos e3, e2, e3]
        · rw [if_neg e3, if_pos rfl, e2]
      · exact ⟨k, k1, k2, by rw [g, if_neg e2, if_neg e]⟩

/-- In order between a and b. -/
def Inc (a b : Nat) (xs : List Nat) : Prop := ∀ i j, a ≤ i → i ≤ j → j < b → xs.getD i 0 ≤ xs.getD j 0
/-! ### Heaps -/
end Go.Proofs.Ytohiidgdpecbdaa.Srt

/- A row of 32-bit numbers of the call's own, put in order where it stands: its cells; cmp.Less. Conditions: none. -/
namespace Go.Proofs.Ytohiidgdpecbdaa.Srt
open Go.RowKit

def us (xs : List Nat) : List Value := xs.map fun (x : Nat) => .int .u32 (x : Int)
theorem us_len (xs : List Nat) : (us xs).length = xs.length := by simp [us]
theorem us_get (xs : List Nat) (j : Nat) (h : j < xs.length) : (us xs)[j]? = some (.int .u32 ((xs.getD j 0 : Nat) : Int)) := by
  simp [us, List.getD, List.getElem?_eq_getElem h]
theorem us_set (xs : List Nat) (k v : Nat) : us (xs.set k v) = (us xs).set k (.int .u32 (v : Int)) := by simp [us, List.map_set]
theorem us_append (xs ys : List Nat) : us (xs ++ ys) = us xs ++ us ys := by simp [us]
/-- The row. -/
def Row (w : World) (B g n cap : Nat) (xs : List Nat) : Prop := w.ownsRow B 27 1 (.slice (some ⟨g, 0, none⟩) n cap) n (us xs)
theorem Row.len {w : World} {B g n cap : Nat} {xs : List Nat} (h : Row w B g n cap xs) : xs.length = n := by
  have := h.1
  rw [us_len] at this
  omega
theorem Row.cell {w : World} {B g n cap : Nat} {xs : List Nat} (h : Row w B g n cap xs) (k : Nat) (hk : k < n) : w.cell? ⟨g, k, none⟩ = some (.int .u32 ((xs.getD k 0 : Nat) : Int)) := by
  have := World.ownsRow.cellAt h k (by omega)
  rw [this]
  exact us_get xs k (by rw [h.len]; exact hk)
theorem Row.lt {w : World} {B g n cap : Nat} {xs : List Nat} (h : Row w B g n cap xs) : g < w.heap.size := (World.ownsRow.lt h g rfl).2
theorem Row.base {w : World} {B g n cap : Nat} {xs : List Nat} (h : Row w B g n cap xs) : B ≤ g := (World.ownsRow.lt h g rfl).1
theorem Row.max {w : World} {B g n cap : Nat} {xs : List Nat} (h : Row w B g n cap xs) : n ≤ 9223372036854775807 := Sees.max (Sees.own h)
theorem Row.keeps {w w' : World} {B g n cap : Nat} {xs : List Nat} (h : Row w B g n cap xs) (hb : Below w.heap.size w w') : Row w' B g n cap xs := own_stays h hb
theorem grown_tr {a b c : World} {row : Option Nat} (h : a.grownBy b row) (k : b.grownBy c row) : a.grownBy c row :=
  ⟨k.os.trans h.os, k.tape.trans h.tape, k.output.trans h.output, Nat.le_trans h.size k.size, fun i hi hr => (k.block i (Nat.lt_of_lt_of_le hi h.size) hr).trans (h.block i hi hr)⟩
/-- Two exchanged. -/
theorem Row.ex {w : World} {B g n cap : Nat} {xs : List Nat} (h : Row w B g n cap xs) (i j : Nat) :
    Row ((w.setCell ⟨g, i, none⟩ (.int .u32 ((xs.getD j 0 : Nat) : Int))).setCell ⟨g, j, none⟩ (.int .u32 ((xs.getD i 0 : Nat) : Int))) B g n cap (ex xs i j) ∧
      w.grownBy ((w.setCell ⟨g, i, none⟩ (.int .u32 ((xs.getD j 0 : Nat) : Int))).setCell ⟨g, j, none⟩ (.int .u32 ((xs.getD i 0 : Nat) : Int))) (some g) := by
  have h1 := World.ownsRow.stored h i (.int .u32 ((xs.getD j 0 : Nat) : Int))
  have h2 := World.ownsRow.stored h1.1 j (.int .u32 ((xs.getD i 0 : Nat) : Int))
  refine ⟨?_, grown_tr h1.2 h2.2⟩
  show World.ownsRow _ _ _ _ _ _ _
  unfold Srt.ex
  rw [us_set, us_set]
  exact h2.1

end Go.Proofs.Ytohiidgdpecbdaa.Srt

/- slices.insertionSortOrdered over 32-bit numbers: it puts in order. Conditions: the row is the call's own. -/
namespace Go.Proofs.Ytohiidgdpecbdaa.Srt
open Go.RowKit
attribute [local go_sem ↓] Go.wp_at_zero Go.wp_at_succ

end Go.Proofs.Ytohiidgdpecbdaa.Srt

/- math/bits.Len of numbers up to 1024: how many digits they have. Conditions: as said. -/
namespace Go.Proofs.Ytohiidgdpecbdaa.Srt
open Go.RowKit
attribute [local go_sem ↓] Go.wp_at_zero Go.wp_at_succ

/-- k is how many binary digits x has. -/
def Dig (x k : Nat) : Prop := k ≤ 11 ∧ x < 2 ^ k ∧ (1 ≤ x → 2 ^ k ≤ 2 * x)
instance (x k : Nat) : Decidable (Dig x k) := inferInstanceAs (Decidable (_ ∧ _ ∧ _))
end Go.Proofs.Ytohiidgdpecbdaa.Srt

/- slices.Sort over 32-bit numbers, of at most twelve of them, and of none: it puts in order. Conditions: the row is the call's own. -/
namespace Go.Proofs.Ytohiidgdpecbdaa.Srt
open Go.RowKit
attribute [local go_sem ↓] Go.wp_at_zero Go.wp_at_succ

end Go.Proofs.Ytohiidgdpecbdaa.Srt

/- octavo/clock.inShort: what it answers. Conditions: the row is the call's own; its numbers are times; slices.Sort puts so many in order. -/
namespace Go.Proofs.Ytohiidgdpecbdaa.Clocks
open Go.RowKit Go.Proofs.Ytohiidgdpecbdaa.Spans
attribute [local go_sem ↓] Go.wp_at_zero Go.wp_at_succ

end Go.Proofs.Ytohiidgdpecbdaa.Clocks

/- octavo/clock: done with its closure, Join, Less, Add: what each answers. Conditions: the slices' cells are replicas' spans; no replica has more than 1024 spans in both together. -/
namespace Go.Proofs.Ytohiidgdpecbdaa.Clocks
open Go.RowKit Go.Proofs.Ytohiidgdpecbdaa.Spans
attribute [local go_sem ↓] Go.wp_at_zero Go.wp_at_succ

end Go.Proofs.Ytohiidgdpecbdaa.Clocks

/- octavo/clock: Join, Less, Add: what each answers. Conditions: the slices' cells are replicas' spans; no replica has more than 1024 spans in both together. -/
namespace Go.Proofs.Ytohiidgdpecbdaa.Clocks
open Go.RowKit Go.Proofs.Ytohiidgdpecbdaa.Spans
attribute [local go_sem ↓] Go.wp_at_zero Go.wp_at_succ

end Go.Proofs.Ytohiidgdpecbdaa.Clocks

/- octavo/clock.Of: the times that each replica has, kept in a map; what it answers. Conditions: the slice's cells are stamps; slices.Sort puts so many in order. -/
namespace Go.Proofs.Ytohiidgdpecbdaa.Clocks
open Go.RowKit Go.Proofs.Ytohiidgdpecbdaa.Spans Go.Proofs.Ytohiidgdpecbdaa.Srt
attribute [local go_sem ↓] Go.wp_at_zero Go.wp_at_succ

/-- The times that a replica has among stamps. -/
def trs (l : List Id) (r : Nat) : List Nat := (l.filter fun a => decide (a.r = r)).map (·.t)
theorem trs_snoc (l : List Id) (a : Id) (r : Nat) : trs (l ++ [a]) r = if a.r = r then trs l r ++ [a.t] else trs l r := by
  unfold trs
  rw [List.filter_append, List.map_append]
  by_cases h : a.r = r
  · simp [h]
  · simp [h]
def rowOf (M : Nat → Option Value) (r : Nat) : Value := (M r).getD (.slice none 0 0)
/-- A row for each replica that is asked for, each in a block of its own ahead of H; its map in block N, the map's place in block N + 1. -/
def Rws (N H : Nat) (M : Nat → Option Value) (f : Nat → List Nat) (from' : Nat) (wr : World) : Prop :=
  (∀ r, from' ≤ r → r < 256 → wr.ownsRow (N + 2) 27 1 (rowOf M r) (f r).length (us (f r))) ∧
  (∀ r q, r < 256 → q < 256 → r ≠ q → ∀ g, (rowOf M r).ownBlock = some g → (rowOf M q).ownBlock ≠ some g) ∧ (∀ r, r < 256 → ∀ g, (rowOf M r).ownBlock = some g → N + 2 ≤ g ∧ g < H)
theorem Rws.nil (N H : Nat) (l : List Id) (wr : World) : Rws N H (fun _ => none) (trs (l.take 0)) 0 wr :=
  ⟨fun r _ _ => World.ownsRow_nil _ _ _ _, fun r q _ _ _ g hg => by simp [rowOf, Value.ownBlock] at hg, fun r _ g hg => by simp [rowOf, Value.ownBlock] at hg⟩
theorem Rws.keeps {N H k : Nat} {M : Nat → Option Value} {f : Nat → List Nat} {w w' : World} (h : Rws N H M f k w) (hb : ∀ j, N + 2 ≤ j → j < H → w'.heap[j]? = w.heap[j]?) : Rws N H M f k w' := by
  refine ⟨fun r h1 h2 => ?_, h.2.1, h.2.2⟩
  have ho := h.1 r h1 h2
  refine ⟨ho.1, ?_⟩
  rcases ho.2 with h0 | ⟨g, cap, cur, h3, h4, hg, h5⟩
  · exact .inl h0
  · exact .inr ⟨g, cap, cur, h3, h4, (hb g h4 (h.2.2 r h2 g (by rw [h3]; rfl)).2).trans hg, h5⟩
/-- A stamp more. -/
theorem Rws.put {N H : Nat} {M : Nat → Option Value} {l : List Id} {k : Nat} {w4 w5 : World} (h : Rws N H M (trs (l.take k)) 0 w4) {x : Id} (hs : l.take (k + 1) = l.take k ++ [x]) (hx : x.r < 256) {v5 : Value}
    (o5 : w5.ownsRow (N + 2) 27 1 v5 ((trs (l.take k) x.r).length + 1) (us (trs (l.take k) x.r) ++ [.int .u32 (x.t : Int)])) (g5 : w4.grownBy w5 (rowOf M x.r).ownBlock) (hH : H ≤ w4.heap.size)
    (l5 : v5.ownBlock = (rowOf M x.r).ownBlock ∨ v5.ownBlock = some w4.heap.size) :
    Rws N w5.heap.size (fun j => if j = x.r then some v5 else M j) (trs (l.take (k + 1))) 0 w5 := by
  have e1 : rowOf (fun j => if j = x.r then some v5 else M j) x.r = v5 := by simp [rowOf]
  have e2 : ∀ q, q ≠ x.r → rowOf (fun j => if j = x.r then some v5 else M j) q = rowOf M q := fun q hq => by simp [rowOf, hq]
  refine ⟨fun r _ hr => ?_, fun r q hr hq hne g hg => ?_, fun r hr g hg => ?_⟩
  · rw [hs, trs_snoc]
    by_cases hrx : r = x.r
    · subst hrx
      rw [e1, if_pos rfl, us_append, List.length_append]
      exact o5
    · rw [e2 r hrx, if_neg (fun e => hrx e.symm)]
      refine (h.1 r (by omega) hr).kept g5 ?_
      by_cases hn : (rowOf M r).ownBlock = none
      · exact .inl hn
      · refine .inr (fun e => ?_)
        obtain ⟨g, hg⟩ := Option.ne_none_iff_exists'.1 hn
        exact h.2.1 r x.r hr hx hrx g hg (e ▸ hg)
  · by_cases hrx : r = x.r
    · subst hrx
      rw [e1] at hg
      rw [e2 q (fun e => hne e.symm)]
      intro hq2
      rcases l5 with h5 | h5
      · exact h.2.1 _ q hr hq hne g (by rw [← h5]; exact hg) hq2
      · rw [h5] at hg
        cases hg
        have := (h.2.2 q hq _ hq2).2
        omega
    · rw [e2 r hrx] at hg
      by_cases hqx : q = x.r
      · subst hqx
        rw [e1]
        intro hq2
        rcases l5 with h5 | h5
        · exact h.2.1 r _ hr hq hne g hg (by rw [← h5]; exact hq2)
        · rw [h5] at hq2
          cases hq2
          have := (h.2.2 r hr _ hg).2
          omega
      · rw [e2 q hqx]
        exact h.2.1 r q hr hq hne g hg
  · by_cases hrx : r = x.r
    · subst hrx
      rw [e1] at hg
      exact o5.lt g hg
    · rw [e2 r hrx] at hg
      have := h.2.2 r hr g hg
      have := g5.size
      omega

/-! ### What is told of a replica -/
/-! ### A map's steps in a region that draws -/
end Go.Proofs.Ytohiidgdpecbdaa.Clocks

/- slices.partialInsertionSortOrdered over 32-bit numbers: what it answers true of is in order. Conditions: the row is the call's own; what stands ahead of the range is no greater than any in it. -/
namespace Go.Proofs.Ytohiidgdpecbdaa.Srt
open Go.RowKit
attribute [local go_sem ↓] Go.wp_at_zero Go.wp_at_succ

/-- What stands ahead of the range is no greater than any in it. -/
def Pre (a b : Nat) (xs : List Nat) : Prop := 0 < a → ∀ k, a ≤ k → k < b → xs.getD (a - 1) 0 ≤ xs.getD k 0
theorem Pre.keep {a b : Nat} {xs ys : List Nat} (h : Pre a b xs) (s : Sw a b xs ys) : Pre a b ys := fun ha k h1 h2 => by
  rw [s.out (a - 1) (.inl (by omega))]
  exact s.all (P := fun v => xs.getD (a - 1) 0 ≤ v) (fun i i1 i2 => h ha i i1 i2) k h1 h2
end Go.Proofs.Ytohiidgdpecbdaa.Srt

/- slices: order2, median, medianAdjacent, choosePivot over 32-bit numbers: a place in the range; the row stays as it was. Conditions: the row is the call's own. -/
namespace Go.Proofs.Ytohiidgdpecbdaa.Srt
open Go.RowKit
attribute [local go_sem ↓] Go.wp_at_zero Go.wp_at_succ

end Go.Proofs.Ytohiidgdpecbdaa.Srt

/- slices.partitionOrdered over 32-bit numbers. Conditions: the row is the call's own; the pivot stands in the range. -/
namespace Go.Proofs.Ytohiidgdpecbdaa.Srt
open Go.RowKit
attribute [local go_sem ↓] Go.wp_at_zero Go.wp_at_succ

/-- What stands behind it: the place mid parts the range. -/
def Pt (a b mid : Nat) (ys : List Nat) : Prop := (∀ k, a ≤ k → k < mid → ys.getD k 0 < ys.getD mid 0) ∧ (∀ k, mid < k → k < b → ys.getD mid 0 ≤ ys.getD k 0)
end Go.Proofs.Ytohiidgdpecbdaa.Srt

/- slices.partitionEqualOrdered over 32-bit numbers. Conditions: the row is the call's own; the pivot stands in the range. -/
namespace Go.Proofs.Ytohiidgdpecbdaa.Srt
open Go.RowKit
attribute [local go_sem ↓] Go.wp_at_zero Go.wp_at_succ

end Go.Proofs.Ytohiidgdpecbdaa.Srt

/- slices: choosePivot and reverseRange over 32-bit numbers. Conditions: the row is the call's own; the range has more than twelve. -/
namespace Go.Proofs.Ytohiidgdpecbdaa.Srt
open Go.RowKit
attribute [local go_sem ↓] Go.wp_at_zero Go.wp_at_succ

end Go.Proofs.Ytohiidgdpecbdaa.Srt

/- slices: xorshift's Next, nextPowerOfTwo, breakPatterns over 32-bit numbers: exchanges within the range. Conditions: the row is the call's own. -/
namespace Go.Proofs.Ytohiidgdpecbdaa.Srt
open Go.RowKit
attribute [local go_sem ↓] Go.wp_at_zero Go.wp_at_succ

end Go.Proofs.Ytohiidgdpecbdaa.Srt

/- slices.siftDownOrdered, slices.heapSortOrdered over 32-bit numbers. Conditions: the row is the call's own. -/
namespace Go.Proofs.Ytohiidgdpecbdaa.Srt
open Go.RowKit
attribute [local go_sem ↓] Go.wp_at_zero Go.wp_at_succ

end Go.Proofs.Ytohiidgdpecbdaa.Srt

/- slices.heapSortOrdered over 32-bit numbers. Conditions: the row is the call's own. -/
namespace Go.Proofs.Ytohiidgdpecbdaa.Srt
open Go.RowKit
attribute [local go_sem ↓] Go.wp_at_zero Go.wp_at_succ

end Go.Proofs.Ytohiidgdpecbdaa.Srt

/- slices.pdqsortOrdered, slices.Sort over at most 1024 32-bit numbers: they put in order. Conditions: the row is the call's own. -/
namespace Go.Proofs.Ytohiidgdpecbdaa.Srt
open Go.RowKit
attribute [local go_sem ↓] Go.wp_at_zero Go.wp_at_succ

/-- Of two between a0 and b0 that do not both lie between a and b, the first is no greater. -/
def Dn (a0 b0 a b : Nat) (ys : List Nat) : Prop := ∀ i j, a0 ≤ i → i ≤ j → j < b0 → (i < a ∨ b ≤ j) → ys.getD i 0 ≤ ys.getD j 0
theorem Dn.keep {a0 b0 a b : Nat} {ys zs : List Nat} (h : Dn a0 b0 a b ys) (s : Sw a b ys zs) (hb : b ≤ b0) (ha : a0 ≤ a) : Dn a0 b0 a b zs := fun i j h1 h2 h3 h4 => by
  by_cases hi : a ≤ i ∧ i < b
  · have hj : b ≤ j := by omega
    rw [s.out j (.inr hj)]
    exact s.all (P := fun v => v ≤ ys.getD j 0) (fun k k1 k2 => h k j (by omega) (by omega) h3 (.inr hj)) i hi.1 hi.2
  · rw [s.out i (by omega)]
    by_cases hj : a ≤ j ∧ j < b
    · exact s.all (P := fun v => ys.getD i 0 ≤ v) (fun k k1 k2 => h i k h1 (by omega) (by omega) (.inl (by omega))) j hj.1 hj.2
    · rw [s.out j (by omega)]
      exact h i j h1 h2 h3 h4
theorem Dn.done {a0 b0 a b : Nat} {ys : List Nat} (h : Dn a0 b0 a b ys) (hi : Inc a b ys) : Inc a0 b0 ys := fun i j h1 h2 h3 => by
  by_cases hc : i < a ∨ b ≤ j
  · exact h i j h1 h2 h3 hc
  · exact hi i j (by omega) h2 (by omega)
end Go.Proofs.Ytohiidgdpecbdaa.Srt

/- octavo/bag.Ids: what it answers. Conditions: the slice's cells are operations. -/
namespace Go.Proofs.Ytohiidgdpecbdaa.Bags
open Go.RowKit Go.WideShapes Stamp Go.Proofs.Ytohiidgdpecbdaa.Place Ops Codes
attribute [local go_sem ↓] Go.wp_at_zero Go.wp_at_succ

end Go.Proofs.Ytohiidgdpecbdaa.Bags
