/- Five cells stored in a row that is known whole; rows of another kind stay; lists of operations in such a row. Conditions: none. -/
import Derived.Laws.MakeOwn
import Derived.Shelf.Abstract
import Derived.RangeFuncBox
import Derived.RangeFuncLeaves
import Derived.RangeFuncNested
import Derived.RangeFuncBound
import Derived.RangeFuncCalls
import Derived.OwnWalkIn
import Derived.TacticsInMore
import Derived.LoopNIn
import Derived.LoopIn
import Derived.Maps.Own
import Derived.Maps.OwnOps
import Derived.Maps.Views
import Derived.Test.YtpgdnenkjommfaaPk08
import Derived.Test.YtpgdnenkjommfaaPk05
import Derived.Test.YtpgdnenkjommfaaPk06
import Derived.Test.YtpgdnenkjommfaaPk01

namespace Go.Proofs.Ytpgdnenkjommfaa.Codes
open Go.RowKit Go.WideShapes Go.Proofs.Ytpgdnenkjommfaa.Place Ops

theorem splice_nil {α : Type} (L : List α) (o : Nat) : splice L o [] = L := by simp [splice]
theorem splice_cons {α : Type} (L : List α) (o : Nat) (v : α) (vs : List α) (h : o + (vs.length + 1) ≤ L.length) : splice L o (v :: vs) = splice (L.set o v) (o + 1) vs := by
  unfold splice
  have h1 : (L.set o v).take (o + 1) = L.take o ++ [v] := by
    rw [List.take_succ_eq_append_getElem (by simp; omega), List.take_set_of_le (Nat.le_refl _), List.getElem_set_self]
  have h2 : (L.set o v).drop (o + 1 + vs.length) = L.drop (o + (v :: vs).length) := by
    rw [List.drop_set_of_lt (by omega)]
    congr 1
    simp; omega
  rw [h1, h2]
  simp
theorem put_step {X : World} {g o : Nat} {cur : List Value} {t : TypeId} (d : Value) (h : X.heap[g]? = some (.cells cur.toArray t (0, 0))) :
    (X.setCell ⟨g, o, none⟩ d).heap[g]? = some (.cells (cur.set o d).toArray t (0, 0)) := by
  have := heap_setCell_same X g o _ _ d h
  simpa using this
theorem put5_copied {X : World} {g o : Nat} {cur : List Value} {t : TypeId} (d0 d1 d2 d3 d4 : Value) (h : X.heap[g]? = some (.cells cur.toArray t (0, 0))) (hl : o + 5 ≤ cur.length) :
    Copied X g cur o [d0, d1, d2, d3, d4] t (((((X.setCell ⟨g, o, none⟩ d0).setCell ⟨g, o + 1, none⟩ d1).setCell ⟨g, o + 2, none⟩ d2).setCell ⟨g, o + 3, none⟩ d3).setCell ⟨g, o + 4, none⟩ d4) := by
  refine ⟨?_, ?_, ?_, ?_⟩
  · have h5 := put_step d4 (o := o + 4) (put_step d3 (o := o + 3) (put_step d2 (o := o + 2) (put_step d1 (o := o + 1) (put_step d0 (o := o) h))))
    rw [h5, splice_cons _ _ _ _ (by simpa using hl), splice_cons _ _ _ _ (by simp; omega), splice_cons _ _ _ _ (by simp; omega), splice_cons _ _ _ _ (by simp; omega), splice_cons _ _ _ _ (by simp; omega), splice_nil]
  · intro k hk
    rw [heap_setCell_other _ _ _ _ hk, heap_setCell_other _ _ _ _ hk, heap_setCell_other _ _ _ _ hk, heap_setCell_other _ _ _ _ hk, heap_setCell_other _ _ _ _ hk]
  · simp
  · intro B hB
    exact (((((Below.refl B X).setCell (p := ⟨g, o, none⟩) hB _).setCell (p := ⟨g, o + 1, none⟩) hB _).setCell (p := ⟨g, o + 2, none⟩) hB _).setCell (p := ⟨g, o + 3, none⟩) hB _).setCell (p := ⟨g, o + 4, none⟩) hB _
/-- A row of another kind stays. -/
theorem own_copied {w w' : World} {base g sz n : Nat} {e t : TypeId} {v : Value} {cs cur cs' : List Value} {o : Nat} (h : w.ownsRow base e sz v n cs) (hg : w.heap[g]? = some (.cells cur.toArray t (0, 0))) (hne : t ≠ e) (hc : Copied w g cur o cs' t w') : w'.ownsRow base e sz v n cs := by
  refine ⟨h.1, h.2.imp id ?_⟩
  rintro ⟨b, cap, c2, e1, e2, e3, e4⟩
  refine ⟨b, cap, c2, e1, e2, ?_, e4⟩
  rw [hc.2.1 b (fun e => by
    subst e
    rw [hg] at e3
    injection e3 with e3
    injection e3 with e5 e6
    exact hne e6)]
  exact e3
theorem HoldP.copied {w w' : World} {base g : Nat} {cur cs' : List Value} {o : Nat} (hg : w.heap[g]? = some (.cells cur.toArray 27 (0, 0))) (hc : Copied w g cur o cs' 27 w') : ∀ {cs : List Value} {l : List Opn}, HoldP w base cs l → HoldP w' base cs l
  | _, [], h => h
  | _, _ :: _, ⟨v, d, h1, h2, h3⟩ => ⟨v, d, h1, own_copied h2 hg (by decide) hc, HoldP.copied hg hc h3⟩
theorem HoldP.len {w : World} {base : Nat} {cs : List Value} {l : List Opn} (h : HoldP w base cs l) : cs.length = l.length * 5 := Enc.rows_len (E := opE) h.rows
/-- A list in a row that is known whole. -/
theorem ownl_row {w : World} {base g cap : Nat} {cs d : List Value} {l : List Opn} {n : Nat} (hg : w.heap[g]? = some (.cells (cs ++ d).toArray 27 (0, 0))) (hb : base ≤ g) (h : HoldP w base cs l) (hn : n = l.length) (hc : (cs ++ d).length = cap * 5) (hm : cap ≤ maxLen) : OwnL w base (.slice (some ⟨g, 0, none⟩) n cap) l := by
  have hl := h.len
  subst hn
  refine ⟨cs, ⟨hl, .inr ⟨g, cap, _, rfl, hb, hg, ?_, hm, by simpa using hc, ?_⟩⟩, h⟩
  · rw [List.length_append, hl] at hc; omega
  · rw [← hl]; simp

/-! ### A list copied, its places made anew one by one -/
def TwR (w wr : World) (l : List Opn) (c0 : List Value) (j : Nat) : Prop :=
  ∃ A, HoldP wr w.heap.size A (l.take j) ∧ wr.heap[w.heap.size]? = some (.cells (A ++ c0.drop (j * 5)).toArray 27 (0, 0))
theorem twr_len {w wr : World} {l : List Opn} {j : Nat} {A : List Value} (h : HoldP wr w.heap.size A (l.take j)) (hj : j ≤ l.length) : A.length = j * 5 := by
  rw [h.len, List.length_take, Nat.min_eq_left hj]
theorem twr_at {w wr : World} {l : List Opn} {c0 : List Value} {j : Nat} (hc : opE.rows w c0 l) (h : TwR w wr l c0 j) (hj : j < l.length) :
    ∃ v, Runs w v (l[j]'hj).pl ∧ wr.cell? ⟨w.heap.size, j * 5, none⟩ = some (.int .u8 ((l[j]'hj).k : Int)) ∧ wr.cell? ⟨w.heap.size, j * 5 + 1, none⟩ = some (.int .u32 ((l[j]'hj).t : Int)) ∧ wr.cell? ⟨w.heap.size, j * 5 + 2, none⟩ = some (.int .u8 ((l[j]'hj).r : Int)) ∧
      wr.cell? ⟨w.heap.size, j * 5 + 3, none⟩ = some v ∧ wr.cell? ⟨w.heap.size, j * 5 + 4, none⟩ = some (.int .i64 (l[j]'hj).p) := by
  obtain ⟨A, h1, h2⟩ := h
  have hl := twr_len h1 (Nat.le_of_lt hj)
  obtain ⟨c, ⟨v, rfl, hr⟩, hcs⟩ := Enc.rows_at j hj hc
  have hcell : ∀ i u, i < 5 → ([Value.int .u8 ((l[j]'hj).k : Int), .int .u32 ((l[j]'hj).t : Int), .int .u8 ((l[j]'hj).r : Int), v, .int .i64 (l[j]'hj).p][i]? = some u) → wr.cell? ⟨w.heap.size, j * 5 + i, none⟩ = some u := fun i u hi hu => by
    rw [cell_of_row wr w.heap.size (j * 5 + i) _ _ _ h2]
    have h3 := hcs i hi
    rw [show opE.sz = 5 from rfl, hu] at h3
    rw [List.getElem?_toArray, List.getElem?_append_right (by omega), hl, List.getElem?_drop, show j * 5 + (j * 5 + i - j * 5) = j * 5 + i by omega]
    exact h3
  exact ⟨v, hr, hcell 0 _ (by decide) rfl, hcell 1 _ (by decide) rfl, hcell 2 _ (by decide) rfl, hcell 3 _ (by decide) rfl, hcell 4 _ (by decide) rfl⟩
theorem twr_step {w wr W8 X : World} {l : List Opn} {c0 : List Value} {j : Nat} {x : Opn} {u : Value} (hc : opE.rows w c0 l) (h : TwR w wr l c0 j) (hj : j < l.length) (hx : x = l[j]'hj) (hb : Below wr.heap.size wr W8)
    (ho : W8.ownsRow w.heap.size 50 3 u x.pl.length (runs x.pl))
    (hX : X = (((((W8.setCell ⟨w.heap.size, j * 5, none⟩ (.int .u8 (x.k : Int))).setCell ⟨w.heap.size, j * 5 + 1, none⟩ (.int .u32 (x.t : Int))).setCell ⟨w.heap.size, j * 5 + 2, none⟩ (.int .u8 (x.r : Int))).setCell ⟨w.heap.size, j * 5 + 3, none⟩ u).setCell ⟨w.heap.size, j * 5 + 4, none⟩ (.int .i64 x.p))) :
    TwR w X l c0 (j + 1) ∧ ∀ B, B ≤ w.heap.size → Below B W8 X := by
  obtain ⟨A, h1, h2⟩ := h
  have hl := twr_len h1 (Nat.le_of_lt hj)
  have h3 := blk_below hb h2
  have hcl : c0.length = l.length * 5 := Enc.rows_len hc
  have hc8 := put5_copied (o := j * 5) (.int .u8 (x.k : Int)) (.int .u32 (x.t : Int)) (.int .u8 (x.r : Int)) u (.int .i64 x.p) h3 (by rw [List.length_append, List.length_drop, hcl, hl]; omega)
  rw [← hX] at hc8
  refine ⟨⟨A ++ [.int .u8 (x.k : Int), .int .u32 (x.t : Int), .int .u8 (x.r : Int), u, .int .i64 x.p], ?_, ?_⟩, hc8.2.2.2⟩
  · rw [List.take_succ_eq_append_getElem hj, ← hx]
    exact HoldP.append (HoldP.copied h3 hc8 (h1.keeps hb)) ⟨u, [], rfl, own_copied ho h3 (by decide) hc8, rfl⟩
  · rw [hc8.1]
    congr 3
    unfold splice
    rw [List.take_append_of_le_length (by omega), List.take_of_length_le (by omega), List.append_assoc]
    congr 2
    rw [List.drop_append, List.drop_eq_nil_of_le (by simp; omega), List.nil_append, List.drop_drop]
    congr 1
    simp; omega
end Go.Proofs.Ytpgdnenkjommfaa.Codes

/- octavo/bag.Twin: what it answers. Conditions: the slice's cells are operations, not more than memory holds. -/
namespace Go.Proofs.Ytpgdnenkjommfaa.Bags
open Go.RowKit Go.WideShapes Stamp Go.Proofs.Ytpgdnenkjommfaa.Place Ops Codes
attribute [local go_sem ↓] Go.wp_at_zero Go.wp_at_succ

theorem made_opsN (n : Nat) (hn : n ≤ 1000000000) : ∃ Z : List Value, Z.length = n * 5 ∧ ∀ w : World, (Instr.makeSlice 30 (.int .i64 (n : Int)) (.int .i64 (n : Int))).run Try.prog w = .ok (.slice (some ⟨w.heap.size, 0, none⟩) n n) (w.alloc (.cells Z.toArray 27)) := by
  obtain ⟨i, hi, hz0, hz1, hz2⟩ := info_parts op_info
  refine ⟨(madeCells (Value.agg #[.int .u8 0, .int .u32 0, .int .u8 0, .slice none 0 0, .int .i64 0]).cells (n * 5)).toList, by simp [size_madeCells], fun w => ?_⟩
  have h := run_make (P := Try.prog) w 30 27 i _ Try.underlying30 hi hz0 .i64 .i64 (n : Int) (n : Int) (by omega) (by omega) (by rw [hz2]; omega) (by omega)
  rw [hz1] at h
  simpa using h

set_option maxRecDepth 100000 in
set_option maxHeartbeats 8000000 in
theorem bTwinX_any {v : Value} {l : List Opn} {w : World} (hv : OpL w v l) (hl : l.length ≤ 1000000000) (hp : ∀ o ∈ l, o.pl.length ≤ 8796093022208) :
    Calls Try.prog 35 #[v] w fun e w' => e = .returned (.slice (some ⟨w.heap.size, 0, none⟩) l.length l.length) ∧ OwnL w' w.heap.size (.slice (some ⟨w.heap.size, 0, none⟩) l.length l.length) l ∧ Below w.heap.size w w' := by
  obtain ⟨ao, cap, rfl⟩ := hv.shape
  obtain ⟨c0, hs0, hr0⟩ := hv
  obtain ⟨n, hn⟩ : ∃ n, n = l.length := ⟨_, rfl⟩
  have HN := Lib.hid hn
  have HP := Lib.hid hp
  have HR := Lib.hid hr0
  have hcl : c0.length = n * 5 := by rw [hn]; exact Enc.rows_len hr0
  obtain ⟨Z, hZ, MK⟩ := made_opsN n (by omega)
  have HC : Hid (∀ W : World, Below w.heap.size w W → 0 < n → ∃ ad, ao = some ad ∧ ∀ j v, c0[j]? = some v → W.cell? (ad.add j) = some v) := fun W hW h0 => by
    rcases (hs0.keeps hW).2 with ⟨ao', cap', he, _, _, _, h5⟩
    obtain ⟨rfl, -, rfl⟩ := Value.slice.inj he
    rcases h5 with h5 | ⟨b, off, rfl, hb, hc⟩
    · rw [h5] at hcl; simp at hcl; omega
    · exact ⟨_, rfl, fun j v hj => by rw [add_plain]; exact hc j v hj⟩
  have HON : Hid (∀ v ∈ c0, v.oneCell' = true) := Enc.rows_one hr0
  have HCL := Lib.hid hcl
  have HZ := Lib.hid hZ
  rw [← hn]
  rw [← hn] at hl
  have B0 : Hid (Below w.heap.size w (w.alloc (.cells Z.toArray 27))) := (Below.refl _ _).alloc (Nat.le_refl _) _
  have G0 : Hid ((w.alloc (.cells Z.toArray 27)).heap[w.heap.size]? = some (.cells Z.toArray 27)) := blk_new rfl
  clear hn hp hr0 hs0 hcl hZ
  go_enter Try.func35, Try.ntmps35
  go_wp2_with (refine wpList_copy_any rfl (.tmp 9) (.tmp 10) 30 30 rfl 27 Try.underlying30 (sz := 5) (by kernel_rfl) (some ⟨w.heap.size, 0, none⟩) ao n n n cap n rfl rfl w.heap.size 0 Z 27 G0.out (Nat.min_self n) c0 HCL.out (fun h0 => ⟨rfl, HC.out _ B0.out h0⟩) (by rw [HCL.out, HZ.out]; omega) HON.out ?_)
  rintro w2 hc2
  have T0 : Hid (TwR w w2 l c0 0) := ⟨[], rfl, by
    rw [hc2.out.1]
    congr 3
    simp [splice, HCL.out, ← HZ.out]⟩
  have B2 : Hid (Below w.heap.size w w2) := B0.out.trans (hc2.out.2.2.2 _ (Nat.le_refl _))
  clear hc2 B0 G0 MK
  go_wp2
  go_loopw [14] (fun i wr => ∃ j : Nat, j ≤ n ∧ i = .int .i64 (j : Int) ∧ Hid (TwR w wr l c0 j) ∧ Hid (Below w.heap.size w wr)) (fun i _ => n - (intOf i).toNat)
  case atStart => exact ⟨0, by omega, rfl, T0, B2⟩
  case round =>
    clear T0 B2
    obtain ⟨j, hj, rfl, htw, hbel⟩ := hrel
    by_cases hjn : j < n
    rotate_left
    · have q3 : decide (j < n) = false := by simpa using hjn
      have R1 : Hid (OwnL wr w.heap.size (.slice (some ⟨w.heap.size, 0, none⟩) n n) l) := by
        obtain ⟨A, h1, h2⟩ := htw.out
        obtain rfl : j = n := by omega
        rw [List.take_of_length_le (by rw [← HN.out]; omega)] at h1
        exact ownl_row h2 (Nat.le_refl _) h1 HN.out (by rw [List.length_append, List.length_drop, HCL.out, h1.len, ← HN.out]; omega) (by unfold maxLen; omega)
      clear htw
      go_wp2
      go_ret
      exact ⟨rfl, R1.out, hbel.out⟩
    have q3 : decide (j < n) = true := by simpa using hjn
    have q4 : (0 : Int) ≤ (j : Int) := by omega
    have q5 : (j : Int) < (n : Int) := by omega
    have hjl : j < l.length := by rw [← HN.out]; exact hjn
    obtain ⟨u, hru, h0, h1, h2, h3, h4⟩ := twr_at HR.out htw.out hjl
    obtain ⟨x, hx⟩ : ∃ x, x = l[j]'hjl := ⟨_, rfl⟩
    have hpx : x.pl.length ≤ 8796093022208 := HP.out x (by rw [hx]; exact List.getElem_mem hjl)
    rw [← hx] at hru h0 h1 h2 h4
    obtain ⟨uo, uc, rfl⟩ := hru.shape
    obtain ⟨nu, hnu⟩ : ∃ n, n = x.pl.length := ⟨_, rfl⟩
    rw [← hnu] at hru h3
    have ST : Hid (∀ (W8 X : World) (u : Value), Below wr.heap.size wr W8 → W8.ownsRow w.heap.size 50 3 u x.pl.length (runs x.pl) → X = (((((W8.setCell ⟨w.heap.size, j * 5, none⟩ (.int .u8 (x.k : Int))).setCell ⟨w.heap.size, j * 5 + 1, none⟩ (.int .u32 (x.t : Int))).setCell ⟨w.heap.size, j * 5 + 2, none⟩ (.int .u8 (x.r : Int))).setCell ⟨w.heap.size, j * 5 + 3, none⟩ u).setCell ⟨w.heap.size, j * 5 + 4, none⟩ (.int .i64 x.p)) →
        TwR w X l c0 (j + 1) ∧ ∀ B, B ≤ w.heap.size → Below B W8 X) := fun W8 X u hb ho hX => twr_step HR.out htw.out hjl hx hb ho hX
    have HSZ : Hid (w.heap.size ≤ wr.heap.size) := hbel.out.size
    have HGB : Hid (w.heap.size < wr.heap.size) := by
      obtain ⟨A, _, g2⟩ := htw.out
      exact (Array.getElem?_eq_some_iff.1 g2).1
    have HFR : Hid (∀ (W : World) (o : Nat), Below wr.heap.size wr W → W.frozen? ⟨w.heap.size, o, none⟩ = false) := fun W o hW => by
      obtain ⟨A, _, g2⟩ := htw.out
      exact free5 (blk_below hW g2) o
    have TW : Hid (∀ W : World, Below wr.heap.size wr W → Calls Try.prog 25 #[opv x (.slice uo nu uc)] W fun e w' => ∃ ao cap, e = .returned (opv x (.slice ao nu cap)) ∧ w'.ownsRow w.heap.size 50 3 (.slice ao nu cap) x.pl.length (runs x.pl) ∧ Below W.heap.size W w') := fun W hW => by
      refine (oTwin_any ((hru.keeps hbel.out).keeps hW) hpx).mono ?_
      rintro e w' ⟨v', rfl, ho, hb⟩
      obtain ⟨ao', cap', rfl⟩ : ∃ ao cap, v' = .slice ao x.pl.length cap := Sees.shape (Sees.own ho)
      rw [← hnu] at ho ⊢
      exact ⟨ao', cap', rfl, op_base ho (Nat.le_trans HSZ.out hW.size), hb⟩
    have HO : Hid (∀ v : Value, opv x v = .agg #[.int .u8 (x.k : Int), .int .u32 (x.t : Int), .int .u8 (x.r : Int), v, .int .i64 x.p]) := fun v => rfl
    obtain ⟨k, hk⟩ : ∃ k, x.k = k := ⟨_, rfl⟩
    obtain ⟨t, ht⟩ : ∃ k, x.t = k := ⟨_, rfl⟩
    obtain ⟨r, hr⟩ : ∃ k, x.r = k := ⟨_, rfl⟩
    obtain ⟨p, hp⟩ : ∃ k, x.p = k := ⟨_, rfl⟩
    rw [hk, ht, hr, hp] at HO ST
    rw [hk] at h0
    rw [ht] at h1
    rw [hr] at h2
    rw [hp] at h4
    simp only [HO.out] at TW
    have BL : Hid (Below wr.heap.size wr (wr.alloc (.cells #[.int .u8 (k : Int), .int .u32 (t : Int), .int .u8 (r : Int), .slice uo nu uc, .int .i64 p] 27))) := (Below.refl _ _).alloc (Nat.le_refl _) _
    have F0 : Hid (FiveAt wr w.heap.size (j * 5) (.int .u8 (k : Int)) (.int .u32 (t : Int)) (.int .u8 (r : Int)) (.slice uo nu uc) (.int .i64 p)) := ⟨HGB.out, h0, h1, h2, h3, h4⟩
    clear hru hx hk ht hr hp hnu htw hpx
    go_wp2_with fail
    refine (TW.out _ BL.out).mono ?_
    rintro e w5 ⟨a5, c5, rfl, o5, b5⟩
    have B5 := Lib.hid (bt BL.out b5)
    have O5 := Lib.hid o5
    have hf := fun o => HFR.out w5 o B5.out
    obtain ⟨_, g0, g1, g2, g3, g4⟩ := F0.out.keeps B5.out
    clear o5 b5 h0 h1 h2 h3 h4
    go_wp2
    obtain ⟨X, hX⟩ : ∃ X, X = (((((w5.setCell ⟨w.heap.size, j * 5, none⟩ (.int .u8 (k : Int))).setCell ⟨w.heap.size, j * 5 + 1, none⟩ (.int .u32 (t : Int))).setCell ⟨w.heap.size, j * 5 + 2, none⟩ (.int .u8 (r : Int))).setCell ⟨w.heap.size, j * 5 + 3, none⟩ (.slice a5 nu c5)).setCell ⟨w.heap.size, j * 5 + 4, none⟩ (.int .i64 p)) := ⟨_, rfl⟩
    have SX := ST.out w5 X _ B5.out O5.out hX
    rw [← hX]
    have TX := Lib.hid SX.1
    have BX := Lib.hid ((bt hbel.out B5.out).trans (SX.2 _ (Nat.le_refl _)))
    clear SX hX
    go_roundw
    case rel => exact ⟨j + 1, by omega, by go_num, TX, BX⟩
    case measure => simp [intOf]; omega
end Go.Proofs.Ytpgdnenkjommfaa.Bags

/- Sets of times, cut off below a time; two of them gone through side by side, stretch by stretch. Conditions: the spans may be. -/
namespace Go.Proofs.Ytpgdnenkjommfaa.Spans

/-- The set, cut off below a time. -/
def low : List Sp → Nat → List Sp
  | [], _ => []
  | x :: l, n => if x.t < n then x :: low l n else if x.f < n then [mk x.f (n - 1)] else []
/-! ### A stretch behind spans -/

theorem nil_or_snoc {α : Type} (l : List α) : l = [] ∨ ∃ m x, l = m ++ [x] := by
  rcases List.eq_nil_or_concat l with h | ⟨m, x, h⟩
  · exact .inl h
  · exact .inr ⟨m, x, by rw [h, List.concat_eq_append]⟩
theorem fine_last : ∀ {l : List Sp} {x : Sp}, Fine (l ++ [x]) → ∀ a ∈ l, a.t + 2 ≤ x.f
  | [], _, _, a, ha => by simp at ha
  | y :: l, x, h, a, ha => by
    rw [List.cons_append] at h
    rw [List.mem_cons] at ha
    rcases ha with rfl | ha
    · exact h.far x (by simp)
    · exact fine_last h.tail a ha
theorem fine_snoc_ok {l : List Sp} {x : Sp} (h : Fine (l ++ [x])) : Ok x := h.all x (by simp)
/-! ### What is ahead of a time no more -/

def upf : List Sp → Nat → List Sp
  | [], _ => []
  | x :: l, n => if x.t < n then l else x :: l
def nxt : List Sp → Nat → Bool × Nat
  | [], _ => (false, 1073741824)
  | x :: _, n => if n < x.f then (false, x.f - 1) else (true, x.t)
theorem upf_cons (x : Sp) (l : List Sp) (n : Nat) : upf (x :: l) n = if x.t < n then l else x :: l := rfl
theorem nxt_cons (x : Sp) (l : List Sp) (n : Nat) : nxt (x :: l) n = if n < x.f then (false, x.f - 1) else (true, x.t) := rfl
/-- What of spans is left where all below a time has come: the last one that came may still be there. -/
def Rest (l p : List Sp) (n : Nat) : Prop := Fine p ∧ (∀ m, n ≤ m → (In l m ↔ In p m)) ∧ ∀ x ∈ p, n ≤ x.t + 1
def Rest1 (l p : List Sp) (n : Nat) : Prop := Fine p ∧ (∀ m, n ≤ m → (In l m ↔ In p m)) ∧ ∀ x ∈ p, n ≤ x.t
theorem Rest.up {l p : List Sp} {n : Nat} (h : Rest l p n) : Rest1 l (upf p n) n := by
  obtain ⟨h1, h2, h3⟩ := h
  cases p with
  | nil => exact ⟨trivial, h2, fun x hx => by simp [upf] at hx⟩
  | cons x p =>
    have hx := h1.head
    unfold Ok at hx
    have hn := h3 x (by simp)
    rw [upf_cons]
    by_cases g : x.t < n
    · rw [if_pos g]
      refine ⟨h1.tail, fun m hm => ?_, fun y hy => ?_⟩
      · rw [h2 m hm, in_cons]
        constructor
        · rintro (h4 | h4)
          · omega
          · exact h4
        · exact .inr
      · have h4 := h1.far y hy
        have h5 := h1.tail.all y hy
        unfold Ok at h5
        omega
    · rw [if_neg g]
      refine ⟨h1, h2, fun y hy => ?_⟩
      rw [List.mem_cons] at hy
      rcases hy with rfl | hy
      · omega
      · have h4 := h1.far y hy
        have h5 := h1.tail.all y hy
        unfold Ok at h5
        omega
theorem Rest1.next {l p : List Sp} {n : Nat} (h : Rest1 l p n) (hn : n ≤ 1073741824) : n ≤ (nxt p n).2 ∧ (nxt p n).2 ≤ 1073741824 ∧
    (∀ m, n ≤ m → m ≤ (nxt p n).2 → inB l m = (nxt p n).1) ∧ ∀ s, n ≤ s → s ≤ (nxt p n).2 → Rest l p (s + 1) := by
  obtain ⟨h1, h2, h3⟩ := h
  have hin : ∀ m, n ≤ m → (inB l m = true ↔ In p m) := fun m hm => (inB_iff l m).trans (h2 m hm)
  have hno : ∀ m, n ≤ m → ¬ In p m → inB l m = false := fun m hm h => by
    cases hb : inB l m
    · rfl
    · exact absurd ((hin m hm).1 hb) h
  cases p with
  | nil =>
    refine ⟨hn, Nat.le_refl _, fun m hm _ => hno m hm (in_nil m), fun s hs _ => ⟨trivial, fun m hm => h2 m (by omega), fun x hx => by simp at hx⟩⟩
  | cons x p =>
    have hx := h1.head
    unfold Ok at hx
    have hxn := h3 x (by simp)
    have hall : ∀ y ∈ x :: p, x.t ≤ y.t := fun y hy => by
      rw [List.mem_cons] at hy
      rcases hy with rfl | hy
      · exact Nat.le_refl _
      · have h4 := h1.far y hy
        have h5 := h1.tail.all y hy
        unfold Ok at h5
        omega
    rw [nxt_cons]
    by_cases g : n < x.f
    · rw [if_pos g]
      refine ⟨by simp only; omega, by simp only; omega, fun m hm h4 => hno m hm (fun h5 => ?_), fun s hs h4 => ⟨h1, fun m hm => h2 m (by omega), fun y hy => ?_⟩⟩
      · simp only at h4
        rcases in_cons.1 h5 with h6 | h6
        · omega
        · have := in_far h1 h6; omega
      · have := hall y hy
        simp only at h4
        omega
    · rw [if_neg g]
      refine ⟨hxn, hx.2.2, fun m hm h4 => (hin m hm).2 (in_cons.2 (.inl ⟨by omega, h4⟩)), fun s hs h4 => ⟨h1, fun m hm => h2 m (by omega), fun y hy => ?_⟩⟩
      have := hall y hy
      simp only at h4
      omega

/-! ### A stretch of two, chosen by which of them have it -/

/-! ### What is left, said of the whole -/
end Go.Proofs.Ytpgdnenkjommfaa.Spans

/- octavo/span: Check, Count, Twin, Same: what each answers. Conditions: the slices' cells are spans. -/
namespace Go.Proofs.Ytpgdnenkjommfaa.Spans
open Go.RowKit
attribute [local go_sem ↓] Go.wp_at_zero Go.wp_at_succ

theorem chk_no {l : List Sp} (h : ¬ (Fine l ∧ l.length ≤ 1024)) : chk l = 8 := by
  unfold chk
  rw [if_neg (fun hb => h ((mayB_iff l).1 hb))]
theorem chk_yes {l : List Sp} (h : Fine l ∧ l.length ≤ 1024) : chk l = 0 := by
  unfold chk
  rw [if_pos ((mayB_iff l).2 h)]
set_option maxRecDepth 100000 in
set_option maxHeartbeats 4000000 in
theorem pCheck_any {v : Value} {l : List Sp} {w : World} (hv : Sps w v l) :
    Calls Try.prog 51 #[v] w fun e w' => e = .returned (.int .i64 (chk l)) ∧ Below w.heap.size w w' := by
  obtain ⟨ao, cap, rfl⟩ := hv.shape
  obtain ⟨n, hn⟩ : ∃ n, n = l.length := ⟨_, rfl⟩
  have hm : n ≤ 9223372036854775807 := by rw [hn]; exact Sees.max hv
  have HV := Lib.hid hv
  have HN := Lib.hid hn
  have HBad := Lib.hid (chk_no (l := l))
  have HGood := Lib.hid (chk_yes (l := l))
  obtain ⟨c, hc⟩ : ∃ c, c = chk l := ⟨_, rfl⟩
  rw [← hc] at HBad HGood ⊢
  rw [← hn] at HBad HGood ⊢
  clear hv hn hc
  by_cases hbig : 1024 < n
  · have t1 : decide ((1024 : Int) < (n : Int)) = true := decide_eq_true (by omega)
    have t2 : decide (1024 < n) = true := decide_eq_true hbig
    obtain rfl : c = 8 := HBad.out (fun h => by omega)
    go_enter Try.func51, Try.ntmps51
    go_wp2
    go_ret
    exact ⟨rfl, Below.refl _ _⟩
  have t1 : decide ((1024 : Int) < (n : Int)) = false := decide_eq_false (by omega)
  have t2 : decide (1024 < n) = false := decide_eq_false hbig
  have B0 := Lib.hid (Below.refl w.heap.size w)
  go_enter Try.func51, Try.ntmps51
  go_wp2
  go_loopw [3, 11] (fun m i wr => ∃ k b : Nat, k ≤ n ∧ i = .int .i64 (k : Int) ∧ m = .int .u32 (b : Int) ∧ 1 ≤ b ∧ Hid ((k = 0 ∧ b = 1) ∨ ∃ j, k = j + 1 ∧ b = (l.getD j zsp).t + 2) ∧ Hid (Fine (l.take k)) ∧ Hid (Below w.heap.size w wr)) (fun _ i _ => n - (intOf i).toNat)
  case atStart => exact ⟨0, 1, by omega, rfl, rfl, by omega, Lib.hid (.inl ⟨rfl, rfl⟩), Lib.hid (by simp [Fine]), B0⟩
  case round =>
    obtain ⟨k, b, hk, rfl, rfl, hb1, hlast, hfin, hbel⟩ := hrel
    by_cases hkn : k < n
    · have q1 : decide (k < n) = true := by simpa using hkn
      have q2 : (0 : Int) ≤ (k : Int) := by omega
      have q3 : (k : Int) < (n : Int) := by omega
      obtain ⟨b1, o1, rfl, hb1', ha0, ha1⟩ := (HV.out.keeps hbel.out).at k (by rw [← HN.out]; exact hkn)
      obtain ⟨x, hx⟩ : ∃ x, x = l.getD k zsp := ⟨_, rfl⟩
      rw [← hx] at ha0 ha1
      have hno1 : ¬ Ok x → c = 8 := fun h => HBad.out (fun hF => h (by rw [hx]; exact fine_ok hF.1 (by rw [← HN.out]; exact hkn)))
      have hno2 : x.f < b → c = 8 := fun h => by
        rcases hlast.out with ⟨rfl, rfl⟩ | ⟨j, rfl, rfl⟩
        · exact hno1 (fun hok => by unfold Ok at hok; omega)
        · refine HBad.out (fun hF => ?_)
          have h3 := fine_next hF.1 (k := j) (by rw [← HN.out]; exact hkn)
          rw [← hx] at h3
          omega
      have hyes : Ok x → b ≤ x.f → Fine (l.take (k + 1)) := fun h1 h2 => by
        refine fine_take_succ (by rw [← HN.out]; exact hkn) hfin.out (by rw [← hx]; exact h1) ?_
        rcases hlast.out with ⟨h3, -⟩ | ⟨j, rfl, rfl⟩
        · exact .inl h3
        · refine .inr ?_
          rw [← hx]
          exact h2
      have HX := Lib.hid (congrArg Sp.t hx.symm)
      have HNo1 := Lib.hid hno1
      have HNo2 := Lib.hid hno2
      have HYes := Lib.hid hyes
      have XB := Lib.hid (fun o : Obj => hbel.out.alloc hbel.out.size o)
      obtain ⟨xf, xt, hxf, hxt⟩ := x
      simp only at ha0 ha1 HX HNo2 HYes
      clear hx hno1 hno2 hyes
      by_cases h1 : xf < b
      · have s1 : decide ((xf : Int) < (b : Int)) = true := decide_eq_true (by omega)
        have s2 : decide (xf < b) = true := decide_eq_true h1
        obtain rfl : c = 8 := HNo2.out h1
        go_wp2
        go_ret
        exact ⟨rfl, XB.out _⟩
      have s1 : decide ((xf : Int) < (b : Int)) = false := decide_eq_false (by omega)
      have s2 : decide (xf < b) = false := decide_eq_false h1
      by_cases h2 : xt < xf
      · have s3 : decide ((xt : Int) < (xf : Int)) = true := decide_eq_true (by omega)
        have s4 : decide (xt < xf) = true := decide_eq_true h2
        obtain rfl : c = 8 := HNo1.out (fun h => by unfold Ok at h; simp only at h; omega)
        go_wp2
        go_ret
        exact ⟨rfl, XB.out _⟩
      have s3 : decide ((xt : Int) < (xf : Int)) = false := decide_eq_false (by omega)
      have s4 : decide (xt < xf) = false := decide_eq_false h2
      by_cases h3 : 1073741824 < xt
      · have s5 : decide ((1073741824 : Int) < (xt : Int)) = true := decide_eq_true (by omega)
        have s6 : decide (1073741824 < xt) = true := decide_eq_true h3
        obtain rfl : c = 8 := HNo1.out (fun h => by unfold Ok at h; simp only at h; omega)
        go_wp2
        go_ret
        exact ⟨rfl, XB.out _⟩
      have s5 : decide ((1073741824 : Int) < (xt : Int)) = false := decide_eq_false (by omega)
      have s6 : decide (1073741824 < xt) = false := decide_eq_false h3
      have HF2 : Hid (Fine (l.take (k + 1))) := HYes.out (by unfold Ok; simp only; omega) (by omega)
      have eT : IntKind.u32.wrap ((xt : Int) + 2) = (xt : Int) + 2 := by rw [IntKind.wrap_u32]; omega
      have hb2 : 1 ≤ xt + 2 := by omega
      clear HNo1 HNo2 HYes
      go_wp2
      go_roundw
      case rel => exact ⟨k + 1, xt + 2, by omega, by go_num, by go_num, hb2, Lib.hid (.inr ⟨k, rfl, by rw [HX.out]⟩), HF2, Lib.hid (XB.out _)⟩
      case measure => simp [intOf]; omega
    · have q1 : decide (k < n) = false := by simpa using hkn
      have hkk : l.take k = l := List.take_of_length_le (by have := HN.out; omega)
      obtain rfl : c = 0 := HGood.out ⟨by have := hfin.out; rwa [hkk] at this, by omega⟩
      clear hkk
      go_wp2
      go_ret
      exact ⟨rfl, hbel.out⟩
theorem pCheck_is {v : Value} {l : List Sp} {w : World} (hv : Sps w v l) {c : Int} (h : chk l = c) :
    Calls Try.prog 51 #[v] w fun e w' => e = .returned (.int .i64 c) ∧ Below w.heap.size w w' := by
  rw [← h]; exact pCheck_any hv

set_option maxRecDepth 100000 in
set_option maxHeartbeats 4000000 in
theorem pCount_any {v : Value} {l : List Sp} {w : World} (hv : Sps w v l) :
    Calls Try.prog 29 #[v] w fun e w' => e = .returned (.int .i64 (count l : Int)) ∧ Below w.heap.size w w' := by
  obtain ⟨ao, cap, rfl⟩ := hv.shape
  obtain ⟨c, hc⟩ : ∃ c, chk l = c := ⟨_, rfl⟩
  have M := Lib.hid (pCheck_is hv hc)
  cases hb : mayB l
  · have hc8 : c = 8 := by rw [← hc]; unfold chk; rw [hb]; rfl
    have e0 : count l = 0 := by unfold count; rw [hb]; rfl
    rw [e0]
    subst hc8
    clear hb hv hc e0
    go_enter Try.func29, Try.ntmps29
    go_wp2_with fail
    refine M.out.mono ?_
    rintro e w1 ⟨rfl, b1⟩
    go_wp2
    go_ret
    exact ⟨rfl, b1⟩
  · have hc0 : c = 0 := by rw [← hc]; unfold chk; rw [hb]; rfl
    have e0 : count l = many l := by unfold count; rw [hb]; rfl
    have hF := (mayB_iff l).1 hb
    rw [e0]
    subst hc0
    have HV := Lib.hid hv
    have HF := Lib.hid hF.1
    obtain ⟨n, hn⟩ : ∃ n, n = l.length := ⟨_, rfl⟩
    have HN := Lib.hid hn
    have hl : n ≤ 1024 := by rw [hn]; exact hF.2
    rw [← hn] at M ⊢
    clear hb hv hc e0 hF hn
    go_enter Try.func29, Try.ntmps29
    go_wp2_with fail
    refine M.out.mono ?_
    rintro e w1 ⟨rfl, b1⟩
    have B1 := Lib.hid b1
    clear b1
    go_wp2
    go_loopw [3, 11] (fun s i wr => ∃ k m : Nat, k ≤ n ∧ i = .int .i64 (k : Int) ∧ s = .int .i64 (m : Int) ∧ m ≤ 1073741824 * k ∧ Hid (m = many (l.take k)) ∧ Hid (Below w.heap.size w wr)) (fun _ i _ => n - (intOf i).toNat)
    case atStart => exact ⟨0, 0, by omega, rfl, rfl, by omega, Lib.hid rfl, B1⟩
    case round =>
      obtain ⟨k, m, hk, rfl, rfl, hm, hmany, hbel⟩ := hrel
      by_cases hkn : k < n
      · have q1 : decide (k < n) = true := by simpa using hkn
        obtain ⟨b1, o1, rfl, hb1, ha0, ha1⟩ := (HV.out.keeps hbel.out).at k (by rw [← HN.out]; exact hkn)
        have hs := take_snoc l k (by rw [← HN.out]; exact hkn)
        have hok := fine_ok HF.out (k := k) (by rw [← HN.out]; exact hkn)
        obtain ⟨x, hx⟩ : ∃ x, x = l.getD k zsp := ⟨_, rfl⟩
        rw [← hx] at ha0 ha1 hs hok
        have hmn := many_snoc (l.take k) x
        rw [← hs, ← hmany.out] at hmn
        obtain ⟨xf, xt, _, _⟩ := x
        unfold Ok at hok
        simp only at ha0 ha1 hmn hok
        obtain ⟨o1', o2, o3⟩ := hok
        obtain ⟨d, hd⟩ : ∃ d : Nat, d = xt - xf := ⟨_, rfl⟩
        have e1 : (xt : Int) - (xf : Int) = (d : Int) := by omega
        have e2 : IntKind.u32.wrap (d : Int) = (d : Int) := by rw [IntKind.wrap_u32]; omega
        have e3 : IntKind.i64.wrap (d : Int) = (d : Int) := IntWalk.i64_in _ (by omega)
        have e4 : IntKind.i64.wrap ((d : Int) + 1) = (d : Int) + 1 := IntWalk.i64_in _ (by omega)
        have e5 : IntKind.i64.wrap ((m : Int) + ((d : Int) + 1)) = (m : Int) + ((d : Int) + 1) := IntWalk.i64_in _ (by omega)
        have HM2 : Hid (m + (d + 1) = many (l.take (k + 1))) := by show _ = _; rw [hmn, hd]
        have hb2 : m + (d + 1) ≤ 1073741824 * (k + 1) := by omega
        have q2 : (0 : Int) ≤ (k : Int) := by omega
        have q3 : (k : Int) < (n : Int) := by omega
        have XB := Lib.hid (fun o : Obj => hbel.out.alloc hbel.out.size o)
        clear hx hs hmn hd
        go_wp2
        go_roundw
        case rel => exact ⟨k + 1, m + (d + 1), by omega, by go_num, by go_num, hb2, HM2, Lib.hid (XB.out _)⟩
        case measure => simp [intOf]; omega
      · have q1 : decide (k < n) = false := by simpa using hkn
        have hkk : l.take k = l := List.take_of_length_le (by have := HN.out; omega)
        have hf : m = many l := by have := hmany.out; rwa [hkk] at this
        subst hf
        clear hkk
        go_wp2
        go_ret
        exact ⟨rfl, hbel.out⟩
end Go.Proofs.Ytpgdnenkjommfaa.Spans

/- octavo/span: Has with what it calls, the two choosers, upFrom, next, with, stretches: what each answers. Conditions: the slices' cells are spans. -/
namespace Go.Proofs.Ytpgdnenkjommfaa.Spans
open Go.RowKit Go.Shelf
attribute [local go_sem ↓] Go.wp_at_zero Go.wp_at_succ

/-! ### Has -/
theorem hasOne_any (x : Sp) (t B : Nat) {w : World} (hc : w.cell? ⟨B, 0, none⟩ = some (.int .u32 (t : Int))) (hB : B < w.heap.size) :
    Calls Try.prog 54 #[.agg #[.int .u32 (x.f : Int), .int .u32 (x.t : Int)], .pointer (some ⟨B, 0, none⟩)] w fun e w' => e = .returned (.bool (decide (x.f ≤ t ∧ t ≤ x.t))) ∧ Below w.heap.size w w' := by
  obtain ⟨f, u, _, _⟩ := x
  simp only
  have c0 := (((Below.refl w.heap.size w).alloc (Nat.le_refl _) (.cells #[.int .u32 (f : Int), .int .u32 (u : Int)] 95)).cell (p := ⟨B, 0, none⟩) hB).trans hc
  clear hc
  by_cases h1 : f ≤ t
  · have s1 : decide ((f : Int) ≤ (t : Int)) = true := decide_eq_true (by omega)
    have s2 : decide (f ≤ t) = true := decide_eq_true h1
    by_cases h2 : t ≤ u
    · have s3 : decide ((t : Int) ≤ (u : Int)) = true := decide_eq_true (by omega)
      have s4 : decide (t ≤ u) = true := decide_eq_true h2
      rw [decide_eq_true (p := f ≤ t ∧ t ≤ u) ⟨h1, h2⟩]
      go_enter Try.func54, Try.ntmps54
      go_wp2
      go_ret
      exact ⟨rfl, (Below.refl _ _).alloc (Nat.le_refl _) _⟩
    · have s3 : decide ((t : Int) ≤ (u : Int)) = false := decide_eq_false (by omega)
      have s4 : decide (t ≤ u) = false := decide_eq_false h2
      rw [decide_eq_false (p := f ≤ t ∧ t ≤ u) (fun h => h2 h.2)]
      go_enter Try.func54, Try.ntmps54
      go_wp2
      go_ret
      exact ⟨rfl, (Below.refl _ _).alloc (Nat.le_refl _) _⟩
  · have s1 : decide ((f : Int) ≤ (t : Int)) = false := decide_eq_false (by omega)
    have s2 : decide (f ≤ t) = false := decide_eq_false h1
    rw [decide_eq_false (p := f ≤ t ∧ t ≤ u) (fun h => h1 h.1)]
    go_enter Try.func54, Try.ntmps54
    go_wp2
    go_ret
    exact ⟨rfl, (Below.refl _ _).alloc (Nat.le_refl _) _⟩

set_option maxRecDepth 100000 in
set_option maxHeartbeats 2000000 in
theorem idx_any {v : Value} {l : List Sp} (t B : Nat) {w : World} (hv : Sps w v l) (hc : w.cell? ⟨B, 0, none⟩ = some (.int .u32 (t : Int))) (hB : B < w.heap.size) :
    Calls Try.prog 81 #[v, .func (.func 54) #[] #[.pointer (some ⟨B, 0, none⟩)]] w fun e w' => (∃ q : Int, e = .returned (.int .i64 q) ∧ decide (0 ≤ q) = inB l t) ∧ Below w.heap.size w w' := by
  obtain ⟨ao, cap, rfl⟩ := hv.shape
  obtain ⟨n, hn⟩ : ∃ n, n = l.length := ⟨_, rfl⟩
  have hm : n ≤ 9223372036854775807 := by rw [hn]; exact Sees.max hv
  have HV := Lib.hid hv
  have HN := Lib.hid hn
  have HC := Lib.hid hc
  obtain ⟨b0, hb0⟩ : ∃ b, inB l t = b := ⟨_, rfl⟩
  have HB0 := Lib.hid hb0
  rw [← hn, hb0]
  have B0 := Lib.hid (Below.refl w.heap.size w)
  clear hv hn hb0 hc
  have eg := enters_of Try.func54 (by kernel_rfl) rfl
  go_enter Try.func81, Try.ntmps81
  go_wp2
  go_loopw [8] (fun i wr => ∃ k : Nat, k ≤ n ∧ i = .int .i64 (k : Int) ∧ Hid (inB (l.take k) t = false) ∧ Hid (Below w.heap.size w wr)) (fun i _ => n - (intOf i).toNat)
  case atStart => exact ⟨0, by omega, rfl, Lib.hid rfl, B0⟩
  case round =>
    obtain ⟨k, hk, rfl, hno, hbel⟩ := hrel
    by_cases hkn : k < n
    · have q1 : decide (k < n) = true := by simpa using hkn
      have q2 : (0 : Int) ≤ (k : Int) := by omega
      have q3 : (k : Int) < (n : Int) := by omega
      obtain ⟨b1, o1, rfl, hb1, ha0, ha1⟩ := (HV.out.keeps hbel.out).at k (by rw [← HN.out]; exact hkn)
      have hs := take_snoc l k (by rw [← HN.out]; exact hkn)
      obtain ⟨x, hx⟩ : ∃ x, x = l.getD k zsp := ⟨_, rfl⟩
      rw [← hx] at ha0 ha1 hs
      have hsn := inB_snoc (l.take k) x t
      rw [← hs, hno.out, Bool.false_or] at hsn
      have hin : decide (x.f ≤ t ∧ t ≤ x.t) = true → b0 = true := fun h => by
        rw [← HB0.out]
        have h := of_decide_eq_true h
        exact (inB_iff l t).2 ⟨x, by rw [hx, List.getD, List.getElem?_eq_getElem (by rw [← HN.out]; exact hkn)]; exact List.getElem_mem _, h.1, h.2⟩
      have C := Lib.hid (hasOne_any x t B (w := wr) ((hbel.out.cell (p := ⟨B, 0, none⟩) hB).trans HC.out) (Nat.lt_of_lt_of_le hB hbel.out.size))
      obtain ⟨q, hq⟩ : ∃ q, decide (x.f ≤ t ∧ t ≤ x.t) = q := ⟨_, rfl⟩
      rw [hq] at C hsn hin
      have HIn := Lib.hid hin
      have HSn := Lib.hid hsn
      obtain ⟨xf, xt, _, _⟩ := x
      simp only at ha0 ha1 C
      clear hx hs hsn hin hq
      cases q
      · go_wp2_with fail
        refine C.out.mono ?_
        rintro e w1 ⟨rfl, b1⟩
        have B1 := Lib.hid (bt hbel.out b1)
        clear b1
        go_wp2
        go_roundw
        case rel => exact ⟨k + 1, by omega, by go_num, HSn, B1⟩
        case measure => simp [intOf]; omega
      · obtain rfl : b0 = true := HIn.out rfl
        go_wp2_with fail
        refine C.out.mono ?_
        rintro e w1 ⟨rfl, b1⟩
        have B1 := Lib.hid (bt hbel.out b1)
        clear b1
        go_wp2
        go_ret
        exact ⟨⟨_, rfl, decide_eq_true q2⟩, B1.out⟩
    · have q1 : decide (k < n) = false := by simpa using hkn
      have hkk : l.take k = l := List.take_of_length_le (by have := HN.out; omega)
      have hf : b0 = false := by rw [← HB0.out, ← hkk]; exact hno.out
      subst hf
      clear hkk
      go_wp2
      go_ret
      exact ⟨⟨_, rfl, rfl⟩, hbel.out⟩
theorem contains_any {v : Value} {l : List Sp} (t B : Nat) {w : World} (hv : Sps w v l) (hc : w.cell? ⟨B, 0, none⟩ = some (.int .u32 (t : Int))) (hB : B < w.heap.size) :
    Calls Try.prog 53 #[v, .func (.func 54) #[] #[.pointer (some ⟨B, 0, none⟩)]] w fun e w' => e = .returned (.bool (inB l t)) ∧ Below w.heap.size w w' := by
  have C := Lib.hid (idx_any t B hv hc hB)
  obtain ⟨b0, hb0⟩ : ∃ b, inB l t = b := ⟨_, rfl⟩
  rw [hb0] at C ⊢
  clear hv hc hb0
  go_enter Try.func53, Try.ntmps53
  go_wp2_with fail
  refine C.out.mono ?_
  rintro e w1 ⟨⟨q, rfl, hq⟩, b1⟩
  go_wp2
  go_ret
  exact ⟨rfl, b1⟩

set_option maxRecDepth 100000 in
set_option maxHeartbeats 2000000 in
theorem pHas_any {v : Value} {l : List Sp} (t : Nat) {w : World} (hv : Sps w v l) :
    Calls Try.prog 32 #[v, .int .u32 (t : Int)] w fun e w' => e = .returned (.bool (has l t)) ∧ Below w.heap.size w w' := by
  obtain ⟨c, hc⟩ : ∃ c, chk l = c := ⟨_, rfl⟩
  have X0 := Lib.hid ((Below.refl w.heap.size w).alloc (Nat.le_refl _) (.cells #[.int .u32 (t : Int)] 22))
  have C0 : Hid ((w.alloc (.cells #[.int .u32 (t : Int)] 22)).cell? ⟨w.heap.size, 0, none⟩ = some (.int .u32 (t : Int))) := cell_of_row _ w.heap.size 0 _ _ _ (heap_alloc_new w _)
  have M := Lib.hid (pCheck_is (hv.keeps X0.out) hc)
  have HV := Lib.hid hv
  unfold has
  cases hb : mayB l
  · have hc8 : c = 8 := by rw [← hc]; unfold chk; rw [hb]; rfl
    subst hc8
    rw [Bool.false_and]
    clear hb hv hc
    go_enter Try.func32, Try.ntmps32
    go_wp2_with fail
    refine M.out.mono ?_
    rintro e w1 ⟨rfl, b1⟩
    have B1 := Lib.hid (bt X0.out b1)
    clear b1
    go_wp2
    go_ret
    exact ⟨rfl, B1.out⟩
  · have hc0 : c = 0 := by rw [← hc]; unfold chk; rw [hb]; rfl
    subst hc0
    rw [Bool.true_and]
    obtain ⟨b0, hb0⟩ : ∃ b, inB l t = b := ⟨_, rfl⟩
    have HB0 := Lib.hid hb0
    rw [hb0]
    clear hb hv hc hb0
    go_enter Try.func32, Try.ntmps32
    go_wp2_with fail
    refine M.out.mono ?_
    rintro e w1 ⟨rfl, b1⟩
    have B1 := Lib.hid (bt X0.out b1)
    have K := contains_any t w.heap.size (w := w1) ((HV.out.keeps X0.out).keeps b1) ((b1.cell (p := ⟨w.heap.size, 0, none⟩) (by simp)).trans C0.out) (by have := b1.size; simp at this; omega)
    rw [HB0.out] at K
    have K := Lib.hid K
    clear b1
    go_wp2_with fail
    refine K.out.mono ?_
    rintro e w2 ⟨rfl, b2⟩
    have B2 := Lib.hid (bt B1.out b2)
    clear b2
    go_wp2
    go_ret
    exact ⟨rfl, B2.out⟩

/-! ### The choosers -/
/-! ### What is left, and the next stretch of one -/
end Go.Proofs.Ytpgdnenkjommfaa.Spans

/- octavo/span.with: what it answers. Conditions: the row is the call's own and holds spans that end at MaxTime at the most. -/
namespace Go.Proofs.Ytpgdnenkjommfaa.Spans
open Go.RowKit Go.Shelf
attribute [local go_sem ↓] Go.wp_at_zero Go.wp_at_succ

theorem grown_draw {a b : World} {row : Option Nat} (h : a.grownBy b row) (n : Nat) : a.grownBy (b.drewN n) row := ⟨h.os, h.tape, h.output, h.size, h.block⟩
theorem sps_set_last (l : List Sp) (x : Sp) (t : Nat) (ht : t < 4294967296) : (sps (l ++ [x])).set (l.length * 2 + 1) (.int .u32 (t : Int)) = sps (l ++ [mk x.f t]) := by
  rw [sps_append, sps_append, List.set_append_right _ _ (by rw [sps_len]; omega), sps_len]
  congr 1
  rw [show l.length * 2 + 1 - l.length * 2 = 1 by omega]
  simp only [sps, mk_f x.hf, mk_t ht, List.set_cons_succ, List.set_cons_zero]

end Go.Proofs.Ytpgdnenkjommfaa.Spans

/- A range over a function whose iterator has cells of its own in one block, laid when it is called: the caller's side. Conditions: the loop's body goes on, or returns; it turns neither the loop's two blocks nor the iterator's one. -/
namespace Go.Proofs.Ytpgdnenkjommfaa
open Go Go.RowKit Go.Shelf

/-- What is said of a world that stays so where one of three blocks side by side turns, and where new ones come. -/
def Rides (H : Nat) (I : World → Prop) : Prop := ∀ A B r, I A → H ≤ r → r ≤ H + 2 → A.grownBy B (some r) → I B
theorem Rides.put {H : Nat} {I : World → Prop} (h : Rides H I) {W : World} {r : Nat} (o : Obj) (hi : I W) (h1 : H ≤ r) (h2 : r ≤ H + 2) : I (W.putObj r o) := h _ _ r hi h1 h2 (grownBy_putObj' W r o)
theorem Rides.new {H : Nat} {I : World → Prop} (h : Rides H I) {W : World} (o : Obj) (hi : I W) : I (W.alloc o) := h _ _ H hi (Nat.le_refl _) (by omega) (World.grownBy_alloc W o _)

end Go.Proofs.Ytpgdnenkjommfaa

/- octavo/span.stretches, its iterator: what it hands to each round, and in which order. Conditions: the spans may be; the rounds leave the iterator's own block. -/
namespace Go.Proofs.Ytpgdnenkjommfaa.Spans
open Go.RowKit Go.Shelf
attribute [local go_sem ↓] Go.wp_at_zero Go.wp_at_succ

/-- Spans in memory that was there ahead. -/
def Low (B : Nat) (w : World) (v : Value) (l : List Sp) : Prop := Sps w v l ∧ (l = [] ∨ ∀ b, v.ownBlock = some b → b < B)
theorem Low.keeps {B : Nat} {w w' : World} {v : Value} {l : List Sp} (h : Low B w v l) (hb : Below B w w') : Low B w' v l := by
  refine ⟨?_, h.2⟩
  rcases h.2 with rfl | h2
  · obtain ⟨⟨h1, ao, cap, h3, h4, h5, h6, _⟩, _⟩ := h
    exact ⟨h1, ao, cap, h3, h4, h5, h6, .inl rfl⟩
  · exact Sees.stays h.1 hb.size (fun _ _ _ he => World.cell?_of_block (hb.block _ (h2 _ he)))
end Go.Proofs.Ytpgdnenkjommfaa.Spans

/- octavo/span.chosen: what it answers. Conditions: the chooser answers what it is asked for; the slices' cells are spans. -/
namespace Go.Proofs.Ytpgdnenkjommfaa.Spans
open Go.RowKit Go.Shelf
attribute [local go_sem ↓] Go.wp_at_zero Go.wp_at_succ
attribute [local go_sem] Oper.semAt_some

end Go.Proofs.Ytpgdnenkjommfaa.Spans

/- octavo/span: what each answers. Conditions: the slices' cells are spans. -/
namespace Go.Proofs.Ytpgdnenkjommfaa.Spans
open Go.RowKit Go.Shelf
attribute [local go_sem ↓] Go.wp_at_zero Go.wp_at_succ

end Go.Proofs.Ytpgdnenkjommfaa.Spans

/- octavo/clock: Check, Count, Top, and stamp.Check: what each answers. Conditions: the slices' cells are replicas' spans. -/
namespace Go.Proofs.Ytpgdnenkjommfaa.Clocks
open Go.RowKit Go.Proofs.Ytpgdnenkjommfaa.Spans
attribute [local go_sem ↓] Go.wp_at_zero Go.wp_at_succ

def chkI (a : Id) : Int := if mayI a then 0 else 8
theorem stCheck_any (a : Id) (w : World) :
    Calls Try.prog 44 #[idv a] w fun e w' => e = .returned (.int .i64 (chkI a)) ∧ Below w.heap.size w w' := by
  obtain ⟨t, r, ht, hr⟩ := a
  unfold idv
  simp only
  obtain ⟨c, hc⟩ : ∃ c, c = chkI ⟨t, r, ht, hr⟩ := ⟨_, rfl⟩
  rw [← hc]
  have q : (decide ((t : Int) < 1) = true ∧ c = 8) ∨ (decide ((t : Int) < 1) = false ∧ decide ((1073741824 : Int) < (t : Int)) = true ∧ c = 8) ∨
      (decide ((t : Int) < 1) = false ∧ decide ((1073741824 : Int) < (t : Int)) = false ∧ decide ((8 : Int) ≤ (r : Int)) = true ∧ c = 8) ∨
      (decide ((t : Int) < 1) = false ∧ decide ((1073741824 : Int) < (t : Int)) = false ∧ decide ((8 : Int) ≤ (r : Int)) = false ∧ c = 0) := by
    rw [hc]
    unfold chkI mayI
    simp only
    by_cases h1 : t < 1
    · exact .inl ⟨decide_eq_true (by omega), if_neg (by omega)⟩
    · by_cases h2 : 1073741824 < t
      · exact .inr (.inl ⟨decide_eq_false (by omega), decide_eq_true (by omega), if_neg (by omega)⟩)
      · by_cases h3 : 8 ≤ r
        · exact .inr (.inr (.inl ⟨decide_eq_false (by omega), decide_eq_false (by omega), decide_eq_true (by omega), if_neg (by omega)⟩))
        · exact .inr (.inr (.inr ⟨decide_eq_false (by omega), decide_eq_false (by omega), decide_eq_false (by omega), if_pos (by omega)⟩))
  clear hc
  rcases q with ⟨q1, rfl⟩ | ⟨q1, q2, rfl⟩ | ⟨q1, q2, q3, rfl⟩ | ⟨q1, q2, q3, rfl⟩
  all_goals
    go_enter Try.func44, Try.ntmps44
    go_wp2
    go_ret
    exact ⟨rfl, (Below.refl _ _).alloc (Nat.le_refl _) _⟩

theorem chkC_no {c : List Tm} (h : ¬ Cok c) : chkC c = 8 := by unfold chkC; rw [mayC_no h]; rfl
theorem chkC_yes {c : List Tm} (h : Cok c) : chkC c = 0 := by unfold chkC; rw [(mayC_iff c).2 h]; rfl

set_option maxRecDepth 100000 in
set_option maxHeartbeats 4000000 in
theorem cCheck_any {v : Value} {c : List Tm} {w : World} (hv : Tms w v c) :
    Calls Try.prog 28 #[v] w fun e w' => e = .returned (.int .i64 (chkC c)) ∧ Below w.heap.size w w' := by
  obtain ⟨ao, cap, rfl⟩ := hv.shape
  obtain ⟨n, hn⟩ : ∃ n, n = c.length := ⟨_, rfl⟩
  have hm : n ≤ 9223372036854775807 := by rw [hn]; exact Tms.max hv
  have HV := Lib.hid hv
  have HN := Lib.hid hn
  obtain ⟨R, hR⟩ : ∃ R, R = chkC c := ⟨_, rfl⟩
  have HNo : Hid (¬ Cok c → R = 8) := fun h => by rw [hR]; exact chkC_no h
  have HYes : Hid (Cok c → R = 0) := fun h => by rw [hR]; exact chkC_yes h
  have B0 := Lib.hid (Below.refl w.heap.size w)
  rw [← hn, ← hR]
  clear hv hn hR
  go_enter Try.func28, Try.ntmps28
  go_wp2
  go_loopw [3, 8] (fun m i wr => ∃ k b : Nat, k ≤ n ∧ i = .int .i64 (k : Int) ∧ m = .int .u8 (b : Int) ∧ b ≤ 8 ∧ Hid ((k = 0 ∧ b = 0) ∨ ∃ j, k = j + 1 ∧ b = (c.getD j ztm).1 + 1) ∧ Hid (Up 0 (c.take k)) ∧ Hid (Below w.heap.size w wr)) (fun _ i _ => n - (intOf i).toNat)
  case atStart => exact ⟨0, 0, by omega, rfl, rfl, by omega, Lib.hid (.inl ⟨rfl, rfl⟩), Lib.hid trivial, B0⟩
  case round =>
    obtain ⟨k, b, hk, rfl, rfl, hb8, hlast, hch, hbel⟩ := hrel
    by_cases hkn : k < n
    · have q1 : decide (k < n) = true := by simpa using hkn
      have q2 : (0 : Int) ≤ (k : Int) := by omega
      have q3 : (k : Int) < (n : Int) := by omega
      have hkl : k < c.length := by rw [← HN.out]; exact hkn
      obtain ⟨b1, o1, u, rfl, hb1, ha0, ha1, -, hsp⟩ := (HV.out.keeps hbel.out).at k hkl
      obtain ⟨x, hx⟩ : ∃ x, x = c.getD k ztm := ⟨_, rfl⟩
      have hx' : c.getD k (0, []) = x := hx.symm
      rw [hx'] at ha0 hsp
      have hno : ¬ (x.1 < 8 ∧ x.2 ≠ [] ∧ mayB x.2 = true) → R = 8 := fun h => HNo.out (fun hc => h (by
        have := up_all hc (c.getD k ztm) (tm_mem hkl)
        rw [← hx] at this
        exact this.2))
      have hno2 : x.1 < b → R = 8 := fun h => by
        rcases hlast.out with ⟨h1, h2⟩ | ⟨j, h1, h2⟩
        · omega
        · refine HNo.out (fun hc => ?_)
          have := up_next hc (k := j) (by rw [← h1]; exact hkl)
          rw [← h1, ← hx] at this
          omega
      have hyes : x.1 < 8 → x.2 ≠ [] → mayB x.2 = true → b ≤ x.1 → Up 0 (c.take (k + 1)) := fun h1 h2 h3 h4 => by
        refine up_take_succ hkl hch.out (by rw [← hx]; exact h1) (by rw [← hx]; exact h2) (by rw [← hx]; exact h3) ?_
        rw [← hx]
        rcases hlast.out with ⟨g1, -⟩ | ⟨j, g1, g2⟩
        · exact .inl g1
        · refine .inr ?_
          rw [show k - 1 = j by omega]
          omega
      have HX : Hid (x.1 = (c.getD k ztm).1) := by rw [hx]; rfl
      have HNo1 := Lib.hid hno
      have HNo2 := Lib.hid hno2
      have HYes2 := Lib.hid hyes
      have XB := Lib.hid (fun o : Obj => hbel.out.alloc hbel.out.size o)
      obtain ⟨so, sc, rfl⟩ := hsp.shape
      obtain ⟨xr, xs⟩ := x
      simp only at ha0 ha1 hsp HX HNo1 HNo2 HYes2
      obtain ⟨sl, hsl⟩ : ∃ sl, sl = xs.length := ⟨_, rfl⟩
      rw [← hsl] at ha1 hsp
      have HSL := Lib.hid hsl
      obtain ⟨wo, rfl⟩ : ∃ wo : World, wo = wr := ⟨_, rfl⟩
      have CK : Hid (∀ o : Obj, Calls Try.prog 51 #[.slice so sl sc] (wo.alloc o) fun e w' => e = .returned (.int .i64 (chk xs)) ∧ Below (wo.alloc o).heap.size (wo.alloc o) w') := fun o =>
        pCheck_any (hsp.keeps ((Below.refl _ _).alloc (Nat.le_refl _) o))
      obtain ⟨q, hq⟩ : ∃ q, chk xs = q := ⟨_, rfl⟩
      rw [hq] at CK
      have HQ : Hid ((q = 0 ∧ mayB xs = true) ∨ (q = 8 ∧ mayB xs = false)) := by
        show _ ∨ _
        rw [← hq]
        unfold chk
        cases mayB xs <;> simp
      clear hx hx' hno hno2 hyes hsp hsl hq
      by_cases h1 : xr < b
      · have s1 : decide ((xr : Int) < (b : Int)) = true := decide_eq_true (by omega)
        have s2 : decide (xr < b) = true := decide_eq_true h1
        obtain rfl : R = 8 := HNo2.out h1
        go_wp2
        go_ret
        exact ⟨rfl, XB.out _⟩
      have s1 : decide ((xr : Int) < (b : Int)) = false := decide_eq_false (by omega)
      have s2 : decide (xr < b) = false := decide_eq_false h1
      by_cases h2 : 8 ≤ xr
      · have s3 : decide ((8 : Int) ≤ (xr : Int)) = true := decide_eq_true (by omega)
        have s4 : decide (8 ≤ xr) = true := decide_eq_true h2
        obtain rfl : R = 8 := HNo1.out (by omega)
        go_wp2
        go_ret
        exact ⟨rfl, XB.out _⟩
      have s3 : decide ((8 : Int) ≤ (xr : Int)) = false := decide_eq_false (by omega)
      have s4 : decide (8 ≤ xr) = false := decide_eq_false h2
      by_cases h3 : sl = 0
      · obtain rfl : R = 8 := HNo1.out (fun h => h.2.1 (List.length_eq_zero_iff.1 (by rw [← HSL.out]; exact h3)))
        subst h3
        go_wp2
        go_ret
        exact ⟨rfl, XB.out _⟩
      have s5 : ((sl : Int) == 0) = false := by simpa using h3
      rcases HQ.out with ⟨rfl, hmb⟩ | ⟨rfl, hmb⟩
      · have HUp : Hid (Up 0 (c.take (k + 1))) := HYes2.out (by omega) (fun h => h3 (by rw [HSL.out, h]; rfl)) hmb (by omega)
        have eT : IntKind.u8.wrap ((xr : Int) + 1) = (xr : Int) + 1 := by rw [IntKind.wrap_u8]; omega
        have hb2 : xr + 1 ≤ 8 := by omega
        have HL2 : Hid ((k + 1 = 0 ∧ xr + 1 = 0) ∨ ∃ j, k + 1 = j + 1 ∧ xr + 1 = (c.getD j ztm).1 + 1) := .inr ⟨k, rfl, by rw [HX.out]⟩
        clear HNo1 HNo2 HYes2 hmb HX hlast hch
        go_wp2_with fail
        refine (CK.out _).mono ?_
        rintro e w2 ⟨rfl, b2⟩
        have B2 := Lib.hid (bt (XB.out _) b2)
        have c2 := (b2.cell (p := ⟨wo.heap.size, 0, none⟩) (by simp)).trans (cell_of_row _ wo.heap.size 0 _ _ _ (heap_alloc_new wo _))
        clear b2
        go_wp2
        go_roundw
        case rel => exact ⟨k + 1, xr + 1, by omega, by go_num, by go_num, hb2, HL2, HUp, B2⟩
        case measure => simp [intOf]; omega
      · obtain rfl : R = 8 := HNo1.out (fun h => by rw [hmb] at h; cases h.2.2)
        clear HNo1 HNo2 HYes2 hmb HX hlast hch
        go_wp2_with fail
        refine (CK.out _).mono ?_
        rintro e w2 ⟨rfl, b2⟩
        go_wp2
        go_ret
        exact ⟨rfl, bt (XB.out _) b2⟩
    · have q1 : decide (k < n) = false := by simpa using hkn
      have hkk : c.take k = c := List.take_of_length_le (by have := HN.out; omega)
      obtain rfl : R = 0 := HYes.out (by have := hch.out; rwa [hkk] at this)
      clear hkk
      go_wp2
      go_ret
      exact ⟨rfl, hbel.out⟩
end Go.Proofs.Ytpgdnenkjommfaa.Clocks

/- A map from bytes to values of any type, as a function from numbers to values. Conditions: none. -/
namespace Go.Proofs.Ytpgdnenkjommfaa
open Go.RowKit Go.WideShapes
open Go.Maps (Keyed int_keyed IsMap keyOf_int_mk)

/-- A value as a token: every value reads so. -/
def tokR (v : Value) : Option (DataW Value × List MemPlace) := some (.held v, [])
theorem u8law : Keyed Try.prog 5 := int_keyed Try.underlying5
theorem u8wf {r : Nat} (h : r < 256) : (Lit.int .u8 (r : Int)).wf = true := by
  have h1 : IntKind.u8.min = 0 := by decide
  have h2 : IntKind.u8.max = 255 := by decide
  simp [Lit.wf, h1, h2]
  omega
theorem u8key {r : Nat} (h : r < 256) : keyOf Try.prog 5 (.int .u8 (r : Int)) = some (.int .u8 (r : Int)) := keyOf_int_mk Try.underlying5 (u8wf h)
/-- Block b is a map of at most n entries; where M is none it has no entry. -/
def MapV (w : World) (b n : Nat) (M : Nat → Option Value) : Prop :=
  ∃ D : DataW Value, w.ownsMap Try.prog 5 tokR b n D ∧ IsMap D ∧ ∀ r : Nat, r < 256 → ∀ z, D.atKey (.int .u8 (r : Int)) (.held z) = .held ((M r).getD z)
theorem MapV.made (w : World) : MapV (w.alloc (.map #[] 0)) w.heap.size 0 (fun _ => none) := ⟨_, World.ownsMap_made w _ _ _, Maps.isMap_empty, fun _ _ _ => rfl⟩
theorem MapV.keeps {w w' : World} {b n : Nat} {M : Nat → Option Value} (h : MapV w b n M) (hb : Below w.heap.size w w') : MapV w' b n M := by
  obtain ⟨D, ⟨es, clock, h1, h2, h3, h4⟩, h5, h6⟩ := h
  exact ⟨D, ⟨es, clock, (hb.block b (Array.getElem?_eq_some_iff.1 h1).1).trans h1, h2, h3, h4⟩, h5, h6⟩
theorem MapV.other {w w' : World} {b n : Nat} {M : Nat → Option Value} (h : MapV w b n M) (hb : w'.heap[b]? = w.heap[b]?) : MapV w' b n M := by
  obtain ⟨D, ⟨es, clock, h1, h2, h3, h4⟩, h5, h6⟩ := h
  exact ⟨D, ⟨es, clock, hb.trans h1, h2, h3, h4⟩, h5, h6⟩
theorem MapV.lt {w : World} {b n : Nat} {M : Nat → Option Value} (h : MapV w b n M) : b < w.heap.size := by
  obtain ⟨D, h1, _⟩ := h
  exact h1.lt
theorem MapV.run {w : World} {b n : Nat} {M : Nat → Option Value} (h : MapV w b n M) {t e : TypeId} (ht : Try.prog.underlying t = some (.map 5 e)) {z : Value} (hz : (zeroValue e).run Try.prog w = .ok z w) {r : Nat} (hr : r < 256) :
    (Instr.lookup t (.map (some b)) (.int .u8 (r : Int)) false).run Try.prog w = .ok ((M r).getD z) w := by
  obtain ⟨D, h1, h2, h3⟩ := h
  obtain ⟨v, ps, hrun, hv⟩ := h1.lookup u8law ht hz (zd := .held z) (zp := []) rfl (u8key hr)
  rw [h3 r hr] at hv
  have : v = (M r).getD z := by
    have := (Prod.mk.inj (Option.some.inj hv)).1
    exact DataW.held.inj this
  rw [← this]
  exact hrun
theorem MapV.put {w' : World} {b n : Nat} {M : Nat → Option Value} {D : DataW Value} {r : Nat} {v : Value} (hD : IsMap D) (hat : ∀ r : Nat, r < 256 → ∀ z, D.atKey (.int .u8 (r : Int)) (.held z) = .held ((M r).getD z))
    (h : w'.ownsMap Try.prog 5 tokR b n (D.put (.int .u8 (r : Int)) (.held v))) : MapV w' b n (fun k => if k = r then some v else M k) := by
  refine ⟨_, h, hD.put _ _, fun k hk z => ?_⟩
  by_cases hkr : k = r
  · subst hkr
    rw [Maps.atKey_put_same hD (show WideAt.IsKeyLit (.int .u8 (k : Int)) from trivial)]
    simp
  · rw [Maps.atKey_put_other (by intro h; injection h with _ h; omega), hat k hk]
    simp [hkr]
/-- A look-up, at the operation. -/
theorem wpList_lookup_v (w : World) {ops : Array Oper} {rest : List Oper} {o : Oper} {a : Act} {Q : Exit → Act → World → Prop}
    (hg : o.guard = none) (m x : Operand) (t e : TypeId) (hop : o.op = Op.lookup t m x false) (ht : Try.prog.underlying t = some (.map 5 e)) (z : Value) (hz : (zeroValue e).run Try.prog w = .ok z w)
    (b n r : Nat) (M : Nat → Option Value) (hM : MapV w b n M) (hm : a.eval m = .map (some b)) (hx : a.eval x = .int .u8 (r : Int)) (hr : r < 256)
    (hK : wpList Try.prog ops Q rest (a.put o.dst ((M r).getD z)) w) : wpList Try.prog ops Q (o :: rest) a w := by
  refine wpList_plain hg fun K' hK' => ?_
  have hrun := hM.run ht hz hr
  unfold Oper.wp
  simp [execOp, hop, hm, hx, hrun, Result.andThen]
  exact hK' _ _ hK
end Go.Proofs.Ytpgdnenkjommfaa
