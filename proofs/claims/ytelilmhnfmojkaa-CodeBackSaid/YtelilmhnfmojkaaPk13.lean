/- octavo/code.Read: what it answers. Conditions: the bytes read as such; at most a million of them. -/
import Derived.Test.YtelilmhnfmojkaaPk10
import Derived.Test.YtelilmhnfmojkaaPk12
import Derived.Test.YtelilmhnfmojkaaPk11

namespace Go.Proofs.Ytelilmhnfmojkaa.Codes
open Go.RowKit Go.Shelf Go.WideShapes Num Go.Proofs.Ytelilmhnfmojkaa.Place Ops
attribute [local go_sem ↓] Go.wp_at_zero Go.wp_at_succ

theorem HoldP.only {w w' : World} {base G : Nat} (ho : Only G w w') (hG : G < base) : ∀ {cs : List Value} {l : List Opn}, HoldP w base cs l → HoldP w' base cs l
  | _, [], h => h
  | _, _ :: _, ⟨v, d, h1, h2, h3⟩ => ⟨v, d, h1, own_only h2 ho hG, HoldP.only ho hG h3⟩
theorem OwnL.only {w w' : World} {base G : Nat} {v : Value} {l : List Opn} (h : OwnL w base v l) (ho : Only G w w') (hG : G < base) : OwnL w' base v l := by
  obtain ⟨cs, h1, h2⟩ := h
  exact ⟨cs, own_only h1 ho hG, h2.only ho hG⟩
theorem areAt_prefix {xs : List UInt8} {s : Nat} {l : List Opn} (h : AreAt xs s l) (k : Nat) : AreAt xs s (l.take k) := by
  obtain ⟨h1, t, e⟩ := h
  refine ⟨fun o ho => h1 o (List.mem_of_mem_take ho), bytesL (l.drop k) ++ t, ?_⟩
  rw [e, ← List.append_assoc, ← bytesL_append, List.take_append_drop]
/-- What the first number tells. -/
theorem many_none {xs : List UInt8} (h : (nextF xs 1024 (some 0)).2 = none) : ∀ L, ¬ IsList xs L := fun L hL => by
  obtain ⟨h1, h2, _⟩ := isList_iff.1 hL
  simp only [nextF, List.drop_zero, h1, true_and] at h
  rw [if_pos (by omega)] at h
  cases h
theorem many_some {xs : List UInt8} {m s0 : Nat} (h : nextF xs 1024 (some 0) = (m, some s0)) : m ≤ 1024 ∧ s0 = (enc m).length ∧ Num.get xs = (m, (enc m).length, 0) := by
  obtain ⟨s, hs, ⟨h1, t, h2⟩, h3, h4⟩ := next_some h
  cases hs
  rw [List.drop_zero, nums_one] at h2
  rw [nums_one] at h1
  refine ⟨by omega, by omega, ?_⟩
  rw [h2]; exact get_enc m h4 t
theorem read_fails {xs : List UInt8} {m s0 : Nat} {l : List Opn} {o : Opn} (h : Num.get xs = (m, (enc m).length, 0)) (hs : s0 = (enc m).length) (ha : AreAt xs s0 l) (hl : l.length < m) (ho : operF xs (some (s0 + (bytesL l).length)) = (o, none)) : ∀ L, ¬ IsList xs L := fun L hL => by
  obtain ⟨h1, h2, h3⟩ := isList_iff.1 hL
  rw [h] at h1
  simp only [Prod.mk.injEq] at h1
  rw [← h1.2.1, ← hs] at h3
  have hk : l.length < L.length := by rw [← h1.1]; exact hl
  have e : L.take l.length = l := areAt_one (areAt_prefix h3 _) ha (by rw [List.length_take]; omega)
  have h4 := areAt_take h3 hk
  rw [e] at h4
  rw [oper_yes h4] at ho
  cases ho
theorem read_done {xs : List UInt8} {m s0 : Nat} {l : List Opn} (h : Num.get xs = (m, (enc m).length, 0)) (hs : s0 = (enc m).length) (hm : m ≤ 1024) (ha : AreAt xs s0 l) (hl : l.length = m) : IsList xs l ∧ (listB l).length = s0 + (bytesL l).length := by
  subst hl
  refine ⟨isList_iff.2 ⟨h, hm, by rw [← hs]; exact ha⟩, by unfold listB; rw [List.length_append, hs]⟩
/-- What Read answers. -/
noncomputable def ansL (xs : List UInt8) : List Opn × Nat × Nat := match readO xs with
  | some (l, s) => (l, s, 0)
  | none => ([], 0, 8)
theorem ansL_yes {xs : List UInt8} {l : List Opn} (h : IsList xs l) : ansL xs = (l, (listB l).length, 0) := by unfold ansL; rw [read_yes h]
theorem ansL_no {xs : List UInt8} (h : ∀ l, ¬ IsList xs l) : ansL xs = ([], 0, 8) := by unfold ansL; rw [read_none h]
def ReadOut (l : List Opn) (s c : Nat) (w : World) (e : Ending) (w' : World) : Prop :=
  ∃ v, e = .returned (.tuple #[v, .int .i64 (s : Int), .int .i64 (c : Int)]) ∧ OwnL w' w.heap.size v l ∧ Below w.heap.size w w'
def lenV : Value → Nat
  | .slice _ n _ => n
  | _ => 0

set_option maxRecDepth 100000 in
set_option maxHeartbeats 8000000 in
theorem cRead_any {xs : List UInt8} {ao0 : Option Addr} {n cap0 : Nat} {w : World} (hn : n = xs.length) (hl : n ≤ 1000000) (hr : Reads w (.slice ao0 n cap0) xs) :
    Calls Try.prog 9 #[.slice ao0 n cap0] w (ReadOut (ansL xs).1 (ansL xs).2.1 (ansL xs).2.2 w) := by
  have SR : Src xs n (.slice ao0 n cap0) w w.heap.size := ⟨hl, hn, ⟨_, _, rfl⟩, fun W h => hr.keeps h⟩
  have B1 : Hid (Below w.heap.size w (w.alloc (.cells #[.slice ao0 n cap0, .int .i64 0, .int .i64 0] 58))) := (Below.refl _ _).alloc (Nat.le_refl _) _
  have R1 : Hid (Rd n (w.alloc (.cells #[.slice ao0 n cap0, .int .i64 0, .int .i64 0] 58)) w.heap.size (.slice ao0 n cap0) (some 0)) := ⟨0, 0, blk_new rfl, by omega, .inl ⟨rfl, rfl⟩⟩
  have NX := Lib.hid (SR.next B1.out R1.out 1024)
  have OP : Hid (∀ (W : World) (q : Option Nat), Below w.heap.size w W → Rd n W w.heap.size (.slice ao0 n cap0) q → Calls Try.prog 27 #[.pointer (some ⟨w.heap.size, 0, none⟩)] W (Told2 n (.slice ao0 n cap0) w.heap.size (operF xs q).1 (operF xs q).2 W)) := fun W q h h2 => oper_any SR h (Nat.le_refl _) h2
  have eg := enters_of Try.func26 (by kernel_rfl) rfl
  obtain ⟨⟨la, sa, ca⟩, ha⟩ : ∃ z, ansL xs = z := ⟨_, rfl⟩
  have HB : Hid ((∀ L, ¬ IsList xs L) → (la, sa, ca) = ([], 0, 8)) := fun h => by rw [← ha]; exact ansL_no h
  have HG : Hid (∀ L, IsList xs L → (la, sa, ca) = (L, (listB L).length, 0)) := fun L h => by rw [← ha]; exact ansL_yes h
  rw [ha]
  simp only
  obtain ⟨⟨m, q0⟩, hq0⟩ : ∃ z, nextF xs 1024 (some 0) = z := ⟨_, rfl⟩
  have b1 := next_le xs 1024 (some 0)
  rw [hq0] at NX b1
  simp only at NX b1
  have hm : m ≤ 1024 := by omega
  have ST0 : Hid ((∃ s0, q0 = some s0 ∧ s0 = (enc m).length ∧ Num.get xs = (m, (enc m).length, 0)) ∨ (q0 = none ∧ m = 0 ∧ ∀ L, ¬ IsList xs L)) := by
    cases q0 with
    | none =>
      refine .inr ⟨rfl, ?_, many_none (by rw [hq0])⟩
      by_cases h : (Num.get xs).2.2 = 0 ∧ ((Num.get xs).1 : Int) ≤ 1024
      · simp only [nextF, List.drop_zero] at hq0
        rw [if_pos h] at hq0; cases hq0
      · simp only [nextF, List.drop_zero] at hq0
        rw [if_neg h] at hq0
        simp at hq0; omega
    | some s0 => obtain ⟨h1, h2, h3⟩ := many_some hq0; exact .inl ⟨s0, rfl, h2, h3⟩
  clear hn hl hr SR ha hq0 b1
  go_enter Try.func9, Try.ntmps9
  go_wp2_with fail
  refine NX.out.mono ?_
  rintro e w1 ⟨rfl, r1, o1⟩
  have R2 := Lib.hid r1
  have B2 := Lib.hid (B1.out.trans o1.below)
  have hsz : w.heap.size + 1 ≤ w1.heap.size := by
    obtain ⟨s, c, h1, h2⟩ := r1
    exact (Array.getElem?_eq_some_iff.1 h1).1
  have HSZ := Lib.hid hsz
  have L2 : Hid (OwnL w1 (w.heap.size + 1) (.slice none 0 0) []) := OwnL.nil _ _
  clear r1 o1 NX R1 B1 hsz
  obtain ⟨H, hH⟩ : ∃ H, H = w.heap.size := ⟨_, rfl⟩
  go_wp2
  go_loopw [2] (fun v wr => ∃ (l : List Opn) (q : Option Nat), l.length ≤ m ∧ (∃ ao cap, v = .slice ao l.length cap) ∧ Hid (OwnL wr (w.heap.size + 1) v l) ∧ Hid (Rd n wr w.heap.size (.slice ao0 n cap0) q) ∧ Hid (Below w.heap.size w wr) ∧ Hid (w.heap.size + 1 ≤ wr.heap.size) ∧
    Hid ((∃ s0 s, q = some s ∧ s0 = (enc m).length ∧ Num.get xs = (m, (enc m).length, 0) ∧ AreAt xs s0 l ∧ s = s0 + (bytesL l).length) ∨ (q = none ∧ ∀ L, ¬ IsList xs L))) (fun v _ => m - lenV v)
  case atStart =>
    refine ⟨[], q0, by simp, ⟨none, 0, rfl⟩, L2, R2, B2, HSZ, ?_⟩
    rcases ST0.out with ⟨s0, h1, h2, h3⟩ | ⟨h1, _, h2⟩
    · exact .inl ⟨s0, s0, h1, h2, h3, ⟨by simp, _, rfl⟩, by simp [bytesL]⟩
    · exact .inr ⟨h1, h2⟩
  case round =>
    clear L2 R2 B2 HSZ ST0 hH
    obtain ⟨l, q, hlm, ⟨ao, cap, rfl⟩, hown, hrd, hbel, hsz, hst⟩ := hrel
    obtain ⟨s, c, g1, g2, g3⟩ := hrd.out
    obtain ⟨i0, i1, i2, -, -⟩ := cells_blk3 g1
    obtain ⟨j, hj⟩ : ∃ j, j = l.length := ⟨_, rfl⟩
    have HJ := Lib.hid hj
    rw [← hj] at hlm hown ⊢
    by_cases hjm : j < m
    · have q1 : decide (j < m) = true := by simpa using hjm
      have q1' : decide ((j : Int) < (m : Int)) = true := decide_eq_true (by omega)
      rcases g3 with ⟨h1, h2⟩ | ⟨h1, h2⟩
      · subst h1 h2
        obtain ⟨s0, hst⟩ : ∃ s0, s0 = (enc m).length ∧ Num.get xs = (m, (enc m).length, 0) ∧ AreAt xs s0 l ∧ s = s0 + (bytesL l).length := by
          rcases hst.out with ⟨s0, s', h1, h2⟩ | ⟨h1, _⟩
          · cases h1; exact ⟨s0, h2⟩
          · cases h1
        have HST := Lib.hid hst
        have OPW := Lib.hid (OP.out wr (some s) hbel.out hrd.out)
        obtain ⟨⟨o, q'⟩, ho⟩ : ∃ z, operF xs (some s) = z := ⟨_, rfl⟩
        rw [ho] at OPW
        simp only at OPW
        have HOP := Lib.hid ho
        have HO : Hid (∀ v : Value, opv o v = .agg #[.int .u8 (o.k : Int), .int .u32 (o.t : Int), .int .u8 (o.r : Int), v, .int .i64 o.p]) := fun v => rfl
        unfold Told2 at OPW
        obtain ⟨k, hk⟩ : ∃ k, o.k = k := ⟨_, rfl⟩
        obtain ⟨t, ht⟩ : ∃ k, o.t = k := ⟨_, rfl⟩
        obtain ⟨r, hr⟩ : ∃ k, o.r = k := ⟨_, rfl⟩
        obtain ⟨p, hp⟩ : ∃ k, o.p = k := ⟨_, rfl⟩
        have HFV : Hid (∀ v : Value, [.int .u8 (k : Int), .int .u32 (t : Int), .int .u8 (r : Int), v, .int .i64 p] = [Value.int .u8 (o.k : Int), .int .u32 (o.t : Int), .int .u8 (o.r : Int), v, .int .i64 o.p]) := fun v => by rw [hk, ht, hr, hp]
        rw [hk, ht, hr, hp] at HO
        simp only [HO.out] at OPW
        obtain ⟨no, hno⟩ : ∃ n, n = o.pl.length := ⟨_, rfl⟩
        have HNO := Lib.hid hno
        rw [← hno] at OPW
        clear hst ho hk ht hr hp hno g1 g2 hj
        go_wp2_with fail
        refine OPW.out.mono ?_
        rintro e w5 ⟨aoO, capO, rfl, o5, r5, on5⟩
        have L5 := Lib.hid (hown.out.only on5 (Nat.lt_succ_self _))
        have R5 := Lib.hid r5
        have B5 := Lib.hid (hbel.out.trans on5.below)
        have S5 : Hid (w.heap.size + 1 ≤ w5.heap.size) := Nat.le_trans hsz.out on5.size
        obtain ⟨cs, lo, lh⟩ := L5.out
        rw [← HJ.out] at lo
        have LO := Lib.hid lo
        have LH := Lib.hid lh
        have PO : Hid (w5.ownsRow (w.heap.size + 1) 71 3 (.slice aoO no capO) no (runs o.pl)) := op_base o5 hsz.out
        have SE : Hid (Sees (w5.alloc (.cells #[.int .u8 (k : Int), .int .u32 (t : Int), .int .u8 (r : Int), .slice aoO no capO, .int .i64 p] 35)) (.slice (some ⟨w5.heap.size, 0, none⟩) 1 1) 5 1 [.int .u8 (k : Int), .int .u32 (t : Int), .int .u8 (r : Int), .slice aoO no capO, .int .i64 p]) := sees_new w5 [.int .u8 (k : Int), .int .u32 (t : Int), .int .u8 (r : Int), .slice aoO no capO, .int .i64 p] 5 1 rfl (by omega) 35 (0, 0)
        have OA : Hid ((w5.alloc (.cells #[.int .u8 (k : Int), .int .u32 (t : Int), .int .u8 (r : Int), .slice aoO no capO, .int .i64 p] 35)).ownsRow (w.heap.size + 1) 35 5 (.slice ao j cap) j cs) := own_stays LO.out ((Below.refl _ _).alloc (Nat.le_refl _) _)
        have FO : ∀ x ∈ [Value.int .u8 (k : Int), .int .u32 (t : Int), .int .u8 (r : Int), .slice aoO no capO, .int .i64 p], x.oneCell' = true := by rw [HFV.out]; exact five_one o _ ⟨_, _, _, rfl⟩
        have FO2 := Lib.hid FO
        have bz : w.heap.size + 1 ≤ (w5.alloc (.cells #[.int .u8 (k : Int), .int .u32 (t : Int), .int .u8 (r : Int), .slice aoO no capO, .int .i64 p] 35)).heap.size := by have := S5.out; simp; omega
        clear o5 r5 on5 lo lh FO hown hrd hbel hsz i0 i1 i2 L5
        go_wp2_with (at_builtin; refine wpList_append_sees rfl (.tmp 19) (.tmp 21) 26 35 rfl Try.underlying26 op_info rfl (by decide) (w.heap.size + 1) _ j cs rfl OA.out _ 1 [.int .u8 (k : Int), .int .u32 (t : Int), .int .u8 (r : Int), .slice aoO no capO, .int .i64 p] rfl SE.out FO2.out ?k1 ?k2 ?k3 ?_)
        case k1 => omega
        case k2 => omega
        case k3 => exact bz
        rintro v6 w6 o6 g6 b6
        have L6 : Hid (OwnL w6 (w.heap.size + 1) v6 (l ++ [o])) := by
          rw [HJ.out] at LO o6
          rw [HFV.out] at o6
          have PO2 := PO.out
          rw [HNO.out] at PO2 o6
          have gx := g6
          exact OwnL.snoc (W := w5) LO.out LH.out ((Below.refl _ _).alloc (Nat.le_refl _) _) (own_stays (by rw [← HNO.out] at PO2 ⊢; exact PO2) ((Below.refl _ _).alloc (Nat.le_refl _) _)) (by rw [HJ.out] at gx; exact gx) o6 rfl
        have B6' : Below (w.heap.size + 1) w5 w6 := ((Below.refl _ _).alloc S5.out _).trans b6
        have R6 := Lib.hid (R5.out.below B6' (Nat.lt_succ_self _))
        have B6 := Lib.hid (B5.out.trans (B6'.mono (Nat.le_succ _)))
        have S6 : Hid (w.heap.size + 1 ≤ w6.heap.size) := Nat.le_trans S5.out B6'.size
        have HL6 : (l ++ [o]).length = j + 1 := by rw [List.length_append, ← HJ.out]; rfl
        obtain ⟨va, vc, rfl⟩ : ∃ ao cap, v6 = .slice ao (l ++ [o]).length cap := L6.out.opl.shape
        have ST6 : Hid ((∃ s0 s, q' = some s ∧ s0 = (enc m).length ∧ Num.get xs = (m, (enc m).length, 0) ∧ AreAt xs s0 (l ++ [o]) ∧ s = s0 + (bytesL (l ++ [o])).length) ∨ (q' = none ∧ ∀ L, ¬ IsList xs L)) := by
          obtain ⟨t1, t2, t3, t4⟩ := HST.out
          cases q' with
          | none =>
            have h7 := HOP.out
            rw [t4] at h7
            exact .inr ⟨rfl, read_fails t2 t1 t3 (by rw [← HJ.out]; exact hjm) h7⟩
          | some s' =>
            obtain ⟨s'', e1, e2, e3⟩ := oper_some HOP.out
            cases e1
            rw [t4] at e2
            refine .inl ⟨s0, s', rfl, t1, t2, areAt_snoc t3 e2, ?_⟩
            rw [bytesL_append, List.length_append, e3, t4]; simp [bytesL]; omega
        have HLL := Lib.hid HL6
        clear o6 g6 b6 B6' OA SE LO LH PO R5 B5 S5 bz HL6
        go_wp2
        go_roundw
        case rel => exact ⟨l ++ [o], q', by rw [HLL.out]; omega, ⟨va, vc, rfl⟩, L6, R6, B6, S6, ST6⟩
        case measure => simp only [lenV]; rw [HLL.out]; omega
      · subst h1 h2
        have hno : ∀ L, ¬ IsList xs L := by
          rcases hst.out with ⟨s0, s', h1, _⟩ | ⟨_, h⟩
          · cases h1
          · exact h
        have hans := HB.out hno
        obtain ⟨rfl, rfl, rfl⟩ : la = [] ∧ sa = 0 ∧ ca = 8 := by simpa using hans
        clear hno hans hst g1 g2 hj
        go_wp2
        go_quiet (fail)
        go_wp2
        go_ret3
        exact ⟨_, rfl, OwnL.nil _ _, below_draw hbel.out _⟩
    · have q1 : decide (j < m) = false := by simpa using hjm
      have q1' : decide ((j : Int) < (m : Int)) = false := decide_eq_false (by omega)
      rcases g3 with ⟨h1, h2⟩ | ⟨h1, h2⟩
      · subst h1 h2
        obtain ⟨s0, hst⟩ : ∃ s0, s0 = (enc m).length ∧ Num.get xs = (m, (enc m).length, 0) ∧ AreAt xs s0 l ∧ s = s0 + (bytesL l).length := by
          rcases hst.out with ⟨s0, s', h1, h2⟩ | ⟨h1, _⟩
          · cases h1; exact ⟨s0, h2⟩
          · cases h1
        obtain ⟨d1, d2⟩ := read_done hst.2.1 hst.1 hm hst.2.2.1 (by omega)
        have hans := HG.out l d1
        rw [d2, ← hst.2.2.2] at hans
        obtain ⟨rfl, rfl, rfl⟩ : la = l ∧ sa = s ∧ ca = 0 := by simpa using hans
        have LF := Lib.hid (hown.out.base (Nat.le_succ _))
        clear hst d1 d2 hans g1 g2 hj hown HG HB
        go_wp2
        go_quiet (fail)
        go_wp2
        go_ret3
        exact ⟨.slice ao j cap, rfl, LF.out.keeps (below_draw (Below.refl _ _) _), below_draw hbel.out _⟩
      · subst h1 h2
        have hno : ∀ L, ¬ IsList xs L := by
          rcases hst.out with ⟨s0, s', h1, _⟩ | ⟨_, h⟩
          · cases h1
          · exact h
        have hans := HB.out hno
        obtain ⟨rfl, rfl, rfl⟩ : la = [] ∧ sa = 0 ∧ ca = 8 := by simpa using hans
        clear hno hans hst g1 g2 hj
        go_wp2
        go_quiet (fail)
        go_wp2
        go_ret3
        exact ⟨_, rfl, OwnL.nil _ _, below_draw hbel.out _⟩
end Go.Proofs.Ytelilmhnfmojkaa.Codes

/- octavoref10.Numbers, fits, behind: what each answers. Conditions: the bytes read as such; at most a million of them. -/
namespace Go.Proofs.Ytelilmhnfmojkaa.Codes
open Go.RowKit Go.WideShapes Num Go.Proofs.Ytelilmhnfmojkaa.Place Ops
attribute [local go_sem ↓] Go.wp_at_zero Go.wp_at_succ

/-- So many numbers that bytes begin with, each at most so great. -/
def numsOf (high : Nat) : Nat → List UInt8 → Option (List Nat)
  | 0, _ => some []
  | m + 1, xs => if (get xs).2.2 = 0 ∧ (get xs).1 ≤ high then (numsOf high m (xs.drop (get xs).2.1)).map ((get xs).1 :: ·) else none
theorem numsOf_some {high : Nat} : ∀ {m : Nat} {xs : List UInt8} {l : List Nat}, numsOf high m xs = some l → l.length = m ∧ (∀ n ∈ l, n ≤ high) ∧ ∃ t, xs = nums l ++ t
  | 0, xs, l, h => by
    simp only [numsOf, Option.some.injEq] at h
    subst h
    exact ⟨rfl, by simp, xs, rfl⟩
  | m + 1, xs, l, h => by
    simp only [numsOf] at h
    rcases get_cases xs with hg | ⟨k, t, hg, hk, ht⟩
    · rw [hg] at h; simp at h
    · rw [hg] at h
      simp only [true_and] at h
      by_cases hh : k ≤ high
      · rw [if_pos hh] at h
        obtain ⟨l', h1, rfl⟩ := Option.map_eq_some_iff.1 h
        obtain ⟨e1, e2, u, e3⟩ := numsOf_some h1
        refine ⟨by simp [e1], fun n hn => ?_, u, ?_⟩
        · rcases List.mem_cons.1 hn with rfl | hn
          · exact hh
          · exact e2 n hn
        · rw [ht, List.drop_left] at e3
          rw [ht, e3]; simp [nums]
      · rw [if_neg hh] at h; simp at h
theorem numsOf_yes {high : Nat} (hh : high ≤ most) : ∀ (l : List Nat) (xs t : List UInt8), (∀ n ∈ l, n ≤ high) → xs = nums l ++ t → numsOf high l.length xs = some l
  | [], _, _, _, _ => rfl
  | n :: l, xs, t, h, e => by
    have hn := h n (by simp)
    rw [nums, List.append_assoc] at e
    have hg : get xs = (n, (enc n).length, 0) := by rw [e]; exact get_enc n (by omega) _
    simp only [List.length_cons, numsOf, hg, true_and, hn, if_true]
    rw [numsOf_yes hh l (xs.drop (enc n).length) t (fun k hk => h k (by simp [hk])) (by rw [e, List.drop_left])]
    rfl

/-- What Numbers answers. -/
def NumsOut (F : Option (List Nat)) (B : Nat) (w : World) (e : Ending) (w' : World) : Prop :=
  (∃ l v, F = some l ∧ e = .returned (.tuple #[v, .int .i64 ((nums l).length : Int), .bool true]) ∧ w'.ownsRow B 3 1 v l.length (nv l) ∧ Below B w w') ∨
  (F = none ∧ e = .returned (.tuple #[.slice none 0 0, .int .i64 0, .bool false]) ∧ Below B w w')
theorem int_info : (Try.prog.info? 3).map (fun i => (i.zero, i.size, i.bytes)) = some (some (.int .i64 0), 1, 8) := by kernel_rfl
theorem nv_append (l m : List Nat) : nv (l ++ m) = nv l ++ nv m := by simp [nv]
theorem nv_oneCell (l : List Nat) : ∀ u ∈ nv l, u.oneCell' = true := by
  intro u hu
  simp only [nv, List.mem_map] at hu
  obtain ⟨x, _, rfl⟩ := hu
  rfl

set_option maxHeartbeats 8000000 in
theorem refNumbers_any {xs : List UInt8} {ao : Option Addr} {n cap : Nat} {w : World} (hn : n = xs.length) (hl : n ≤ 1000000) (hr : Reads w (.slice ao n cap) xs) (m high : Nat) (hm : m ≤ 1000) :
    Calls Try.prog 33 #[.slice ao n cap, .int .i64 (m : Int), .int .i64 (high : Int)] w (NumsOut (numsOf high m xs) w.heap.size w) := by
  obtain ⟨B, hB⟩ : ∃ B, B = w.heap.size := ⟨_, rfl⟩
  rw [← hB]
  have HRD : Hid (∀ W : World, Below B w W → Reads W (.slice ao n cap) xs) := fun W h => hr.keeps (by rw [← hB]; exact h)
  have HBL : Hid (B ≤ w.heap.size) := by rw [hB]; exact Nat.le_refl _
  have HN := Lib.hid hn
  obtain ⟨F, hF⟩ : ∃ F, F = numsOf high m xs := ⟨_, rfl⟩
  have HF := Lib.hid hF
  rw [← hF]
  have W0 : Hid (w.ownsRow B 3 1 (.slice none 0 0) ([] : List Nat).length (nv [])) := World.ownsRow_nil _ _ _ _
  clear hn hr hB hF
  go_enter Try.func33, Try.ntmps33
  go_wp2
  go_loopw [9, 10, 11] (fun v a i wr => ∃ (j s : Nat) (l : List Nat), j ≤ m ∧ i = .int .i64 (j : Int) ∧ a = .int .i64 (s : Int) ∧ s ≤ n ∧ Hid (l.length = j) ∧ Hid (s = (nums l).length) ∧ Hid ((numsOf high (m - j) (xs.drop s)).map (l ++ ·) = F) ∧ Hid (wr.ownsRow B 3 1 v l.length (nv l)) ∧ Hid (Below B w wr)) (fun _ _ i _ => m - (intOf i).toNat)
  case atStart => exact ⟨0, 0, [], by omega, rfl, rfl, by omega, Lib.hid rfl, Lib.hid rfl, by unfold Hid; rw [HF.out]; simp, W0, Below.refl _ _⟩
  case round =>
    clear W0 HF
    obtain ⟨j, s, l, hj, rfl, rfl, hs, hll, hsl, hst, hown, hbel⟩ := hrel
    by_cases hjm : j < m
    · have q1 : decide (j < m) = true := by simpa using hjm
      have q2 : (0 : Int) ≤ (s : Int) := by omega
      have q3 : (s : Int) ≤ (n : Int) := by omega
      obtain ⟨d, hd⟩ : ∃ d, m - j = d + 1 := ⟨m - j - 1, by omega⟩
      have hst2 := hst.out
      rw [hd] at hst2
      simp only [numsOf] at hst2
      have HD : Hid (d = m - (j + 1)) := by unfold Hid; omega
      have hrd := HRD.out wr hbel.out
      have BAD : Hid (Num.get (xs.drop s) = (0, 0, 8) → F = none) := fun h => by rw [← hst2, h]; rfl
      clear hd hst
      rcases reads_from hrd hs with ⟨rfl, rfl, hx, rfl⟩ | ⟨hx, rfl, bb, oo, sp, rfl⟩ | ⟨bb, oo, rfl, ⟨hc, hns, hr2⟩ | ⟨hc, hr2⟩⟩
      · obtain rfl : s = 0 := by omega
        have hg : Num.get (xs.drop 0) = (0, 0, 8) := by rw [hx]; rfl
        have hr3 : Reads wr (.slice none 0 0) (xs.drop 0) := by rw [hx]; exact Reads.nil _
        have HFN := Lib.hid (BAD.out hg)
        have HG := Lib.hid hg
        have HR3 := Lib.hid hr3
        clear BAD hst2 hg hr3 hrd
        go_wp2_with fail
        refine (refGet_reads HR3.out HG.out).mono ?_
        rintro e w2 ⟨rfl, rfl⟩
        go_wp2
        go_ret3
        exact .inr ⟨HFN.out, rfl, hbel.out⟩
      · obtain rfl : s = 0 := by omega
        have hg : Num.get (xs.drop 0) = (0, 0, 8) := by rw [hx]; rfl
        by_cases hc : cap = 0
        · subst hc
          have hr3 : Reads wr (.slice (some ⟨bb, oo, sp⟩) 0 0) (xs.drop 0) := hrd
          have HFN := Lib.hid (BAD.out hg)
          have HG := Lib.hid hg
          have HR3 := Lib.hid hr3
          clear BAD hst2 hg hr3 hrd
          go_wp2_with fail
          refine (refGet_reads HR3.out HG.out).mono ?_
          rintro e w2 ⟨rfl, rfl⟩
          go_wp2
          go_ret3
          exact .inr ⟨HFN.out, rfl, hbel.out⟩
        · have hr3 : Reads wr (.slice (some ⟨bb, oo, sp⟩) 0 cap) (xs.drop 0) := hrd
          have HFN := Lib.hid (BAD.out hg)
          have HG := Lib.hid hg
          have HR3 := Lib.hid hr3
          clear BAD hst2 hg hr3 hrd
          go_wp2_with fail
          refine (refGet_reads HR3.out HG.out).mono ?_
          rintro e w2 ⟨rfl, rfl⟩
          go_wp2
          go_ret3
          exact .inr ⟨HFN.out, rfl, hbel.out⟩
      · have hd0 : xs.drop s = [] := by rw [List.drop_eq_nil_iff, ← HN.out]; omega
        have hg : Num.get (xs.drop s) = (0, 0, 8) := by rw [hd0]; rfl
        obtain rfl : n = cap := by omega
        obtain rfl : n = s := by omega
        have hr3 := hr2
        have HFN := Lib.hid (BAD.out hg)
        have HG := Lib.hid hg
        have HR3 := Lib.hid hr3
        clear BAD hst2 hg hr3 hrd
        go_wp2_with fail
        refine (refGet_reads HR3.out HG.out).mono ?_
        rintro e w2 ⟨rfl, rfl⟩
        go_wp2
        go_ret3
        exact .inr ⟨HFN.out, rfl, hbel.out⟩
      · have hr3 := hr2
        rcases get_cases (xs.drop s) with hg | ⟨k, t, hg, hk, ht⟩
        · have HFN := Lib.hid (BAD.out hg)
          have HG := Lib.hid hg
          have HR3 := Lib.hid hr3
          clear BAD hst2 hg hr3 hrd
          go_wp2_with fail
          refine (refGet_reads HR3.out HG.out).mono ?_
          rintro e w2 ⟨rfl, rfl⟩
          go_wp2
          go_ret3
          exact .inr ⟨HFN.out, rfl, hbel.out⟩
        · have hE1 := (encF_len 5 k).1
          have hE2 := (encF_len 5 k).2
          obtain ⟨E, hE⟩ : ∃ E, E = (enc k).length := ⟨_, rfl⟩
          rw [show encF 5 k = enc k from rfl, ← hE] at hE1 hE2
          have hz : s + E ≤ n := by
            have := congrArg List.length ht
            rw [List.length_drop, List.length_append, ← hE, ← HN.out] at this
            omega
          rw [← hE] at hg
          have HG := Lib.hid hg
          have HR3 := Lib.hid hr3
          rw [hg] at hst2
          simp only [true_and] at hst2
          have e1 : IntKind.i64.wrap ((s : Int) + E) = (s : Int) + E := IntWalk.i64_in _ (by omega)
          have hz2 : ((s : Int) + E) = ((s + E : Nat) : Int) := by omega
          have HE := Lib.hid hE
          have HZ2 := Lib.hid hz2
          clear hz2
          by_cases hkh : k ≤ high
          · rw [if_pos hkh] at hst2
            have q5 : decide (high < k) = false := by simp; omega
            have q6 : decide ((high : Int) < (k : Int)) = false := by simp; omega
            have HST := Lib.hid hst2
            have hll2 := hll.out
            clear BAD hst2 hg hE ht hr2 hr3 hrd
            go_wp2_with fail
            refine (refGet_reads HR3.out HG.out).mono ?_
            rintro e w2 ⟨rfl, rfl⟩
            have SE : Hid (Sees (wr.alloc (.cells #[.int .i64 (k : Int)] 3)) (.slice (some ⟨wr.heap.size, 0, none⟩) 1 1) 1 1 (nv [k])) := sees_new wr [.int .i64 (k : Int)] 1 1 rfl (by omega) 3 (0, 0)
            have OA : Hid ((wr.alloc (.cells #[.int .i64 (k : Int)] 3)).ownsRow B 3 1 u9 l.length (nv l)) := own_stays hown.out ((Below.refl _ _).alloc (Nat.le_refl _) _)
            have BA : Hid (Below B w (wr.alloc (.cells #[.int .i64 (k : Int)] 3))) := hbel.out.alloc (Nat.le_trans HBL.out hbel.out.size) _
            have bz : B ≤ (wr.alloc (.cells #[.int .i64 (k : Int)] 3)).heap.size := Nat.le_trans HBL.out BA.out.size
            go_wp2_with (at_builtin; refine wpList_append_sees rfl (.tmp 35) (.tmp 37) 64 3 rfl Try.underlying64 int_info rfl (by decide) B _ l.length (nv l) rfl OA.out _ 1 (nv [k]) rfl SE.out (nv_oneCell _) ?k1 ?k2 ?k3 ?_)
            case k1 => omega
            case k2 => omega
            case k3 => exact bz
            rintro v5 w5 o5 g5 b5
            have O5 : Hid (w5.ownsRow B 3 1 v5 (l ++ [k]).length (nv (l ++ [k]))) := by unfold Hid; rw [nv_append, List.length_append, hll.out]; exact o5
            have B5 : Hid (Below B w w5) := BA.out.trans b5
            have HL5 : Hid ((l ++ [k]).length = j + 1) := by unfold Hid; rw [List.length_append, hll.out]; rfl
            have HS5 : Hid (s + E = (nums (l ++ [k])).length) := by unfold Hid; rw [nums_append, nums_one, List.length_append, ← hsl.out, ← HE.out]
            have HF5 : Hid ((numsOf high (m - (j + 1)) (xs.drop (s + E))).map ((l ++ [k]) ++ ·) = F) := by
              unfold Hid
              rw [← HST.out, ← HD.out, ← List.drop_drop, Option.map_map]
              congr 1
              funext y
              simp
            clear o5 g5 b5 OA SE BA bz hown hbel HST HR3 HG
            go_wp2
            go_roundw
            case rel => exact ⟨j + 1, s + E, l ++ [k], by omega, by go_num, by rw [HZ2.out], hz, HL5, HS5, HF5, O5, B5⟩
            case measure => simp [intOf]; omega
          · rw [if_neg hkh] at hst2
            have q5 : decide (high < k) = true := by simp; omega
            have q6 : decide ((high : Int) < (k : Int)) = true := by simp; omega
            have HFN : Hid (F = none) := hst2.symm
            clear BAD hst2 hg hE ht hr2 hr3 hrd
            go_wp2_with fail
            refine (refGet_reads HR3.out HG.out).mono ?_
            rintro e w2 ⟨rfl, rfl⟩
            go_wp2
            go_ret3
            exact .inr ⟨HFN.out, rfl, hbel.out⟩
    · have q1 : decide (j < m) = false := by simpa using hjm
      have hd : m - j = 0 := by omega
      have hst2 := hst.out
      rw [hd] at hst2
      simp only [numsOf, Option.map_some, List.append_nil] at hst2
      have HFS : Hid (F = some l) := hst2.symm
      clear hst2
      have HSL := hsl
      clear hst hd
      go_wp2
      go_ret3
      exact .inl ⟨l, u9, HFS.out, by rw [← HSL.out]; rfl, hown.out, hbel.out⟩

theorem behind_any (k : Int) (w : World) :
    Calls Try.prog 34 #[.int .i64 k] w fun e w' => e = .returned (.int .i64 (if k = 1 then 1 else if k = 2 then 0 else 2)) ∧ w = w' := by
  by_cases h1 : k = 1
  · subst h1
    go_enter Try.func34, Try.ntmps34
    go_wp2
    go_ret
    exact ⟨rfl, rfl⟩
  · rw [if_neg h1]
    have q1 : (k == 1) = false := by simpa using h1
    by_cases h2 : k = 2
    · subst h2
      go_enter Try.func34, Try.ntmps34
      go_wp2
      go_ret
      exact ⟨rfl, rfl⟩
    · rw [if_neg h2]
      have q2 : (k == 2) = false := by simpa using h2
      go_enter Try.func34, Try.ntmps34
      go_wp2
      go_ret
      exact ⟨rfl, rfl⟩
end Go.Proofs.Ytelilmhnfmojkaa.Codes

/- octavoref10.fits: what it answers. Conditions: the numbers are at most the greatest time, three for each run. -/
namespace Go.Proofs.Ytelilmhnfmojkaa.Codes
open Go.RowKit Go.WideShapes Num Go.Proofs.Ytelilmhnfmojkaa.Place Ops
attribute [local go_sem ↓] Go.wp_at_zero Go.wp_at_succ

/-- Do numbers tell runs that fit, behind a time? -/
def fitsF : Int → List Nat → Bool
  | z, a :: b :: c :: l => decide (1 ≤ a ∧ 1 ≤ c ∧ c ≤ 4096 ∧ b ≤ 255 ∧ z + (a : Int) + (c : Int) - 1 ≤ 1073741824) && fitsF (z + (a : Int) + (c : Int) - 1) l
  | _, _ => true
theorem fits_no {z : Int} {a b c : Nat} {l : List Nat} (h : ¬ (1 ≤ a ∧ 1 ≤ c ∧ c ≤ 4096 ∧ b ≤ 255 ∧ z + (a : Int) + (c : Int) - 1 ≤ 1073741824)) : fitsF z (a :: b :: c :: l) = false := by
  simp only [fitsF, decide_eq_false h, Bool.false_and]
theorem fits_yes {z : Int} {a b c : Nat} {l : List Nat} (h : 1 ≤ a ∧ 1 ≤ c ∧ c ≤ 4096 ∧ b ≤ 255 ∧ z + (a : Int) + (c : Int) - 1 ≤ 1073741824) : fitsF z (a :: b :: c :: l) = fitsF (z + (a : Int) + (c : Int) - 1) l := by
  simp only [fitsF, decide_eq_true h, Bool.true_and]
theorem three_drop {L : List Nat} {k : Nat} (h : k + 2 < L.length) : L.drop k = L.getD k 0 :: L.getD (k + 1) 0 :: L.getD (k + 2) 0 :: L.drop (k + 3) := by
  rw [List.drop_eq_getElem_cons (by omega), List.drop_eq_getElem_cons (by omega), List.drop_eq_getElem_cons (by omega)]
  simp [List.getD, List.getElem?_eq_getElem (show k < L.length by omega), List.getElem?_eq_getElem (show k + 1 < L.length by omega), List.getElem?_eq_getElem h]
/-- A slice of numbers. -/
def Nums (w : World) (v : Value) (L : List Nat) : Prop := Sees w v 1 L.length (nv L)
theorem Nums.keeps {w w' : World} {v : Value} {L : List Nat} (h : Nums w v L) (hb : Below w.heap.size w w') : Nums w' v L := Sees.keeps h hb
theorem Nums.at {w : World} {ao : Option Addr} {m cap : Nat} {L : List Nat} (h : Nums w (.slice ao m cap) L) (h0 : 0 < L.length) :
    ∃ b off, ao = some ⟨b, off, none⟩ ∧ b < w.heap.size ∧ ∀ k, k < L.length → w.cell? ⟨b, off + k, none⟩ = some (.int .i64 ((L.getD k 0 : Nat) : Int)) := by
  obtain ⟨b, off, h1, h2, h3⟩ := Sees.at h 0 (by simpa [nv] using h0)
  refine ⟨b, off, h1, h2, fun k hk => (h3 k (by simpa [nv] using hk)).trans ?_⟩
  simp [nv, List.getD, List.getElem?_eq_getElem hk]

set_option maxHeartbeats 4000000 in
theorem fits_any {v : Value} {L : List Nat} {w : World} (hv : Nums w v L) (hl : L.length ≤ 1000) (hs : ∀ n ∈ L, n ≤ 1073741824) :
    Calls Try.prog 35 #[v] w fun e w' => e = .returned (.bool (fitsF 0 L)) ∧ Below w.heap.size w w' := by
  obtain ⟨ao, cap, rfl⟩ := Sees.shape hv
  obtain ⟨n, hn⟩ : ∃ n, n = L.length := ⟨_, rfl⟩
  have HV := Lib.hid hv
  have HN := Lib.hid hn
  have HS : Hid (∀ k, k < n → L.getD k 0 ≤ 1073741824) := fun k hk => by
    have hkl : k < L.length := by rw [← hn]; exact hk
    exact hs _ (by simp [List.getD, List.getElem?_eq_getElem hkl])
  obtain ⟨R, hR⟩ : ∃ R, fitsF 0 L = R := ⟨_, rfl⟩
  have HR := Lib.hid hR
  rw [← hn] at hl ⊢
  rw [hR]
  clear hv hn hs hR
  go_enter Try.func35, Try.ntmps35
  go_wp2
  go_loopw [3, 4] (fun a i wr => ∃ (k : Nat) (z : Int), k ≤ 1100 ∧ i = .int .i64 (k : Int) ∧ a = .int .i64 z ∧ (0 ≤ z ∧ z ≤ 1073741824) ∧ Hid (fitsF z (L.drop k) = R) ∧ Hid (Below w.heap.size w wr)) (fun _ i _ => 1200 - (intOf i).toNat)
  case atStart => exact ⟨0, 0, by omega, rfl, rfl, by omega, by unfold Hid; rw [List.drop_zero]; exact HR.out, Below.refl _ _⟩
  case round =>
    clear HR
    obtain ⟨k, z, hk, rfl, rfl, hzb, hst, hbel⟩ := hrel
    obtain ⟨k2, hk2⟩ : ∃ k2 : Nat, (k : Int) + 2 = (k2 : Int) := ⟨k + 2, rfl⟩
    have e2 : IntKind.i64.wrap (k2 : Int) = (k2 : Int) := IntWalk.i64_in _ (by omega)
    by_cases hkn : k2 < n
    · have q1 : decide (k2 < n) = true := by simpa using hkn
      have q2 : (0 : Int) ≤ (k : Int) := by omega
      have q3 : (k : Int) < (n : Int) := by omega
      have q4 : (0 : Int) ≤ (k2 : Int) := by omega
      have q5 : (k2 : Int) < (n : Int) := by omega
      obtain ⟨k1, hk1⟩ : ∃ k1 : Nat, (k : Int) + 1 = (k1 : Int) := ⟨k + 1, rfl⟩
      have e1 : IntKind.i64.wrap (k1 : Int) = (k1 : Int) := IntWalk.i64_in _ (by omega)
      have q6 : (0 : Int) ≤ (k1 : Int) := by omega
      have q7 : (k1 : Int) < (n : Int) := by omega
      have e3 : IntKind.i64.wrap ((k : Int) + 3) = (k : Int) + 3 := IntWalk.i64_in _ (by omega)
      obtain ⟨b, off, rfl, hb, hc⟩ := (HV.out.keeps hbel.out).at (by rw [← HN.out]; omega)
      have h0 := hc k (by rw [← HN.out]; omega)
      have h1 := hc k1 (by rw [← HN.out]; omega)
      have h2 := hc k2 (by rw [← HN.out]; omega)
      have b0 := HS.out k (by omega)
      have b1 := HS.out k1 (by omega)
      have b2 := HS.out k2 (by omega)
      have hd := three_drop (L := L) (k := k) (by rw [← HN.out]; omega)
      rw [show k + 1 = k1 by omega, show k + 2 = k2 by omega] at hd
      obtain ⟨a, ha⟩ : ∃ a, a = L.getD k 0 := ⟨_, rfl⟩
      obtain ⟨bb, hbb⟩ : ∃ a, a = L.getD k1 0 := ⟨_, rfl⟩
      obtain ⟨c, hcc⟩ : ∃ a, a = L.getD k2 0 := ⟨_, rfl⟩
      rw [← ha, ← hbb, ← hcc] at hd
      rw [← ha] at h0 b0
      rw [← hbb] at h1 b1
      rw [← hcc] at h2 b2
      have hst2 := hst.out
      rw [hd] at hst2
      have NO : Hid (¬ (1 ≤ a ∧ 1 ≤ c ∧ c ≤ 4096 ∧ bb ≤ 255 ∧ z + (a : Int) + (c : Int) - 1 ≤ 1073741824) → R = false) := fun h => by rw [← hst2]; exact fits_no h
      have YES : Hid ((1 ≤ a ∧ 1 ≤ c ∧ c ≤ 4096 ∧ bb ≤ 255 ∧ z + (a : Int) + (c : Int) - 1 ≤ 1073741824) → fitsF (z + (a : Int) + (c : Int) - 1) (L.drop (k + 3)) = R) := fun h => by rw [← hst2, fits_yes h]
      clear ha hbb hcc hd hst hst2 hc hb
      by_cases t1 : a < 1
      · obtain rfl : R = false := NO.out (by omega)
        have s1 : decide ((a : Int) < 1) = true := by simp; omega
        obtain rfl : a = 0 := by omega
        go_wp2
        go_ret
        exact ⟨rfl, hbel.out⟩
      have s1 : decide ((a : Int) < 1) = false := by simp; omega
      have s1' : decide (a < 1) = false := by simp; omega
      have s1'' : (a == 0) = false := by simp; omega
      by_cases t2 : c < 1
      · obtain rfl : R = false := NO.out (by omega)
        obtain rfl : c = 0 := by omega
        have s2 : decide (((0 : Nat) : Int) < 1) = true := by simp
        go_wp2
        go_ret
        exact ⟨rfl, hbel.out⟩
      have s2 : decide ((c : Int) < 1) = false := by simp; omega
      by_cases t3 : 4096 < c
      · obtain rfl : R = false := NO.out (by omega)
        have s3 : decide (4096 < (c : Int)) = true := by simp; omega
        have s3' : decide (4096 < c) = true := by simp; omega
        go_wp2
        go_ret
        exact ⟨rfl, hbel.out⟩
      have s3 : decide (4096 < (c : Int)) = false := by simp; omega
      have s3' : decide (4096 < c) = false := by simp; omega
      by_cases t4 : 255 < bb
      · obtain rfl : R = false := NO.out (by omega)
        have s4 : decide (255 < (bb : Int)) = true := by simp; omega
        have s4' : decide (255 < bb) = true := by simp; omega
        go_wp2
        go_ret
        exact ⟨rfl, hbel.out⟩
      have s4 : decide (255 < (bb : Int)) = false := by simp; omega
      have s4' : decide (255 < bb) = false := by simp; omega
      have e4 : IntKind.i64.wrap ((a : Int) + (c : Int)) = (a : Int) + (c : Int) := IntWalk.i64_in _ (by omega)
      have e5 : IntKind.i64.wrap ((a : Int) + (c : Int) - 1) = (a : Int) + (c : Int) - 1 := IntWalk.i64_in _ (by omega)
      obtain ⟨y, hy⟩ : ∃ y : Int, z + ((a : Int) + (c : Int) - 1) = y := ⟨_, rfl⟩
      have e6 : IntKind.i64.wrap y = y := IntWalk.i64_in _ (by omega)
      have hy2 : z + (a : Int) + (c : Int) - 1 = y := by omega
      have HY := Lib.hid hy2
      by_cases t5 : 1073741824 < y
      · obtain rfl : R = false := NO.out (by omega)
        have s5 : decide (1073741824 < y) = true := by simpa using t5
        clear hy2
        go_wp2
        go_quiet (fail)
        go_wp2
        go_ret
        exact ⟨rfl, below_draw hbel.out _⟩
      · have s5 : decide (1073741824 < y) = false := by simpa using t5
        have HST : Hid (fitsF y (L.drop (k + 3)) = R) := by have := YES.out (by omega); rw [HY.out] at this; exact this
        have HYB : Hid (0 ≤ y ∧ y ≤ 1073741824) := by unfold Hid; omega
        clear hy2
        go_wp2
        go_quiet (fail)
        go_wp2
        go_roundw
        case rel => exact ⟨k + 3, y, by omega, by go_num, rfl, HYB.out, HST, below_draw hbel.out _⟩
        case measure => simp [intOf]; omega
    · have q1 : decide (k2 < n) = false := by simpa using hkn
      have hR : R = true := by
        rw [← hst.out]
        have hlen : (L.drop k).length < 3 := by rw [List.length_drop, ← HN.out]; omega
        match hx : L.drop k, hlen with
        | [], _ => rfl
        | [_], _ => rfl
        | [_, _], _ => rfl
      subst hR
      clear hst
      go_wp2
      go_ret
      exact ⟨rfl, hbel.out⟩
end Go.Proofs.Ytelilmhnfmojkaa.Codes
