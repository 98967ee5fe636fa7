/- octavo/edit.Delete: what it answers. Conditions: the slice's cells are operations. octavoref16.Split, Merge: what each answers. Conditions: the slice's cells are operations. -/
import Derived.Test.YtgjbnbojjgbmcaaGreatChecked
import Derived.WalkKit
import Derived.WalkSpells
import Derived.WalkLawsBesides
import Derived.Laws.BytesArg
import Derived.Lib.Hide
import Derived.Deep.LoopGhost
import Derived.Laws.AppendOwnNone
import Derived.Laws.OwnMore
import Derived.WideShapes
import Derived.Maps.AppendAt
import Derived.RegionTactic
import Derived.Deep.RegionHeld3
import Derived.Deep.DrawnRows
import Derived.Deep.QuietTactic
import Derived.BigQuiet
import Derived.IntWalk
import Derived.Deep.DeepCutAuto
import Derived.ScopeJumps
import Derived.Test.YtgjbnbojjgbmcaaGreatProg
import Derived.LoopTactic
import Derived.Laws.EntriesVeiled
import Derived.RowKit
import Derived.Lib.DecodeN
import Derived.Lib.RuneBytes
import Derived.Maps.Own
import Derived.Maps.OwnOps
import Derived.Maps.OwnSet
import Derived.Maps.Views
import Derived.DeepKeys4
import Derived.Shelf.SlSortCmp.InsertionK
import Derived.Calls
import Derived.StepT
import Derived.Below
import Derived.Sort.Grow
import Derived.Deep.Draws
import Derived.Shelf.SlLaysF0
import Derived.Shelf.SlSortCmp.NoneTotal
import Derived.Scope
import Derived.Shelf.Abstract
import Derived.RangeFuncBox
import Derived.RangeFuncLeaves
import Derived.RangeFuncNested
import Derived.RangeFuncBound
import Derived.RangeFuncCalls
import Derived.OwnWalkIn
import Derived.TacticsInMore
import Derived.LoopNIn
import Derived.LoopIn
import Derived.Lib.Tables
import Derived.Laws.Bits64
import Derived.Test.YtgjbnbojjgbmcaaGreatShelf
import Derived.Lib.OthersKept
import Derived.BigCall
import Derived.Laws.CopyOwn
import Derived.Deep.AppendSrc
import Derived.Lib.AppendZeros
import Derived.Laws.MakeOwn
import Derived.Tactics
import Derived.Test.YtgjbnbojjgbmcaaGreatPk11
import Derived.Test.YtgjbnbojjgbmcaaGreatPk06
import Derived.Test.YtgjbnbojjgbmcaaGreatPk05
import Derived.Test.YtgjbnbojjgbmcaaGreatPk04
import Derived.Test.YtgjbnbojjgbmcaaGreatPk03
import Derived.Test.YtgjbnbojjgbmcaaGreatPk02
import Derived.Test.YtgjbnbojjgbmcaaGreatPk01
import Derived.Test.YtgjbnbojjgbmcaaGreatPk10
import Derived.Test.YtgjbnbojjgbmcaaGreatPk07
import Derived.Test.YtgjbnbojjgbmcaaGreatPk08
import Derived.Test.YtgjbnbojjgbmcaaGreatPk09
import Derived.Test.YtgjbnbojjgbmcaaGreatPk12

namespace Go.Proofs.YtgjbnbojjgbmcaaGreat.Edits
open Go.RowKit Go.WideShapes Stamp Go.Proofs.YtgjbnbojjgbmcaaGreat.Place Ops Codes Bags Marks Homes Covers Views
attribute [local go_sem ↓] Go.wp_at_zero Go.wp_at_succ
attribute [local go_sem] yielded_undef
theorem holdE_apart {B H : Nat} {w w' : World} (ha : Clocks.Apart B H w w') : ∀ {cs : List Value} {l : List Opn}, HoldE w H cs l → HoldE w' H cs l
  | _, [], h => h
  | _, _ :: _, ⟨v, d, h1, h2, h3⟩ => ⟨v, d, h1, Clocks.own_apart h2 ha, holdE_apart ha h3⟩
theorem ownE_apart {B H : Nat} {w w' : World} {v : Value} {l : List Opn} (h : OwnE w H v l) (ha : Clocks.Apart B H w w') : OwnE w' H v l := by
  obtain ⟨cs, h1, h2⟩ := h
  exact ⟨cs, Clocks.own_apart h1 ha, holdE_apart ha h2⟩
theorem delO_all : ∀ (ys : List Opn) (r t : Nat), delO r t ys = (List.range ys.length).map (fun j => mkO 3 (mk (t + j + 1) r) (ys.getD j zop).pl 0)
  | [], _, _ => rfl
  | y :: ys, r, t => by
    unfold delO
    rw [delO_all ys r (t + 1), List.length_cons, List.range_succ_eq_map, List.map_cons, List.map_map]
    congr 1
    refine List.map_congr_left fun j _ => ?_
    show mkO 3 (mk (t + 1 + j + 1) r) (ys.getD j zop).pl 0 = mkO 3 (mk (t + (j + 1) + 1) r) (ys.getD j zop).pl 0
    rw [show t + 1 + j + 1 = t + (j + 1) + 1 by omega]
set_option maxRecDepth 100000 in
theorem els_cut {b nx xc kk mm : Nat} (h0 : 0 < mm) (h1 : kk + mm ≤ nx) (h2 : nx ≤ xc) (W : World) :
    (Instr.slice 52 (.slice (some ⟨b, 0, none⟩) nx xc) (some (.int .i64 (kk : Int))) (some (.int .i64 ((kk : Int) + (mm : Int)))) none).run Tryz.prog W = .ok (.slice (some ⟨b, kk * 4, none⟩) mm (xc - kk)) W := by
  have q1 : (0 : Int) ≤ (kk : Int) := by omega
  have q2 : (kk : Int) ≤ (kk : Int) + (mm : Int) := by omega
  have q3 : (kk : Int) + (mm : Int) ≤ (xc : Int) := by omega
  rw [run_slice_lh W 52 _ nx xc Tryz.underlying52 .i64 .i64 (kk : Int) ((kk : Int) + (mm : Int)) q1 q2 q3]
  rw [show Tryz.prog.elem 52 = 91 by kernel_rfl, Tryz.sizeOf91]
  have hadd : (⟨b, 0, none⟩ : Addr).add (kk * 4) = ⟨b, kk * 4, none⟩ := by unfold Addr.add; split <;> simp_all
  have e1 : ((kk : Int) + (mm : Int)).toNat = kk + mm := by omega
  simp only [Result.andThen, sliced, Int.toNat_natCast, e1, Option.map_some, hadd]
  rw [if_neg (by omega), show kk + mm - kk = mm by omega]
set_option maxRecDepth 100000 in
set_option maxHeartbeats 8000000 in
theorem delOne_any (a : Id) {y : Opn} {uo : Option Addr} {um uc : Nat} {W : World} :
    Calls Tryz.prog 50 #[elv y (.slice uo um uc), .agg #[.int .u32 (a.t : Int), .int .u8 (a.r : Int)]] W fun e w' => e = .returned (.tuple #[opv (mkO 3 a y.pl 0) (.slice uo um uc), .int .i64 0]) ∧ Below W.heap.size W w' := by
  have HO : opv (mkO 3 a y.pl 0) (.slice uo um uc) = .agg #[.int .u8 3, .int .u32 (a.t : Int), .int .u8 (a.r : Int), .slice uo um uc, .int .i64 0] := rfl
  rw [HO]
  unfold elv
  obtain ⟨yt, hyt⟩ : ∃ z, y.t = z := ⟨_, rfl⟩
  obtain ⟨yr, hyr⟩ : ∃ z, y.r = z := ⟨_, rfl⟩
  obtain ⟨yp, hyp⟩ : ∃ z, y.p = z := ⟨_, rfl⟩
  rw [hyt, hyr, hyp]
  obtain ⟨ta, ra, hta, hra⟩ := a
  simp only
  clear HO hyt hyr hyp
  have B0 : Hid (Below W.heap.size W (((W.alloc (.cells #[.int .u32 (yt : Int), .int .u8 (yr : Int), .slice uo um uc, .int .i64 yp] 91)).alloc (.cells #[.int .u32 (ta : Int), .int .u8 (ra : Int)] 28)).alloc (.cells #[.int .u8 3, .int .u32 (ta : Int), .int .u8 (ra : Int), .slice uo um uc, .int .i64 0] 38))) :=
    (((Below.refl _ _).alloc (Nat.le_refl _) _).alloc (by simp) _).alloc (by simp; omega) _
  go_enter Tryz.func50, Tryz.ntmps50
  go_wp2
  exact bodyPost_ret (v := .tuple #[.agg #[.int .u8 3, .int .u32 (ta : Int), .int .u8 (ra : Int), .slice uo um uc, .int .i64 0], .int .i64 0]) (by simp [results, Tryz.results50, go_sem]) rfl ⟨rfl, B0.out⟩
set_option maxRecDepth 100000 in
set_option maxHeartbeats 8000000 in
theorem eDelete_any {v : Value} {l : List Opn} {r t : Nat} (s : Id) (k m : Int) {w : World} (hv : OpL w v l) (hr : r < 256) (ht : t < 4294967296) (hk63 : k ≤ 9223372036854775807) :
    Calls Tryz.prog 16 #[v, .int .u8 (r : Int), .int .u32 (t : Int), .agg #[.int .u32 (s.t : Int), .int .u8 (s.r : Int)], .int .i64 k, .int .i64 m] w (DoneN (delL l r t s k m) (delE l r t s k m) w) := by
  obtain ⟨wl, hwl⟩ : ∃ x, x = w.alloc (.cells #[.int .u32 (s.t : Int), .int .u8 (s.r : Int)] 28) := ⟨_, rfl⟩
  have B0 : Hid (Below w.heap.size w wl) := by rw [hwl]; exact (Below.refl _ _).alloc (Nat.le_refl _) _
  have Y0 : Hid (wl.heap[w.heap.size]? = some (.cells #[.int .u32 (s.t : Int), .int .u8 (s.r : Int)] 28)) := by rw [hwl]; exact blk_new rfl
  have HW := Lib.hid hwl
  have AK : Hid (Calls Tryz.prog 39 #[v, .int .u8 (r : Int), .int .u32 (t : Int), .agg #[.int .u32 (s.t : Int), .int .u8 (s.r : Int)]] wl (AskN l r t s wl)) := eAsked_any s (hv.keeps B0.out) hr ht
  unfold AskN at AK
  have EL : Hid (askE l r t s = 0 → ∀ W : World, Below w.heap.size w W → Calls Tryz.prog 23 #[v, .agg #[.int .u32 (s.t : Int), .int .u8 (s.r : Int)]] W (DoneOE (elmL l s) 0 W)) := fun h0 W h => by
    have := vElements_any s (hv.keeps h)
    rwa [(askE_zero.1 h0).2.2] at this
  unfold DoneOE at EL
  have HE : Hid (delE l r t s k m = (if askE l r t s = 0 then if 0 ≤ k ∧ 1 ≤ m ∧ k + m ≤ ((elmL l s).length : Int) then if 64 < m then 4 else if 1073741824 < (t : Int) + m then 50 else 0 else 2 else askE l r t s)) := rfl
  have HL : Hid (delL l r t s k m = if delE l r t s k m = 0 then delO r t (((elmL l s).drop k.toNat).take m.toNat) else []) := rfl
  have XL : Hid ((elmL l s).length ≤ l.length) := elm_len l s
  have BL : Hid (askE l r t s = 0 → l.length ≤ 1024) := fun h => (spanE_zero.1 (askE_zero.1 h).2.2).1.1
  obtain ⟨ao, cap, rfl⟩ := hv.shape
  obtain ⟨n, hn⟩ : ∃ n, l.length = n := ⟨_, rfl⟩
  rw [hn] at AK EL XL BL ⊢
  obtain ⟨ie, hie⟩ : ∃ x, delE l r t s k m = x := ⟨_, rfl⟩
  rw [hie] at HE HL ⊢
  obtain ⟨il, hil⟩ : ∃ x, delL l r t s k m = x := ⟨_, rfl⟩
  rw [hil] at HL ⊢
  obtain ⟨a, ha⟩ : ∃ a, askE l r t s = a := ⟨_, rfl⟩
  rw [ha] at AK EL HE BL
  obtain ⟨X, hX⟩ : ∃ X, elmL l s = X := ⟨_, rfl⟩
  rw [hX] at EL HE HL XL
  obtain ⟨P, hP⟩ : ∃ P, askP l r t s = P := ⟨_, rfl⟩
  rw [hP] at AK
  obtain ⟨nx, hnx⟩ : ∃ n, X.length = n := ⟨_, rfl⟩
  rw [hnx] at HE XL
  have HNX := Lib.hid hnx
  clear hv hwl hn hie hil ha hX hP hnx
  obtain ⟨ts, rs, hts, hrs⟩ := s
  simp only at Y0 HW AK EL ⊢
  have d0 := cell_of_row _ _ 0 _ _ _ Y0.out
  have d1 := cell_of_row _ _ 1 _ _ _ Y0.out
  by_cases ha : a = 0
  rotate_left
  · obtain rfl : ie = a := by rw [HE.out, if_neg ha]
    obtain rfl : il = [] := by rw [HL.out, if_neg ha]
    have t1 : (ie != 0) = true := by simpa using ha
    have t2 : decide (ie = 0) = false := decide_eq_false ha
    clear HE HL EL XL BL
    go_enter Tryz.func16, Tryz.ntmps16
    go_wp2_with fail
    rw [← HW.out]
    refine AK.out.mono ?_
    rintro e w1 ⟨v1, rfl, o1, b1⟩
    have B1 := Lib.hid (bt B0.out b1)
    clear b1 o1 Y0 B0 HW AK d0 d1
    go_wp2
    exact bodyPost_ret (v := .tuple #[.slice none 0 0, .int .i64 ie]) (by simp [results, Tryz.results16, go_sem]) rfl ⟨_, rfl, OwnL.nil _ _, B1.out⟩
  subst ha
  rw [if_pos rfl] at HE
  have EL2 := Lib.hid (EL.out rfl)
  have hnx : nx ≤ 1024 := Nat.le_trans XL.out (BL.out rfl)
  clear EL XL BL
  by_cases hk : 0 ≤ k ∧ 1 ≤ m ∧ k + m ≤ (nx : Int)
  rotate_left
  · obtain rfl : ie = 2 := by rw [HE.out, if_neg hk]
    obtain rfl : il = [] := by rw [HL.out, if_neg (by decide)]
    clear HE HL
    by_cases hk0 : k < 0
    · have q1 : decide (k < 0) = true := decide_eq_true hk0
      clear hk
      go_enter Tryz.func16, Tryz.ntmps16
      go_wp2_with fail
      rw [← HW.out]
      refine AK.out.mono ?_
      rintro e w1 ⟨v1, rfl, o1, b1⟩
      have B1 := Lib.hid (bt B0.out b1)
      have Y1 := Lib.hid (blk_below b1 Y0.out)
      clear b1 o1 Y0 B0 HW AK d0 d1
      have d0 := cell_of_row _ _ 0 _ _ _ Y1.out
      have d1 := cell_of_row _ _ 1 _ _ _ Y1.out
      go_wp2_with fail
      refine (EL2.out _ B1.out).mono ?_
      rintro e w2 ⟨v2, rfl, e2, b2⟩
      have B2 := Lib.hid (bt B1.out b2)
      obtain ⟨xo, xc, rfl⟩ := e2.el.shape
      have E2 := Lib.hid (e2.base (b' := w.heap.size) B1.out.size)
      rw [HNX.out] at E2 ⊢
      clear b2 e2 Y1 EL2 d0 d1
      clear E2 B1
      go_wp2
      exact bodyPost_ret (v := .tuple #[.slice none 0 0, .int .i64 2]) (by simp [results, Tryz.results16, go_sem]) rfl ⟨_, rfl, OwnL.nil _ _, B2.out⟩
    have q1 : decide (k < 0) = false := decide_eq_false hk0
    by_cases hm0 : m < 1
    · have q2 : decide (m < 1) = true := decide_eq_true hm0
      clear hk
      go_enter Tryz.func16, Tryz.ntmps16
      go_wp2_with fail
      rw [← HW.out]
      refine AK.out.mono ?_
      rintro e w1 ⟨v1, rfl, o1, b1⟩
      have B1 := Lib.hid (bt B0.out b1)
      have Y1 := Lib.hid (blk_below b1 Y0.out)
      clear b1 o1 Y0 B0 HW AK d0 d1
      have d0 := cell_of_row _ _ 0 _ _ _ Y1.out
      have d1 := cell_of_row _ _ 1 _ _ _ Y1.out
      go_wp2_with fail
      refine (EL2.out _ B1.out).mono ?_
      rintro e w2 ⟨v2, rfl, e2, b2⟩
      have B2 := Lib.hid (bt B1.out b2)
      obtain ⟨xo, xc, rfl⟩ := e2.el.shape
      have E2 := Lib.hid (e2.base (b' := w.heap.size) B1.out.size)
      rw [HNX.out] at E2 ⊢
      clear b2 e2 Y1 EL2 d0 d1
      clear E2 B1
      go_wp2
      exact bodyPost_ret (v := .tuple #[.slice none 0 0, .int .i64 2]) (by simp [results, Tryz.results16, go_sem]) rfl ⟨_, rfl, OwnL.nil _ _, B2.out⟩
    have q2 : decide (m < 1) = false := decide_eq_false hm0
    have q4 : decide ((nx : Int) - k < m) = true := decide_eq_true (by omega)
    have q5 : IntKind.i64.wrap ((nx : Int) - k) = (nx : Int) - k := IntWalk.i64_in _ (by omega)
    clear hk
    go_enter Tryz.func16, Tryz.ntmps16
    go_wp2_with fail
    rw [← HW.out]
    refine AK.out.mono ?_
    rintro e w1 ⟨v1, rfl, o1, b1⟩
    have B1 := Lib.hid (bt B0.out b1)
    have Y1 := Lib.hid (blk_below b1 Y0.out)
    clear b1 o1 Y0 B0 HW AK d0 d1
    have d0 := cell_of_row _ _ 0 _ _ _ Y1.out
    have d1 := cell_of_row _ _ 1 _ _ _ Y1.out
    go_wp2_with fail
    refine (EL2.out _ B1.out).mono ?_
    rintro e w2 ⟨v2, rfl, e2, b2⟩
    have B2 := Lib.hid (bt B1.out b2)
    obtain ⟨xo, xc, rfl⟩ := e2.el.shape
    have E2 := Lib.hid (e2.base (b' := w.heap.size) B1.out.size)
    rw [HNX.out] at E2 ⊢
    clear b2 e2 Y1 EL2 d0 d1
    clear E2 B1
    go_wp2
    exact bodyPost_ret (v := .tuple #[.slice none 0 0, .int .i64 2]) (by simp [results, Tryz.results16, go_sem]) rfl ⟨_, rfl, OwnL.nil _ _, B2.out⟩
  rw [if_pos hk] at HE
  obtain ⟨kk, rfl⟩ : ∃ j : Nat, k = (j : Int) := ⟨k.toNat, by omega⟩
  obtain ⟨mm, rfl⟩ : ∃ j : Nat, m = (j : Int) := ⟨m.toNat, by omega⟩
  rw [Int.toNat_natCast, Int.toNat_natCast] at HL
  have hkm : kk + mm ≤ nx := by omega
  have hm1 : 0 < mm := by omega
  have q1 : decide ((kk : Int) < 0) = false := decide_eq_false (by omega)
  have q2 : decide ((mm : Int) < 1) = false := decide_eq_false (by omega)
  have q4 : decide ((nx : Int) - (kk : Int) < (mm : Int)) = false := decide_eq_false (by omega)
  have q5 : IntKind.i64.wrap ((nx : Int) - (kk : Int)) = (nx : Int) - (kk : Int) := IntWalk.i64_in _ (by omega)
  clear hk
  by_cases h2 : 64 < (mm : Int)
  · obtain rfl : ie = 4 := by rw [HE.out, if_pos h2]
    obtain rfl : il = [] := by rw [HL.out, if_neg (by decide)]
    have t2 : decide (64 < mm) = true := decide_eq_true (by omega)
    have t3 : decide ((64 : Int) < (mm : Int)) = true := decide_eq_true (by omega)
    clear HE HL
    go_enter Tryz.func16, Tryz.ntmps16
    go_wp2_with fail
    rw [← HW.out]
    refine AK.out.mono ?_
    rintro e w1 ⟨v1, rfl, o1, b1⟩
    have B1 := Lib.hid (bt B0.out b1)
    have Y1 := Lib.hid (blk_below b1 Y0.out)
    clear b1 o1 Y0 B0 HW AK d0 d1
    have d0 := cell_of_row _ _ 0 _ _ _ Y1.out
    have d1 := cell_of_row _ _ 1 _ _ _ Y1.out
    go_wp2_with fail
    refine (EL2.out _ B1.out).mono ?_
    rintro e w2 ⟨v2, rfl, e2, b2⟩
    have B2 := Lib.hid (bt B1.out b2)
    obtain ⟨xo, xc, rfl⟩ := e2.el.shape
    have E2 := Lib.hid (e2.base (b' := w.heap.size) B1.out.size)
    rw [HNX.out] at E2 ⊢
    clear b2 e2 Y1 EL2 d0 d1
    clear E2 B1
    go_wp2
    exact bodyPost_ret (v := .tuple #[.slice none 0 0, .int .i64 4]) (by simp [results, Tryz.results16, go_sem]) rfl ⟨_, rfl, OwnL.nil _ _, B2.out⟩
  have t2 : decide (64 < mm) = false := decide_eq_false (by omega)
  have t3 : decide ((64 : Int) < (mm : Int)) = false := decide_eq_false (by omega)
  rw [if_neg h2] at HE
  have q6 : IntKind.i64.wrap ((kk : Int) + (mm : Int)) = (kk : Int) + (mm : Int) := IntWalk.i64_in _ (by omega)
  have hO : delO r t ((X.drop kk).take mm) = (List.range mm).map (fun j => mkO 3 (mk (t + j + 1) r) (X.getD (kk + j) zop).pl 0) := by
    have hlen : ((X.drop kk).take mm).length = mm := by rw [List.length_take, List.length_drop]; have := HNX.out; omega
    rw [delO_all, hlen]
    refine List.map_congr_left fun j hj => ?_
    rw [List.mem_range] at hj
    rw [List.getD_eq_getElem?_getD, List.getElem?_take, if_pos hj, List.getElem?_drop, ← List.getD_eq_getElem?_getD]
  rw [hO] at HL
  clear hO
  have HR : Hid (∀ (E : Nat → Int), (∀ j, E j = 0) → ∀ (x4 : Int) (L4 : List Opn), ((1073741824 < t + mm ∧ x4 = 50 ∧ L4 = []) ∨ (t + mm ≤ 1073741824 ∧ ∃ j, j < mm ∧ (∀ i, i < j → E i = 0) ∧ E j ≠ 0 ∧ x4 = E j ∧ L4 = []) ∨ (t + mm ≤ 1073741824 ∧ (∀ i, i < mm → E i = 0) ∧ x4 = 0 ∧ L4 = (List.range mm).map (fun j => mkO 3 (mk (t + j + 1) r) (X.getD (kk + j) zop).pl 0))) → x4 = ie ∧ L4 = il) := fun E hE0 x4 L4 h => by
    have hE := HE.out
    have hL := HL.out
    rcases h with ⟨h3, rfl, rfl⟩ | ⟨h3, j, h4, h5, h6, rfl, rfl⟩ | ⟨h3, h4, rfl, rfl⟩
    · rw [if_pos (by omega)] at hE
      rw [hE] at hL ⊢
      rw [hL, if_neg (by decide)]
      exact ⟨rfl, rfl⟩
    · exact absurd (hE0 j) h6
    · rw [if_neg (by omega)] at hE
      rw [hE] at hL ⊢
      rw [hL, if_pos rfl]
      exact ⟨rfl, rfl⟩
  have DN : Hid (∀ (w3 : World) (g xc : Nat), w.heap.size ≤ w3.heap.size → OwnE w3 w.heap.size (.slice (some ⟨g, 0, none⟩) nx xc) X →
      Calls Tryz.prog 49 #[.slice (some ⟨g, kk * 4, none⟩) mm (xc - kk), .int .u8 (r : Int), .int .u32 (t : Int), .func (.func 50) #[] #[]] w3 (DoneX t mm (fun j => mkO 3 (mk (t + j + 1) r) (X.getD (kk + j) zop).pl 0) (fun _ => 0) w.heap.size w.heap.size w3)) := fun w3 g xc hsz hown => by
    have hnx2 := HNX.out
    refine eDoneE_any (Y := fun j => X.getD (kk + j) zop) (O := fun j => mkO 3 (mk (t + j + 1) r) (X.getD (kk + j) zop).pl 0) (E := fun _ => 0) hm1 (by omega) ht (Nat.le_refl _) hsz (fun W hW j hj => ?_) (fun j W u hu hj hl hA => ?_)
    · have hl : kk + j < X.length := by omega
      have ho := ownE_apart hown hW
      have hel := ho.el
      obtain ⟨bb, oo, u, e, hbb, hru, h0, h1, h2', h3⟩ := el_at hel (kk + j) hl
      injection e with e
      injection e with e1 e2
      subst e1
      subst e2
      have hrow := ownE_place ho (kk + j) hl rfl h2'
      have hget : X.getD (kk + j) zop = X[kk + j]'hl := getD_of hl
      have ea : 0 + (kk + j) * 4 = kk * 4 + j * 4 := by omega
      rw [ea] at h0 h1 h2' h3
      simp only [hget]
      exact ⟨hbb, u, h0, h1, h2', h3, hrow⟩
    · obtain ⟨uo, uc, rfl⟩ : ∃ ao cap, u = .slice ao (X.getD (kk + j) zop).pl.length cap := Sees.shape (Sees.own hu)
      have h := delOne_any (mk (t + j + 1) r) (y := X.getD (kk + j) zop) (uo := uo) (um := (X.getD (kk + j) zop).pl.length) (uc := uc) (W := W)
      have e1 : ((mk (t + j + 1) r).t : Int) = (t : Int) + 1 + (j : Int) := by rw [mk_t (by omega)]; omega
      have e2 : ((mk (t + j + 1) r).r : Int) = (r : Int) := by rw [mk_r hr]
      rw [e1, e2] at h
      refine h.mono ?_
      rintro e w' ⟨g1, g2⟩
      exact ⟨_, g1, own_stays hu g2, Clocks.Apart.of g2 (Nat.le_trans hsz hA.1.size)⟩
  clear HE HL h2
  go_enter Tryz.func16, Tryz.ntmps16
  go_wp2_with fail
  rw [← HW.out]
  refine AK.out.mono ?_
  rintro e w1 ⟨v1, rfl, o1, b1⟩
  have B1 := Lib.hid (bt B0.out b1)
  have Y1 := Lib.hid (blk_below b1 Y0.out)
  clear b1 o1 Y0 B0 HW AK d0 d1
  have d0 := cell_of_row _ _ 0 _ _ _ Y1.out
  have d1 := cell_of_row _ _ 1 _ _ _ Y1.out
  go_wp2_with fail
  refine (EL2.out _ B1.out).mono ?_
  rintro e w2 ⟨v2, rfl, e2, b2⟩
  have B2 := Lib.hid (bt B1.out b2)
  obtain ⟨xo, xc, rfl⟩ := e2.el.shape
  have E2 := Lib.hid (e2.base (b' := w.heap.size) B1.out.size)
  rw [HNX.out] at E2 ⊢
  clear b2 e2 Y1 EL2 d0 d1
  obtain ⟨g, rfl⟩ : ∃ g, xo = some ⟨g, 0, none⟩ := by
    obtain ⟨cs, ⟨_, h1⟩, _⟩ := E2.out
    rcases h1 with ⟨_, h⟩ | ⟨g, c, cur, h, _⟩
    · have := HNX.out; omega
    · cases h; exact ⟨g, rfl⟩
  have hxc : nx ≤ xc := by have := (Seq.cap E2.out.el).2.1; rw [HNX.out] at this; exact this
  have hcut := els_cut (b := g) hm1 hkm hxc
  have CD := Lib.hid (DN.out w2 g xc B2.out.size E2.out)
  clear E2 B1 DN hxc
  go_wp2_with fail
  refine CD.out.mono ?_
  rintro e w4 ⟨v4, x4, L4, rfl, o4, a4, h4⟩
  obtain ⟨rfl, rfl⟩ := HR.out (fun _ => 0) (fun _ => rfl) x4 L4 h4
  have O4 := Lib.hid o4
  have B4 : Hid (Below w.heap.size w w4) := B2.out.trans a4.1
  clear o4 a4 h4 CD HR hcut
  go_wp2
  exact bodyPost_ret (v := .tuple #[v4, .int .i64 x4]) (by simp [results, Tryz.results16, go_sem]) rfl ⟨_, rfl, O4.out, B4.out⟩
end Go.Proofs.YtgjbnbojjgbmcaaGreat.Edits

namespace Go.Proofs.YtgjbnbojjgbmcaaGreat.Edits
open Go.RowKit Go.WideShapes Stamp Go.Proofs.YtgjbnbojjgbmcaaGreat.Place Ops Codes Bags Marks Homes Covers Views
attribute [local go_sem ↓] Go.wp_at_zero Go.wp_at_succ
attribute [local go_sem] yielded_undef
theorem opl_one {w : World} {u c0 c1 c2 c4 : Value} {o : Opn} (h0 : c0 = .int .u8 (o.k : Int)) (h1 : c1 = .int .u32 (o.t : Int)) (h2 : c2 = .int .u8 (o.r : Int)) (h4 : c4 = .int .i64 o.p) (hu : Runs w u o.pl) :
    OpL (w.alloc (.cells #[c0, c1, c2, u, c4] 38)) (.slice (some ⟨w.heap.size, 0, none⟩) 1 1) [o] := by
  subst h0 h1 h2 h4
  refine ⟨[.int .u8 (o.k : Int), .int .u32 (o.t : Int), .int .u8 (o.r : Int), u, .int .i64 o.p], sees_new w _ 5 1 rfl (by omega) 38 (0, 0), ?_⟩
  exact ⟨_, [], (List.append_nil _).symm, ⟨u, rfl, hu.keeps ((Below.refl _ _).alloc (Nat.le_refl _) _)⟩, rfl⟩
end Go.Proofs.YtgjbnbojjgbmcaaGreat.Edits
