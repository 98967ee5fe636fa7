/- octavoref16.Delete: what it answers. Conditions: the slice's cells are operations. octavoref16.Split, Merge: what each answers. Conditions: the slice's cells are operations. What an edit answered, written over: what stays. Conditions: none. -/
import Derived.Test.YtgjbnbojjgbmcaaGreatChecked
import Derived.WalkKit
import Derived.WalkSpells
import Derived.WalkLawsBesides
import Derived.Laws.BytesArg
import Derived.Lib.Hide
import Derived.Deep.LoopGhost
import Derived.Laws.AppendOwnNone
import Derived.Laws.OwnMore
import Derived.WideShapes
import Derived.Maps.AppendAt
import Derived.RegionTactic
import Derived.Deep.RegionHeld3
import Derived.Deep.DrawnRows
import Derived.Deep.QuietTactic
import Derived.BigQuiet
import Derived.IntWalk
import Derived.Deep.DeepCutAuto
import Derived.ScopeJumps
import Derived.Test.YtgjbnbojjgbmcaaGreatProg
import Derived.LoopTactic
import Derived.Laws.EntriesVeiled
import Derived.RowKit
import Derived.Lib.DecodeN
import Derived.Lib.RuneBytes
import Derived.Test.YtgjbnbojjgbmcaaGreatRw
import Derived.Test.YtgjbnbojjgbmcaaGreatPk11
import Derived.Test.YtgjbnbojjgbmcaaGreatPk39
import Derived.Test.YtgjbnbojjgbmcaaGreatPk06
import Derived.Test.YtgjbnbojjgbmcaaGreatPk21
import Derived.Test.YtgjbnbojjgbmcaaGreatPk15
import Derived.Test.YtgjbnbojjgbmcaaGreatPk05
import Derived.Test.YtgjbnbojjgbmcaaGreatPk35
import Derived.Test.YtgjbnbojjgbmcaaGreatPk04
import Derived.Test.YtgjbnbojjgbmcaaGreatPk34
import Derived.Test.YtgjbnbojjgbmcaaGreatPk03
import Derived.Test.YtgjbnbojjgbmcaaGreatPk02
import Derived.Test.YtgjbnbojjgbmcaaGreatPk01
import Derived.Test.YtgjbnbojjgbmcaaGreatPk33
import Derived.Test.YtgjbnbojjgbmcaaGreatPk20
import Derived.Test.YtgjbnbojjgbmcaaGreatPk19
import Derived.Test.YtgjbnbojjgbmcaaGreatPk36
import Derived.Test.YtgjbnbojjgbmcaaGreatPk38
import Derived.Test.YtgjbnbojjgbmcaaGreatPk37
import Derived.Test.YtgjbnbojjgbmcaaGreatPk13

namespace Go.Proofs.YtgjbnbojjgbmcaaGreat.Edits
open Go.RowKit Go.WideShapes Stamp Go.Proofs.YtgjbnbojjgbmcaaGreat.Place Ops Codes Bags Marks Homes Covers Views
attribute [local go_sem ↓] Go.wp_at_zero Go.wp_at_succ
attribute [local go_sem] yielded_undef
theorem delO_take : ∀ (ys : List Opn) (r t j : Nat) (h : j < ys.length), delO r t (ys.take (j + 1)) = delO r t (ys.take j) ++ [mkO 3 (mk (t + j + 1) r) (ys[j]'h).pl 0]
  | [], _, _, j, h => by simp at h
  | y :: ys, r, t, 0, _ => by
    show delO r t [y] = [] ++ [mkO 3 (mk (t + 0 + 1) r) y.pl 0]
    rfl
  | y :: ys, r, t, j + 1, h => by
    have ih := delO_take ys r (t + 1) j (by simpa using h)
    rw [List.take_succ_cons, List.take_succ_cons]
    show mkO 3 (mk (t + 1) r) y.pl 0 :: delO r (t + 1) (ys.take (j + 1)) = mkO 3 (mk (t + 1) r) y.pl 0 :: delO r (t + 1) (ys.take j) ++ _
    rw [ih, show t + 1 + j + 1 = t + (j + 1) + 1 by omega]
    rfl
set_option maxRecDepth 100000 in
set_option maxHeartbeats 8000000 in
theorem refDelete16_any {v : Value} {l : List Opn} {r t : Nat} (s : Id) (k m : Int) {w : World} (hv : OpL w v l) (hr : r < 256) (ht : t < 4294967296) :
    Calls Tryz.prog 17 #[v, .int .u8 (r : Int), .int .u32 (t : Int), .agg #[.int .u32 (s.t : Int), .int .u8 (s.r : Int)], .int .i64 k, .int .i64 m] w (DoneL (delL l r t s k m) (delE l r t s k m) w) := by
  obtain ⟨wl, hwl⟩ : ∃ x, x = w.alloc (.cells #[.int .u32 (s.t : Int), .int .u8 (s.r : Int)] 28) := ⟨_, rfl⟩
  have B0 : Hid (Below w.heap.size w wl) := by rw [hwl]; exact (Below.refl _ _).alloc (Nat.le_refl _) _
  have Y0 : Hid (wl.heap[w.heap.size]? = some (.cells #[.int .u32 (s.t : Int), .int .u8 (s.r : Int)] 28)) := by rw [hwl]; exact blk_new rfl
  have HW := Lib.hid hwl
  have AK : Hid (Calls Tryz.prog 43 #[v, .int .u8 (r : Int), .int .u32 (t : Int), .agg #[.int .u32 (s.t : Int), .int .u8 (s.r : Int)]] wl (AskD l r t s wl)) := refAsk_any s (hv.keeps B0.out) hr
  have OF : Hid (askE l r t s = 0 → ∀ (W : World) (y : Value), Below w.heap.size w W → OpL W y (livesM l l) → Calls Tryz.prog 44 #[v, y, .agg #[.int .u32 (s.t : Int), .int .u8 (s.r : Int)]] W fun e w' => ∃ v', e = .returned v' ∧ ElL w' v' (elmL l s) ∧ Below W.heap.size W w') := fun h0 W y h hy => by
    have hs := (askE_zero.1 h0).2.2
    have hb := (spanE_zero.1 hs).1
    have := refOf15_any s (hv.keeps h) hy (by have := hb.1; omega) hb.2.1 (lives_fits hb).2
    rwa [← elm_yes hs] at this
  have LT : Hid (∀ (W : World) (j : Nat), j ≤ 64 → Calls Tryz.prog 46 #[.int .u32 (t : Int), .int .i64 (j : Int)] W fun e w' => e = .returned (.bool (decide (1073741824 < t + j))) ∧ w' = W) := fun W j h => refLate_any ht (by omega) W
  have HE : Hid (delE l r t s k m = (if askE l r t s = 0 then if 0 ≤ k ∧ 1 ≤ m ∧ k + m ≤ ((elmL l s).length : Int) then if 64 < m then 4 else if 1073741824 < (t : Int) + m then 50 else 0 else 2 else askE l r t s)) := rfl
  have HL : Hid (delL l r t s k m = if delE l r t s k m = 0 then delO r t (((elmL l s).drop k.toNat).take m.toNat) else []) := rfl
  have XL : Hid ((elmL l s).length ≤ l.length) := elm_len l s
  have BL : Hid (askE l r t s = 0 → l.length ≤ 1024) := fun h => (spanE_zero.1 (askE_zero.1 h).2.2).1.1
  obtain ⟨ao, cap, rfl⟩ := hv.shape
  obtain ⟨n, hn⟩ : ∃ n, l.length = n := ⟨_, rfl⟩
  rw [hn] at AK OF XL BL ⊢
  obtain ⟨ie, hie⟩ : ∃ x, delE l r t s k m = x := ⟨_, rfl⟩
  rw [hie] at HE HL ⊢
  obtain ⟨il, hil⟩ : ∃ x, delL l r t s k m = x := ⟨_, rfl⟩
  rw [hil] at HL ⊢
  have AK2 : Hid (Calls Tryz.prog 43 #[.slice ao n cap, .int .u8 (r : Int), .int .u32 (t : Int), .agg #[.int .u32 (s.t : Int), .int .u8 (s.r : Int)]] wl fun e w' => ∃ v', e = .returned (.tuple #[v', .int .i64 (askE l r t s)]) ∧ OpL w' v' (if askE l r t s = 0 then livesM l l else []) ∧ Below wl.heap.size wl w') := AK.out
  obtain ⟨a, ha⟩ : ∃ a, askE l r t s = a := ⟨_, rfl⟩
  rw [ha] at AK2 OF HE BL
  obtain ⟨V, hV⟩ : ∃ V, livesM l l = V := ⟨_, rfl⟩
  rw [hV] at AK2 OF
  obtain ⟨X, hX⟩ : ∃ X, elmL l s = X := ⟨_, rfl⟩
  rw [hX] at OF HE HL XL
  obtain ⟨nx, hnx⟩ : ∃ n, X.length = n := ⟨_, rfl⟩
  rw [hnx] at HE XL
  have HNX := Lib.hid hnx
  clear hv hwl hn AK hie hil ha hV hX hnx
  obtain ⟨ts, rs, hts, hrs⟩ := s
  simp only at Y0 HW AK2 OF ⊢
  by_cases ha : a = 0
  rotate_left
  · obtain rfl : ie = a := by rw [HE.out, if_neg ha]
    obtain rfl : il = [] := by rw [HL.out, if_neg ha]
    have t1 : (ie != 0) = true := by simpa using ha
    have t2 : decide (ie = 0) = false := decide_eq_false ha
    clear HE HL OF LT XL BL
    have d0 := cell_of_row _ _ 0 _ _ _ Y0.out
    have d1 := cell_of_row _ _ 1 _ _ _ Y0.out
    go_enter Tryz.func17, Tryz.ntmps17
    go_wp2_with fail
    rw [← HW.out]
    refine AK2.out.mono ?_
    rintro e w1 ⟨v1, rfl, o1, b1⟩
    have B1 := Lib.hid (bt B0.out b1)
    have Y1 := Lib.hid (blk_below b1 Y0.out)
    have O1 := Lib.hid o1
    clear b1 o1 Y0 B0 HW AK2 d0 d1
    clear O1 Y1
    go_wp2
    exact bodyPost_ret (v := .tuple #[.slice none 0 0, .int .i64 ie]) (by simp [results, Tryz.results17, go_sem]) rfl ⟨_, rfl, Seq.nil _ _, B1.out⟩
  subst ha
  rw [if_pos rfl] at AK2 HE
  have OF2 := Lib.hid (OF.out rfl)
  have hnx : nx ≤ 1024 := Nat.le_trans XL.out (BL.out rfl)
  clear OF XL BL
  by_cases hk : 0 ≤ k ∧ 1 ≤ m ∧ k + m ≤ (nx : Int)
  rotate_left
  · obtain rfl : ie = 2 := by rw [HE.out, if_neg hk]
    obtain rfl : il = [] := by rw [HL.out, if_neg (by decide)]
    clear HE HL LT
    by_cases hk0 : k < 0
    · have q1 : decide (k < 0) = true := decide_eq_true hk0
      clear hk
      have d0 := cell_of_row _ _ 0 _ _ _ Y0.out
      have d1 := cell_of_row _ _ 1 _ _ _ Y0.out
      go_enter Tryz.func17, Tryz.ntmps17
      go_wp2_with fail
      rw [← HW.out]
      refine AK2.out.mono ?_
      rintro e w1 ⟨v1, rfl, o1, b1⟩
      have B1 := Lib.hid (bt B0.out b1)
      have Y1 := Lib.hid (blk_below b1 Y0.out)
      have O1 := Lib.hid o1
      clear b1 o1 Y0 B0 HW AK2 d0 d1
      have d0 := cell_of_row _ _ 0 _ _ _ Y1.out
      have d1 := cell_of_row _ _ 1 _ _ _ Y1.out
      go_wp2_with fail
      refine (OF2.out _ _ B1.out O1.out).mono ?_
      rintro e w2 ⟨v2, rfl, e2, b2⟩
      have B2 := Lib.hid (bt B1.out b2)
      have Y2 := Lib.hid (blk_below b2 Y1.out)
      have O2 := Lib.hid (O1.out.keeps b2)
      obtain ⟨xo, xc, rfl⟩ := e2.shape
      have E2 := Lib.hid e2
      rw [HNX.out] at E2 ⊢
      clear b2 e2 O1 B1 Y1 OF2 d0 d1
      clear O2 Y2 E2
      go_wp2
      exact bodyPost_ret (v := .tuple #[.slice none 0 0, .int .i64 2]) (by simp [results, Tryz.results17, go_sem]) rfl ⟨_, rfl, Seq.nil _ _, B2.out⟩
    have q1 : decide (k < 0) = false := decide_eq_false hk0
    by_cases hm0 : m < 1
    · have q2 : decide (m < 1) = true := decide_eq_true hm0
      clear hk
      have d0 := cell_of_row _ _ 0 _ _ _ Y0.out
      have d1 := cell_of_row _ _ 1 _ _ _ Y0.out
      go_enter Tryz.func17, Tryz.ntmps17
      go_wp2_with fail
      rw [← HW.out]
      refine AK2.out.mono ?_
      rintro e w1 ⟨v1, rfl, o1, b1⟩
      have B1 := Lib.hid (bt B0.out b1)
      have Y1 := Lib.hid (blk_below b1 Y0.out)
      have O1 := Lib.hid o1
      clear b1 o1 Y0 B0 HW AK2 d0 d1
      have d0 := cell_of_row _ _ 0 _ _ _ Y1.out
      have d1 := cell_of_row _ _ 1 _ _ _ Y1.out
      go_wp2_with fail
      refine (OF2.out _ _ B1.out O1.out).mono ?_
      rintro e w2 ⟨v2, rfl, e2, b2⟩
      have B2 := Lib.hid (bt B1.out b2)
      have Y2 := Lib.hid (blk_below b2 Y1.out)
      have O2 := Lib.hid (O1.out.keeps b2)
      obtain ⟨xo, xc, rfl⟩ := e2.shape
      have E2 := Lib.hid e2
      rw [HNX.out] at E2 ⊢
      clear b2 e2 O1 B1 Y1 OF2 d0 d1
      clear O2 Y2 E2
      go_wp2
      exact bodyPost_ret (v := .tuple #[.slice none 0 0, .int .i64 2]) (by simp [results, Tryz.results17, go_sem]) rfl ⟨_, rfl, Seq.nil _ _, B2.out⟩
    have q2 : decide (m < 1) = false := decide_eq_false hm0
    by_cases hkx : (nx : Int) < k
    · have q3 : decide ((nx : Int) < k) = true := decide_eq_true hkx
      clear hk
      have d0 := cell_of_row _ _ 0 _ _ _ Y0.out
      have d1 := cell_of_row _ _ 1 _ _ _ Y0.out
      go_enter Tryz.func17, Tryz.ntmps17
      go_wp2_with fail
      rw [← HW.out]
      refine AK2.out.mono ?_
      rintro e w1 ⟨v1, rfl, o1, b1⟩
      have B1 := Lib.hid (bt B0.out b1)
      have Y1 := Lib.hid (blk_below b1 Y0.out)
      have O1 := Lib.hid o1
      clear b1 o1 Y0 B0 HW AK2 d0 d1
      have d0 := cell_of_row _ _ 0 _ _ _ Y1.out
      have d1 := cell_of_row _ _ 1 _ _ _ Y1.out
      go_wp2_with fail
      refine (OF2.out _ _ B1.out O1.out).mono ?_
      rintro e w2 ⟨v2, rfl, e2, b2⟩
      have B2 := Lib.hid (bt B1.out b2)
      have Y2 := Lib.hid (blk_below b2 Y1.out)
      have O2 := Lib.hid (O1.out.keeps b2)
      obtain ⟨xo, xc, rfl⟩ := e2.shape
      have E2 := Lib.hid e2
      rw [HNX.out] at E2 ⊢
      clear b2 e2 O1 B1 Y1 OF2 d0 d1
      clear O2 Y2 E2
      go_wp2
      exact bodyPost_ret (v := .tuple #[.slice none 0 0, .int .i64 2]) (by simp [results, Tryz.results17, go_sem]) rfl ⟨_, rfl, Seq.nil _ _, B2.out⟩
    have q3 : decide ((nx : Int) < k) = false := decide_eq_false hkx
    have q4 : decide ((nx : Int) - k < m) = true := decide_eq_true (by omega)
    have q5 : IntKind.i64.wrap ((nx : Int) - k) = (nx : Int) - k := IntWalk.i64_in _ (by omega)
    clear hk
    have d0 := cell_of_row _ _ 0 _ _ _ Y0.out
    have d1 := cell_of_row _ _ 1 _ _ _ Y0.out
    go_enter Tryz.func17, Tryz.ntmps17
    go_wp2_with fail
    rw [← HW.out]
    refine AK2.out.mono ?_
    rintro e w1 ⟨v1, rfl, o1, b1⟩
    have B1 := Lib.hid (bt B0.out b1)
    have Y1 := Lib.hid (blk_below b1 Y0.out)
    have O1 := Lib.hid o1
    clear b1 o1 Y0 B0 HW AK2 d0 d1
    have d0 := cell_of_row _ _ 0 _ _ _ Y1.out
    have d1 := cell_of_row _ _ 1 _ _ _ Y1.out
    go_wp2_with fail
    refine (OF2.out _ _ B1.out O1.out).mono ?_
    rintro e w2 ⟨v2, rfl, e2, b2⟩
    have B2 := Lib.hid (bt B1.out b2)
    have Y2 := Lib.hid (blk_below b2 Y1.out)
    have O2 := Lib.hid (O1.out.keeps b2)
    obtain ⟨xo, xc, rfl⟩ := e2.shape
    have E2 := Lib.hid e2
    rw [HNX.out] at E2 ⊢
    clear b2 e2 O1 B1 Y1 OF2 d0 d1
    clear O2 Y2 E2
    go_wp2
    exact bodyPost_ret (v := .tuple #[.slice none 0 0, .int .i64 2]) (by simp [results, Tryz.results17, go_sem]) rfl ⟨_, rfl, Seq.nil _ _, B2.out⟩
  rw [if_pos hk] at HE
  obtain ⟨kk, rfl⟩ : ∃ j : Nat, k = (j : Int) := ⟨k.toNat, by omega⟩
  obtain ⟨mm, rfl⟩ : ∃ j : Nat, m = (j : Int) := ⟨m.toNat, by omega⟩
  rw [Int.toNat_natCast, Int.toNat_natCast] at HL
  have hkm : kk + mm ≤ nx := by omega
  have q1 : decide ((kk : Int) < 0) = false := decide_eq_false (by omega)
  have q2 : decide ((mm : Int) < 1) = false := decide_eq_false (by omega)
  have q3 : decide ((nx : Int) < (kk : Int)) = false := decide_eq_false (by omega)
  have q3' : decide (nx < kk) = false := decide_eq_false (by omega)
  have q4 : decide ((nx : Int) - (kk : Int) < (mm : Int)) = false := decide_eq_false (by omega)
  have q5 : IntKind.i64.wrap ((nx : Int) - (kk : Int)) = (nx : Int) - (kk : Int) := IntWalk.i64_in _ (by omega)
  clear hk
  by_cases h2 : 64 < (mm : Int)
  · obtain rfl : ie = 4 := by rw [HE.out, if_pos h2]
    obtain rfl : il = [] := by rw [HL.out, if_neg (by decide)]
    have t2 : decide (64 < mm) = true := decide_eq_true (by omega)
    have t3 : decide ((64 : Int) < (mm : Int)) = true := decide_eq_true (by omega)
    clear HE HL LT
    have d0 := cell_of_row _ _ 0 _ _ _ Y0.out
    have d1 := cell_of_row _ _ 1 _ _ _ Y0.out
    go_enter Tryz.func17, Tryz.ntmps17
    go_wp2_with fail
    rw [← HW.out]
    refine AK2.out.mono ?_
    rintro e w1 ⟨v1, rfl, o1, b1⟩
    have B1 := Lib.hid (bt B0.out b1)
    have Y1 := Lib.hid (blk_below b1 Y0.out)
    have O1 := Lib.hid o1
    clear b1 o1 Y0 B0 HW AK2 d0 d1
    have d0 := cell_of_row _ _ 0 _ _ _ Y1.out
    have d1 := cell_of_row _ _ 1 _ _ _ Y1.out
    go_wp2_with fail
    refine (OF2.out _ _ B1.out O1.out).mono ?_
    rintro e w2 ⟨v2, rfl, e2, b2⟩
    have B2 := Lib.hid (bt B1.out b2)
    have Y2 := Lib.hid (blk_below b2 Y1.out)
    have O2 := Lib.hid (O1.out.keeps b2)
    obtain ⟨xo, xc, rfl⟩ := e2.shape
    have E2 := Lib.hid e2
    rw [HNX.out] at E2 ⊢
    clear b2 e2 O1 B1 Y1 OF2 d0 d1
    clear O2 Y2 E2
    go_wp2
    exact bodyPost_ret (v := .tuple #[.slice none 0 0, .int .i64 4]) (by simp [results, Tryz.results17, go_sem]) rfl ⟨_, rfl, Seq.nil _ _, B2.out⟩
  have t2 : decide (64 < mm) = false := decide_eq_false (by omega)
  have t3 : decide ((64 : Int) < (mm : Int)) = false := decide_eq_false (by omega)
  rw [if_neg h2] at HE
  by_cases h3 : 1073741824 < (t : Int) + (mm : Int)
  · obtain rfl : ie = 50 := by rw [HE.out, if_pos h3]
    obtain rfl : il = [] := by rw [HL.out, if_neg (by decide)]
    have LT2 : Hid (∀ W : World, Calls Tryz.prog 46 #[.int .u32 (t : Int), .int .i64 (mm : Int)] W fun e w' => e = .returned (.bool true) ∧ w' = W) := fun W => by
      have := LT.out W mm (by omega)
      rwa [decide_eq_true (by omega)] at this
    clear HE HL LT
    have d0 := cell_of_row _ _ 0 _ _ _ Y0.out
    have d1 := cell_of_row _ _ 1 _ _ _ Y0.out
    go_enter Tryz.func17, Tryz.ntmps17
    go_wp2_with fail
    rw [← HW.out]
    refine AK2.out.mono ?_
    rintro e w1 ⟨v1, rfl, o1, b1⟩
    have B1 := Lib.hid (bt B0.out b1)
    have Y1 := Lib.hid (blk_below b1 Y0.out)
    have O1 := Lib.hid o1
    clear b1 o1 Y0 B0 HW AK2 d0 d1
    have d0 := cell_of_row _ _ 0 _ _ _ Y1.out
    have d1 := cell_of_row _ _ 1 _ _ _ Y1.out
    go_wp2_with fail
    refine (OF2.out _ _ B1.out O1.out).mono ?_
    rintro e w2 ⟨v2, rfl, e2, b2⟩
    have B2 := Lib.hid (bt B1.out b2)
    have Y2 := Lib.hid (blk_below b2 Y1.out)
    have O2 := Lib.hid (O1.out.keeps b2)
    obtain ⟨xo, xc, rfl⟩ := e2.shape
    have E2 := Lib.hid e2
    rw [HNX.out] at E2 ⊢
    clear b2 e2 O1 B1 Y1 OF2 d0 d1
    go_wp2_with fail
    refine (LT2.out _).mono ?_
    rintro e w4 ⟨rfl, rfl⟩
    clear LT2
    clear O2 Y2 E2
    go_wp2
    exact bodyPost_ret (v := .tuple #[.slice none 0 0, .int .i64 50]) (by simp [results, Tryz.results17, go_sem]) rfl ⟨_, rfl, Seq.nil _ _, B2.out⟩
  obtain rfl : ie = 0 := by rw [HE.out, if_neg h3]
  rw [if_pos rfl] at HL
  have LT2 : Hid (∀ W : World, Calls Tryz.prog 46 #[.int .u32 (t : Int), .int .i64 (mm : Int)] W fun e w' => e = .returned (.bool false) ∧ w' = W) := fun W => by
    have := LT.out W mm (by omega)
    rwa [decide_eq_false (by omega)] at this
  have HYL : Hid (((X.drop kk).take mm).length = mm) := by unfold Hid; rw [List.length_take, List.length_drop]; have := HNX.out; omega
  have HYG : Hid (∀ j, j < mm → ∀ h2 : kk + j < X.length, ((X.drop kk).take mm)[j]? = some (X[kk + j]'h2)) := fun j h h2 => by rw [List.getElem?_take, if_pos h, List.getElem?_drop, List.getElem?_eq_getElem h2]
  obtain ⟨Y, hY⟩ : ∃ Y, (X.drop kk).take mm = Y := ⟨_, rfl⟩
  simp only [hY] at HL HYL HYG
  clear HE LT hY
  have d0 := cell_of_row _ _ 0 _ _ _ Y0.out
  have d1 := cell_of_row _ _ 1 _ _ _ Y0.out
  go_enter Tryz.func17, Tryz.ntmps17
  go_wp2_with fail
  rw [← HW.out]
  refine AK2.out.mono ?_
  rintro e w1 ⟨v1, rfl, o1, b1⟩
  have B1 := Lib.hid (bt B0.out b1)
  have Y1 := Lib.hid (blk_below b1 Y0.out)
  have O1 := Lib.hid o1
  clear b1 o1 Y0 B0 HW AK2 d0 d1
  have d0 := cell_of_row _ _ 0 _ _ _ Y1.out
  have d1 := cell_of_row _ _ 1 _ _ _ Y1.out
  go_wp2_with fail
  refine (OF2.out _ _ B1.out O1.out).mono ?_
  rintro e w2 ⟨v2, rfl, e2, b2⟩
  have B2 := Lib.hid (bt B1.out b2)
  have Y2 := Lib.hid (blk_below b2 Y1.out)
  have O2 := Lib.hid (O1.out.keeps b2)
  obtain ⟨xo, xc, rfl⟩ := e2.shape
  have E2 := Lib.hid e2
  rw [HNX.out] at E2 ⊢
  clear b2 e2 O1 B1 Y1 OF2 d0 d1
  go_wp2_with fail
  refine (LT2.out _).mono ?_
  rintro e w4 ⟨rfl, rfl⟩
  clear LT2
  have S0 : Hid (ShrO w4 w4 (.slice none 0 0) (delO r t (Y.take 0))) := Shr.nil _ _ _ _
  have M0 : Hid (0 = (delO r t (Y.take 0)).length) := rfl
  have Z0 : Hid (Below w4.heap.size w4 w4) := Below.refl _ _
  clear O2 Y2
  go_wp2
  go_loopw [17, 18] (fun vo i wr => ∃ (j : Nat) (lo : Option Addr) (lc : Nat), j ≤ mm ∧ i = .int .i64 (j : Int) ∧ vo = .slice lo j lc ∧ Hid (j = (delO r t (Y.take j)).length) ∧ Hid (ShrO w4 wr (.slice lo j lc) (delO r t (Y.take j))) ∧ Hid (Below w4.heap.size w4 wr)) (fun _ i _ => mm - (intOf i).toNat)
  case atStart => exact ⟨0, none, 0, by omega, rfl, rfl, M0, S0, Z0⟩
  case round =>
    clear S0 M0 Z0
    obtain ⟨j, lo, lc, hj, rfl, rfl, HM, HS, hbel⟩ := hrel
    by_cases hjn : j < mm
    rotate_left
    · have q6 : decide (j < mm) = false := by simpa using hjn
      obtain rfl : j = mm := by omega
      have hY2 : Y.take j = Y := List.take_of_length_le (by have := HYL.out; omega)
      obtain rfl : il = delO r t (Y.take j) := by rw [hY2]; exact HL.out
      have OE : Hid (OpL wr (.slice lo j lc) (delO r t (Y.take j))) := by
        obtain ⟨cs, h1, h2⟩ := HS.out
        exact ⟨cs, Sees.own h1, Enc.rows_keep hbel.out h2⟩
      have BE := Lib.hid (bt B2.out hbel.out)
      clear HL hY2
      go_wp2
      exact bodyPost_ret (v := .tuple #[.slice lo j lc, .int .i64 0]) (by simp [results, Tryz.results17, go_sem]) rfl ⟨_, rfl, OE.out, BE.out⟩
    have q6 : decide (j < mm) = true := by simpa using hjn
    have hjy : j < Y.length := by rw [HYL.out]; exact hjn
    have hjx : kk + j < X.length := by have := HNX.out; omega
    obtain ⟨bb, oo, u, e, hbb, hru, g0, g1, g2, g3⟩ := el_at E2.out (kk + j) hjx
    cases e
    have HG : Y[j]'hjy = X[kk + j]'hjx := by have := HYG.out j hjn hjx; rw [List.getElem?_eq_getElem hjy] at this; exact Option.some.inj this
    have FT : Hid (delO r t (Y.take (j + 1)) = delO r t (Y.take j) ++ [mkO 3 (mk (t + j + 1) r) (X[kk + j]'hjx).pl 0]) := by
      unfold Hid
      rw [delO_take Y r t j hjy, HG]
    obtain ⟨P, hP⟩ : ∃ P, (X[kk + j]'hjx).pl = P := ⟨_, rfl⟩
    rw [hP] at hru FT
    obtain ⟨T, hTT⟩ : ∃ T, T = t + j + 1 := ⟨_, rfl⟩
    have hTm : T ≤ 1073741824 := by omega
    have e1 : (mk T r).t = T := mk_t (by omega)
    have e2 : (mk T r).r = r := mk_r hr
    rw [← hTT] at FT
    obtain ⟨uo, uc, rfl⟩ := hru.shape
    obtain ⟨np, hnp⟩ : ∃ n, P.length = n := ⟨_, rfl⟩
    rw [hnp] at hru g2
    have w1 : IntKind.u32.wrap (j : Int) = (j : Int) := IntWalk.u32_in _ (by omega)
    have w2' : IntKind.u32.wrap ((t : Int) + (j : Int)) = (t : Int) + (j : Int) := IntWalk.u32_in _ (by omega)
    have w3 : (t : Int) + (j : Int) + 1 = (T : Int) := by omega
    have w4' : IntKind.u32.wrap (T : Int) = (T : Int) := IntWalk.u32_in _ (by omega)
    have w5 : IntKind.i64.wrap ((kk : Int) + (j : Int)) = (kk : Int) + (j : Int) := IntWalk.i64_in _ (by omega)
    have w6 : (0 : Int) ≤ (kk : Int) + (j : Int) := by omega
    have w7 : (kk : Int) + (j : Int) < (nx : Int) := by omega
    have w8 : ((kk : Int) + (j : Int)).toNat = kk + j := by omega
    have INN : Hid (opE.inn w4 [.int .u8 ((3 : Nat) : Int), .int .u32 (T : Int), .int .u8 (r : Int), .slice uo np uc, .int .i64 0] (mkO 3 (mk T r) P 0)) := by
      refine ⟨.slice uo np uc, ?_, by rw [← hnp] at hru ⊢; exact hru⟩
      show _ = [Value.int .u8 ((3 % 256 : Nat) : Int), .int .u32 ((mk T r).t : Int), .int .u8 ((mk T r).r : Int), .slice uo np uc, .int .i64 (if (-9223372036854775808 : Int) ≤ 0 ∧ (0 : Int) ≤ 9223372036854775807 then 0 else 0)]
      rw [e1, e2]
      rfl
    have k2 := (hbel.out.cell (p := ⟨bb, oo + (kk + j) * 4 + 2, none⟩) hbb).trans g2
    have hlt := Nat.lt_of_lt_of_le hbb hbel.out.size
    have HSS := Lib.hid (HS.out.keeps (Below.refl _ _))
    have HZ : Hid (w4.heap.size ≤ wr.heap.size) := hbel.out.size
    clear hru g0 g1 g2 g3 hP hnp e1 e2 hTT HG hbb
    go_wp2_with (at_builtin; refine wpList_append_enc (E := opE) Tryz.underlying22 op_info rfl (w0 := w4) (wp := wr) (by rfl) (.tmp 64) (.tmp 80) (by rfl) (by rfl) HSS.out (G := wr.heap.size) (by rfl) rfl (c := #[.int .u8 ((3 : Nat) : Int), .int .u32 (T : Int), .int .u8 (r : Int), .slice uo np uc, .int .i64 0]) INN.out HM.out (by omega) (by omega) HZ.out ?_)
    rintro v6 w6' s6 va vc rfl b6
    have S6 := Lib.hid s6
    rw [← FT.out] at S6
    have B6 := Lib.hid (hbel.out.trans b6)
    have M6 : Hid (j + 1 = (delO r t (Y.take (j + 1))).length) := by unfold Hid; rw [FT.out, List.length_append, ← HM.out]; rfl
    clear s6 b6 HS HSS hbel HM FT INN
    go_wp2
    go_roundw
    case rel => exact ⟨j + 1, va, vc, by omega, by go_num, rfl, M6, S6, B6⟩
    case measure => simp [intOf]; omega
end Go.Proofs.YtgjbnbojjgbmcaaGreat.Edits

namespace Go.Proofs.YtgjbnbojjgbmcaaGreat.Edits
open Go.RowKit Go.WideShapes Stamp Go.Proofs.YtgjbnbojjgbmcaaGreat.Place Ops Codes Bags Marks Homes Covers Views
attribute [local go_sem ↓] Go.wp_at_zero Go.wp_at_succ
attribute [local go_sem] yielded_undef
theorem begin_le64 {live : List Opn} (hm : ∀ o ∈ live, mayO o = true) (a : Int) : (beginM live a).length ≤ 64 := by
  unfold beginM
  split
  · rename_i h
    have hj : (a - 1).toNat < live.length := by omega
    rw [List.getD_eq_getElem?_getD, List.getElem?_eq_getElem hj]
    exact ((mayB_iff _).1 (mayO_parts (hm _ (List.getElem_mem hj))).2.1).2.1
  · simp
set_option maxRecDepth 100000 in
set_option maxHeartbeats 8000000 in
theorem refSplit16_any {v : Value} {l : List Opn} {r t : Nat} (s : Id) (k : Int) {w : World} (hv : OpL w v l) (hr : r < 256) (ht : t < 4294967296) :
    Calls Tryz.prog 18 #[v, .int .u8 (r : Int), .int .u32 (t : Int), .agg #[.int .u32 (s.t : Int), .int .u8 (s.r : Int)], .int .i64 k] w (DoneL (splL l r t s k) (splE l r t s k) w) := by
  obtain ⟨wl, hwl⟩ : ∃ x, x = w.alloc (.cells #[.int .u32 (s.t : Int), .int .u8 (s.r : Int)] 28) := ⟨_, rfl⟩
  have B0 : Hid (Below w.heap.size w wl) := by rw [hwl]; exact (Below.refl _ _).alloc (Nat.le_refl _) _
  have Y0 : Hid (wl.heap[w.heap.size]? = some (.cells #[.int .u32 (s.t : Int), .int .u8 (s.r : Int)] 28)) := by rw [hwl]; exact blk_new rfl
  have HW := Lib.hid hwl
  have AK : Hid (Calls Tryz.prog 43 #[v, .int .u8 (r : Int), .int .u32 (t : Int), .agg #[.int .u32 (s.t : Int), .int .u8 (s.r : Int)]] wl (AskD l r t s wl)) := refAsk_any s (hv.keeps B0.out) hr
  have OF : Hid (askE l r t s = 0 → ∀ (W : World) (y : Value), Below w.heap.size w W → OpL W y (livesM l l) → Calls Tryz.prog 44 #[v, y, .agg #[.int .u32 (s.t : Int), .int .u8 (s.r : Int)]] W fun e w' => ∃ v', e = .returned v' ∧ ElL w' v' (elmL l s) ∧ Below W.heap.size W w') := fun h0 W y h hy => by
    have hs := (askE_zero.1 h0).2.2
    have hb := (spanE_zero.1 hs).1
    have := refOf15_any s (hv.keeps h) hy (by have := hb.1; omega) hb.2.1 (lives_fits hb).2
    rwa [← elm_yes hs] at this
  have LF : Hid (askE l r t s = 0 → ∀ (W : World) (y x : Value) (j : Nat), j ≤ (elmL l s).length → OpL W y (livesM l l) → ElL W x (elmL l s) → Calls Tryz.prog 48 #[v, y, .agg #[.int .u32 (s.t : Int), .int .u8 (s.r : Int)], x, .int .i64 (j : Int)] W fun e w' => ∃ v', e = .returned v' ∧ Runs w' v' (leftP l s j) ∧ Below W.heap.size W w') := fun h0 W y x j hj hy hx => by
    have hs := (askE_zero.1 h0).2.2
    have hb := spanE_zero.1 hs
    exact refLeft_any s j hy hx hj (by have := elm_len l s; have := hb.1.1; omega) (by have := (lives_fits hb.1).1; omega) hb.2
  have LT : Hid (∀ W : World, Calls Tryz.prog 46 #[.int .u32 (t : Int), .int .i64 1] W fun e w' => e = .returned (.bool (decide (1073741824 < t + 1))) ∧ w' = W) := fun W => refLate_any (m := 1) ht (by omega) W
  have HE : Hid (splE l r t s k = (if askE l r t s = 0 then if 0 ≤ k ∧ k ≤ ((elmL l s).length : Int) then if 64 ≤ (livesM l l).length then 9 else if 1073741824 < t + 1 then 50 else if (und (leftP l s k.toNat) (mk (t + 1) r)).2 = 0 then 0 else 60 else 2 else askE l r t s)) := rfl
  have HL : Hid (splL l r t s k = if splE l r t s k = 0 then [mkO 2 (mk (t + 1) r) (und (leftP l s k.toNat) (mk (t + 1) r)).1 0] else []) := rfl
  obtain ⟨ao, cap, rfl⟩ := hv.shape
  obtain ⟨n, hn⟩ : ∃ n, l.length = n := ⟨_, rfl⟩
  rw [hn] at AK OF LF ⊢
  obtain ⟨ie, hie⟩ : ∃ x, splE l r t s k = x := ⟨_, rfl⟩
  rw [hie] at HE HL ⊢
  obtain ⟨il, hil⟩ : ∃ x, splL l r t s k = x := ⟨_, rfl⟩
  rw [hil] at HL ⊢
  have AK2 : Hid (Calls Tryz.prog 43 #[.slice ao n cap, .int .u8 (r : Int), .int .u32 (t : Int), .agg #[.int .u32 (s.t : Int), .int .u8 (s.r : Int)]] wl fun e w' => ∃ v', e = .returned (.tuple #[v', .int .i64 (askE l r t s)]) ∧ OpL w' v' (if askE l r t s = 0 then livesM l l else []) ∧ Below wl.heap.size wl w') := AK.out
  obtain ⟨a, ha⟩ : ∃ a, askE l r t s = a := ⟨_, rfl⟩
  rw [ha] at AK2 OF LF HE
  obtain ⟨V, hV⟩ : ∃ V, livesM l l = V := ⟨_, rfl⟩
  rw [hV] at AK2 OF LF HE
  obtain ⟨X, hX⟩ : ∃ X, elmL l s = X := ⟨_, rfl⟩
  rw [hX] at OF LF HE
  obtain ⟨LP, hLP⟩ : ∃ LP, leftP l s = LP := ⟨_, rfl⟩
  rw [hLP] at LF HE HL
  obtain ⟨nx, hnx⟩ : ∃ n, X.length = n := ⟨_, rfl⟩
  rw [hnx] at LF HE
  have HNX := Lib.hid hnx
  obtain ⟨nv, hnv⟩ : ∃ n, V.length = n := ⟨_, rfl⟩
  rw [hnv] at HE
  have HNV := Lib.hid hnv
  clear hv hwl hn AK hie hil ha hV hX hLP hnx hnv
  obtain ⟨ts, rs, hts, hrs⟩ := s
  simp only at Y0 HW AK2 OF LF ⊢
  by_cases ha : a = 0
  rotate_left
  · obtain rfl : ie = a := by rw [HE.out, if_neg ha]
    obtain rfl : il = [] := by rw [HL.out, if_neg ha]
    have t1 : (ie != 0) = true := by simpa using ha
    have t2 : decide (ie = 0) = false := decide_eq_false ha
    clear HE HL OF LF LT
    have d0 := cell_of_row _ _ 0 _ _ _ Y0.out
    have d1 := cell_of_row _ _ 1 _ _ _ Y0.out
    go_enter Tryz.func18, Tryz.ntmps18
    go_wp2_with fail
    rw [← HW.out]
    refine AK2.out.mono ?_
    rintro e w1 ⟨v1, rfl, o1, b1⟩
    have B1 := Lib.hid (bt B0.out b1)
    have Y1 := Lib.hid (blk_below b1 Y0.out)
    have O1 := Lib.hid o1
    clear b1 o1 Y0 B0 HW AK2 d0 d1
    clear O1 Y1
    go_wp2
    exact bodyPost_ret (v := .tuple #[.slice none 0 0, .int .i64 ie]) (by simp [results, Tryz.results18, go_sem]) rfl ⟨_, rfl, Seq.nil _ _, B1.out⟩
  subst ha
  rw [if_pos rfl] at AK2 HE
  have OF2 := Lib.hid (OF.out rfl)
  have LF2 := Lib.hid (LF.out rfl)
  clear OF LF
  by_cases hk : 0 ≤ k ∧ k ≤ (nx : Int)
  rotate_left
  · obtain rfl : ie = 2 := by rw [HE.out, if_neg hk]
    obtain rfl : il = [] := by rw [HL.out, if_neg (by decide)]
    clear HE HL LF2 LT
    by_cases hk0 : k < 0
    · have q1 : decide (k < 0) = true := decide_eq_true hk0
      clear hk
      have d0 := cell_of_row _ _ 0 _ _ _ Y0.out
      have d1 := cell_of_row _ _ 1 _ _ _ Y0.out
      go_enter Tryz.func18, Tryz.ntmps18
      go_wp2_with fail
      rw [← HW.out]
      refine AK2.out.mono ?_
      rintro e w1 ⟨v1, rfl, o1, b1⟩
      have B1 := Lib.hid (bt B0.out b1)
      have Y1 := Lib.hid (blk_below b1 Y0.out)
      have O1 := Lib.hid o1
      clear b1 o1 Y0 B0 HW AK2 d0 d1
      have d0 := cell_of_row _ _ 0 _ _ _ Y1.out
      have d1 := cell_of_row _ _ 1 _ _ _ Y1.out
      go_wp2_with fail
      refine (OF2.out _ _ B1.out O1.out).mono ?_
      rintro e w2 ⟨v2, rfl, e2, b2⟩
      have B2 := Lib.hid (bt B1.out b2)
      have Y2 := Lib.hid (blk_below b2 Y1.out)
      have O2 := Lib.hid (O1.out.keeps b2)
      obtain ⟨xo, xc, rfl⟩ := e2.shape
      have E2 := Lib.hid e2
      rw [HNX.out] at E2 ⊢
      clear b2 e2 O1 B1 Y1 OF2 d0 d1
      clear O2 Y2 E2
      go_wp2
      exact bodyPost_ret (v := .tuple #[.slice none 0 0, .int .i64 2]) (by simp [results, Tryz.results18, go_sem]) rfl ⟨_, rfl, Seq.nil _ _, B2.out⟩
    · have q1 : decide (k < 0) = false := decide_eq_false hk0
      have q2 : decide ((nx : Int) < k) = true := decide_eq_true (by omega)
      clear hk
      have d0 := cell_of_row _ _ 0 _ _ _ Y0.out
      have d1 := cell_of_row _ _ 1 _ _ _ Y0.out
      go_enter Tryz.func18, Tryz.ntmps18
      go_wp2_with fail
      rw [← HW.out]
      refine AK2.out.mono ?_
      rintro e w1 ⟨v1, rfl, o1, b1⟩
      have B1 := Lib.hid (bt B0.out b1)
      have Y1 := Lib.hid (blk_below b1 Y0.out)
      have O1 := Lib.hid o1
      clear b1 o1 Y0 B0 HW AK2 d0 d1
      have d0 := cell_of_row _ _ 0 _ _ _ Y1.out
      have d1 := cell_of_row _ _ 1 _ _ _ Y1.out
      go_wp2_with fail
      refine (OF2.out _ _ B1.out O1.out).mono ?_
      rintro e w2 ⟨v2, rfl, e2, b2⟩
      have B2 := Lib.hid (bt B1.out b2)
      have Y2 := Lib.hid (blk_below b2 Y1.out)
      have O2 := Lib.hid (O1.out.keeps b2)
      obtain ⟨xo, xc, rfl⟩ := e2.shape
      have E2 := Lib.hid e2
      rw [HNX.out] at E2 ⊢
      clear b2 e2 O1 B1 Y1 OF2 d0 d1
      clear O2 Y2 E2
      go_wp2
      exact bodyPost_ret (v := .tuple #[.slice none 0 0, .int .i64 2]) (by simp [results, Tryz.results18, go_sem]) rfl ⟨_, rfl, Seq.nil _ _, B2.out⟩
  rw [if_pos hk] at HE
  obtain ⟨kk, rfl⟩ : ∃ j : Nat, k = (j : Int) := ⟨k.toNat, by omega⟩
  rw [Int.toNat_natCast] at HE HL
  have hkk : kk ≤ nx := by omega
  have q1 : decide ((kk : Int) < 0) = false := decide_eq_false (by omega)
  have q2 : decide ((nx : Int) < (kk : Int)) = false := decide_eq_false (by omega)
  have q3 : decide (nx < kk) = false := decide_eq_false (by omega)
  clear hk
  by_cases h2 : 64 ≤ nv
  · obtain rfl : ie = 9 := by rw [HE.out, if_pos h2]
    obtain rfl : il = [] := by rw [HL.out, if_neg (by decide)]
    have t2 : decide (64 ≤ nv) = true := decide_eq_true h2
    have t3 : decide ((64 : Int) ≤ (nv : Int)) = true := decide_eq_true (by omega)
    clear HE HL LF2 LT
    have d0 := cell_of_row _ _ 0 _ _ _ Y0.out
    have d1 := cell_of_row _ _ 1 _ _ _ Y0.out
    go_enter Tryz.func18, Tryz.ntmps18
    go_wp2_with fail
    rw [← HW.out]
    refine AK2.out.mono ?_
    rintro e w1 ⟨v1, rfl, o1, b1⟩
    have B1 := Lib.hid (bt B0.out b1)
    have Y1 := Lib.hid (blk_below b1 Y0.out)
    have O1 := Lib.hid o1
    clear b1 o1 Y0 B0 HW AK2 d0 d1
    have d0 := cell_of_row _ _ 0 _ _ _ Y1.out
    have d1 := cell_of_row _ _ 1 _ _ _ Y1.out
    go_wp2_with fail
    refine (OF2.out _ _ B1.out O1.out).mono ?_
    rintro e w2 ⟨v2, rfl, e2, b2⟩
    have B2 := Lib.hid (bt B1.out b2)
    have Y2 := Lib.hid (blk_below b2 Y1.out)
    have O2 := Lib.hid (O1.out.keeps b2)
    obtain ⟨xo, xc, rfl⟩ := e2.shape
    have E2 := Lib.hid e2
    rw [HNX.out] at E2 ⊢
    clear b2 e2 O1 B1 Y1 OF2 d0 d1
    obtain ⟨vo, vc, rfl⟩ := O2.out.shape
    rw [HNV.out] at O2 ⊢
    clear O2 Y2 E2
    go_wp2
    exact bodyPost_ret (v := .tuple #[.slice none 0 0, .int .i64 9]) (by simp [results, Tryz.results18, go_sem]) rfl ⟨_, rfl, Seq.nil _ _, B2.out⟩
  have t2 : decide (64 ≤ nv) = false := decide_eq_false h2
  have t3 : decide ((64 : Int) ≤ (nv : Int)) = false := decide_eq_false (by omega)
  rw [if_neg h2] at HE
  by_cases h3 : 1073741824 < t + 1
  · obtain rfl : ie = 50 := by rw [HE.out, if_pos h3]
    obtain rfl : il = [] := by rw [HL.out, if_neg (by decide)]
    have LT2 : Hid (∀ W : World, Calls Tryz.prog 46 #[.int .u32 (t : Int), .int .i64 1] W fun e w' => e = .returned (.bool true) ∧ w' = W) := fun W => by
      have := LT.out W
      rwa [decide_eq_true h3] at this
    clear HE HL LF2 LT
    have d0 := cell_of_row _ _ 0 _ _ _ Y0.out
    have d1 := cell_of_row _ _ 1 _ _ _ Y0.out
    go_enter Tryz.func18, Tryz.ntmps18
    go_wp2_with fail
    rw [← HW.out]
    refine AK2.out.mono ?_
    rintro e w1 ⟨v1, rfl, o1, b1⟩
    have B1 := Lib.hid (bt B0.out b1)
    have Y1 := Lib.hid (blk_below b1 Y0.out)
    have O1 := Lib.hid o1
    clear b1 o1 Y0 B0 HW AK2 d0 d1
    have d0 := cell_of_row _ _ 0 _ _ _ Y1.out
    have d1 := cell_of_row _ _ 1 _ _ _ Y1.out
    go_wp2_with fail
    refine (OF2.out _ _ B1.out O1.out).mono ?_
    rintro e w2 ⟨v2, rfl, e2, b2⟩
    have B2 := Lib.hid (bt B1.out b2)
    have Y2 := Lib.hid (blk_below b2 Y1.out)
    have O2 := Lib.hid (O1.out.keeps b2)
    obtain ⟨xo, xc, rfl⟩ := e2.shape
    have E2 := Lib.hid e2
    rw [HNX.out] at E2 ⊢
    clear b2 e2 O1 B1 Y1 OF2 d0 d1
    obtain ⟨vo, vc, rfl⟩ := O2.out.shape
    rw [HNV.out] at O2 ⊢
    go_wp2_with fail
    refine (LT2.out _).mono ?_
    rintro e w4 ⟨rfl, rfl⟩
    clear LT2
    clear O2 Y2 E2
    go_wp2
    exact bodyPost_ret (v := .tuple #[.slice none 0 0, .int .i64 50]) (by simp [results, Tryz.results18, go_sem]) rfl ⟨_, rfl, Seq.nil _ _, B2.out⟩
  rw [if_neg h3] at HE
  have LT2 : Hid (∀ W : World, Calls Tryz.prog 46 #[.int .u32 (t : Int), .int .i64 1] W fun e w' => e = .returned (.bool false) ∧ w' = W) := fun W => by
    have := LT.out W
    rwa [decide_eq_false h3] at this
  obtain ⟨T, hTT⟩ : ∃ T, T = t + 1 := ⟨_, rfl⟩
  rw [← hTT] at HE HL
  have e1 : (mk T r).t = T := mk_t (by omega)
  have e2 : (mk T r).r = r := mk_r hr
  have w3 : (t : Int) + 1 = (T : Int) := by omega
  have w4' : IntKind.u32.wrap (T : Int) = (T : Int) := IntWalk.u32_in _ (by omega)
  have UN : Hid (∀ (W : World) (y : Value), Runs W y (LP kk) → Calls Tryz.prog 51 #[y, .agg #[.int .u32 (T : Int), .int .u8 (r : Int)]] W fun e w' => ∃ ao cap, e = .returned (.tuple #[.slice ao (und (LP kk) (mk T r)).1.length cap, .int .i64 (und (LP kk) (mk T r)).2]) ∧ Runs w' (.slice ao (und (LP kk) (mk T r)).1.length cap) (und (LP kk) (mk T r)).1 ∧ Below W.heap.size W w') := fun W y h => by
    have := refUnder_any (a := mk T r) h
    rw [e1, e2] at this
    exact this
  obtain ⟨Q, f, hQ⟩ : ∃ Q f, und (LP kk) (mk T r) = (Q, f) := ⟨_, _, rfl⟩
  rw [hQ] at HE HL
  simp only [hQ] at UN
  simp only at HE HL
  obtain ⟨P, hP⟩ : ∃ P, LP kk = P := ⟨_, rfl⟩
  have LF3 : Hid (∀ (W : World) (y x : Value), OpL W y V → ElL W x X → Calls Tryz.prog 48 #[.slice ao n cap, y, .agg #[.int .u32 (ts : Int), .int .u8 (rs : Int)], x, .int .i64 (kk : Int)] W fun e w' => ∃ v', e = .returned v' ∧ Runs w' v' P ∧ Below W.heap.size W w') := fun W y x hy hx => by
    have := LF2.out W y x kk hkk hy hx
    rwa [hP] at this
  rw [hP] at UN
  obtain ⟨nq, hnq⟩ : ∃ n, Q.length = n := ⟨_, rfl⟩
  rw [hnq] at UN
  clear LF2 LT hQ hP hTT
  by_cases hf : f = 0
  rotate_left
  · obtain rfl : ie = 60 := by rw [HE.out, if_neg hf]
    obtain rfl : il = [] := by rw [HL.out, if_neg (by decide)]
    have t5 : (f != 0) = true := by simpa using hf
    have t6 : decide (f = 0) = false := decide_eq_false hf
    clear HE HL
    have d0 := cell_of_row _ _ 0 _ _ _ Y0.out
    have d1 := cell_of_row _ _ 1 _ _ _ Y0.out
    go_enter Tryz.func18, Tryz.ntmps18
    go_wp2_with fail
    rw [← HW.out]
    refine AK2.out.mono ?_
    rintro e w1 ⟨v1, rfl, o1, b1⟩
    have B1 := Lib.hid (bt B0.out b1)
    have Y1 := Lib.hid (blk_below b1 Y0.out)
    have O1 := Lib.hid o1
    clear b1 o1 Y0 B0 HW AK2 d0 d1
    have d0 := cell_of_row _ _ 0 _ _ _ Y1.out
    have d1 := cell_of_row _ _ 1 _ _ _ Y1.out
    go_wp2_with fail
    refine (OF2.out _ _ B1.out O1.out).mono ?_
    rintro e w2 ⟨v2, rfl, e2, b2⟩
    have B2 := Lib.hid (bt B1.out b2)
    have Y2 := Lib.hid (blk_below b2 Y1.out)
    have O2 := Lib.hid (O1.out.keeps b2)
    obtain ⟨xo, xc, rfl⟩ := e2.shape
    have E2 := Lib.hid e2
    rw [HNX.out] at E2 ⊢
    clear b2 e2 O1 B1 Y1 OF2 d0 d1
    obtain ⟨vo, vc, rfl⟩ := O2.out.shape
    rw [HNV.out] at O2 ⊢
    go_wp2_with fail
    refine (LT2.out _).mono ?_
    rintro e w4 ⟨rfl, rfl⟩
    clear LT2
    obtain ⟨w5, hw5⟩ : ∃ x, w4.alloc (.cells #[.int .u32 (T : Int), .int .u8 (r : Int)] 28) = x := ⟨_, rfl⟩
    have B45 : Hid (Below w4.heap.size w4 w5) := by rw [← hw5]; exact (Below.refl _ _).alloc (Nat.le_refl _) _
    have G5 : Hid (w5.heap[w4.heap.size]? = some (.cells #[.int .u32 (T : Int), .int .u8 (r : Int)] 28)) := by rw [← hw5]; exact blk_new rfl
    have Y5 := Lib.hid (blk_below B45.out Y2.out)
    have O5 := Lib.hid (O2.out.keeps B45.out)
    have E5 := Lib.hid (E2.out.keeps B45.out)
    have B5 := Lib.hid (bt B2.out B45.out)
    have SK : Hid (∀ W : World, Below w5.heap.size w5 W → Below w5.heap.size w5 W ∧ W.cell? ⟨w.heap.size, 0, none⟩ = some (.int .u32 (ts : Int)) ∧ W.cell? ⟨w.heap.size, 1, none⟩ = some (.int .u8 (rs : Int)) ∧ W.cell? ⟨w4.heap.size, 0, none⟩ = some (.int .u32 (T : Int)) ∧ W.cell? ⟨w4.heap.size, 1, none⟩ = some (.int .u8 (r : Int))) := fun W h => by
      have g1 := blk_below h Y5.out
      have g2 := blk_below h G5.out
      exact ⟨h, cell_of_row _ _ 0 _ _ _ g1, cell_of_row _ _ 1 _ _ _ g1, cell_of_row _ _ 0 _ _ _ g2, cell_of_row _ _ 1 _ _ _ g2⟩
    have HW5 := Lib.hid hw5
    clear hw5 B2 O2 E2 Y2
    go_wp2
    rw [HW5.out]
    refine wp_region_held_drew (S := fun w' => Below w5.heap.size w5 w' ∧ w'.cell? ⟨w.heap.size, 0, none⟩ = some (.int .u32 (ts : Int)) ∧ w'.cell? ⟨w.heap.size, 1, none⟩ = some (.int .u8 (rs : Int)) ∧ w'.cell? ⟨w4.heap.size, 0, none⟩ = some (.int .u32 (T : Int)) ∧ w'.cell? ⟨w4.heap.size, 1, none⟩ = some (.int .u8 (r : Int))) (by kernel_rfl) (SK.out _ (drew1 _)) (fun hHeld => ?_)
    refine rN 0 ?_
    refine rN 1 ?_
    refine rN 2 ?_
    refine rN 3 ?_
    refine rN 4 ?_
    refine rN 6 ?_
    refine wpAnyH_ready (rs := [5]) (by kernel_rfl) (by simp) ?_
    refine AllReadyH.cons rfl (fun K hK => ?_) ?za5
    case za5 => exact AllReadyH.nil
    go_simp
    refine (LF3.out _ _ _ (O5.out.keeps hHeld.1) (E5.out.keeps hHeld.1)).mono ?_
    rintro e w9a5 ⟨vp, rfl, rp, b9⟩
    have RP := Lib.hid rp
    clear rp
    refine hK.out _ _ (SK.out _ (bt hHeld.1 b9)) (fun hNew => ?_)
    clear hHeld
    have hHeld := hNew
    clear hNew hK K
    refine rX ?_
    refine wpAnyH_ready (rs := [7]) (by kernel_rfl) (by simp) ?_
    refine AllReadyH.cons rfl (fun K hK => ?_) ?za7
    case za7 => exact AllReadyH.nil
    go_simp
    refine (UN.out _ _ RP.out).mono ?_
    rintro e w9a7 ⟨qo, qc, rfl, rq, b9⟩
    have RQ := Lib.hid rq
    clear rq
    refine hK.out _ _ (SK.out _ (bt hHeld.1 b9)) (fun hNew => ?_)
    clear hHeld
    have hHeld := hNew
    clear hNew hK K
    refine rX ?_
    refine rN 8 ?_
    refine rN 9 ?_
    refine rN 10 ?_
    refine rN 11 ?_
    refine rN 12 ?_
    refine wpAnyH_done (by kernel_rfl) ?_ _
    have b8 := hHeld.1
    have B8 := Lib.hid (bt B5.out b8)
    have G8 := Lib.hid (blk_below b8 G5.out)
    clear b8 hHeld SK UN LF3 O5 E5 Y5 G5 B45 HW5 B5
    clear RQ RP G8
    go_wp2
    exact bodyPost_ret (v := .tuple #[.slice none 0 0, .int .i64 60]) (by simp [results, Tryz.results18, go_sem]) rfl ⟨_, rfl, Seq.nil _ _, B8.out⟩
  subst hf
  obtain rfl : ie = 0 := by rw [HE.out, if_pos rfl]
  have HIL : Hid (il = [mkO 2 (mk T r) Q 0]) := by unfold Hid; rw [HL.out, if_pos rfl]
  have HO1 : Hid ((mkO 2 (mk T r) Q 0).t = T ∧ (mkO 2 (mk T r) Q 0).r = r) := ⟨e1, e2⟩
  have HNQ := Lib.hid hnq
  clear HE HL e1 e2 hnq
  have d0 := cell_of_row _ _ 0 _ _ _ Y0.out
  have d1 := cell_of_row _ _ 1 _ _ _ Y0.out
  go_enter Tryz.func18, Tryz.ntmps18
  go_wp2_with fail
  rw [← HW.out]
  refine AK2.out.mono ?_
  rintro e w1 ⟨v1, rfl, o1, b1⟩
  have B1 := Lib.hid (bt B0.out b1)
  have Y1 := Lib.hid (blk_below b1 Y0.out)
  have O1 := Lib.hid o1
  clear b1 o1 Y0 B0 HW AK2 d0 d1
  have d0 := cell_of_row _ _ 0 _ _ _ Y1.out
  have d1 := cell_of_row _ _ 1 _ _ _ Y1.out
  go_wp2_with fail
  refine (OF2.out _ _ B1.out O1.out).mono ?_
  rintro e w2 ⟨v2, rfl, e2, b2⟩
  have B2 := Lib.hid (bt B1.out b2)
  have Y2 := Lib.hid (blk_below b2 Y1.out)
  have O2 := Lib.hid (O1.out.keeps b2)
  obtain ⟨xo, xc, rfl⟩ := e2.shape
  have E2 := Lib.hid e2
  rw [HNX.out] at E2 ⊢
  clear b2 e2 O1 B1 Y1 OF2 d0 d1
  obtain ⟨vo, vc, rfl⟩ := O2.out.shape
  rw [HNV.out] at O2 ⊢
  go_wp2_with fail
  refine (LT2.out _).mono ?_
  rintro e w4 ⟨rfl, rfl⟩
  clear LT2
  obtain ⟨w5, hw5⟩ : ∃ x, w4.alloc (.cells #[.int .u32 (T : Int), .int .u8 (r : Int)] 28) = x := ⟨_, rfl⟩
  have B45 : Hid (Below w4.heap.size w4 w5) := by rw [← hw5]; exact (Below.refl _ _).alloc (Nat.le_refl _) _
  have G5 : Hid (w5.heap[w4.heap.size]? = some (.cells #[.int .u32 (T : Int), .int .u8 (r : Int)] 28)) := by rw [← hw5]; exact blk_new rfl
  have Y5 := Lib.hid (blk_below B45.out Y2.out)
  have O5 := Lib.hid (O2.out.keeps B45.out)
  have E5 := Lib.hid (E2.out.keeps B45.out)
  have B5 := Lib.hid (bt B2.out B45.out)
  have SK : Hid (∀ W : World, Below w5.heap.size w5 W → Below w5.heap.size w5 W ∧ W.cell? ⟨w.heap.size, 0, none⟩ = some (.int .u32 (ts : Int)) ∧ W.cell? ⟨w.heap.size, 1, none⟩ = some (.int .u8 (rs : Int)) ∧ W.cell? ⟨w4.heap.size, 0, none⟩ = some (.int .u32 (T : Int)) ∧ W.cell? ⟨w4.heap.size, 1, none⟩ = some (.int .u8 (r : Int))) := fun W h => by
    have g1 := blk_below h Y5.out
    have g2 := blk_below h G5.out
    exact ⟨h, cell_of_row _ _ 0 _ _ _ g1, cell_of_row _ _ 1 _ _ _ g1, cell_of_row _ _ 0 _ _ _ g2, cell_of_row _ _ 1 _ _ _ g2⟩
  have HW5 := Lib.hid hw5
  clear hw5 B2 O2 E2 Y2
  go_wp2
  rw [HW5.out]
  refine wp_region_held_drew (S := fun w' => Below w5.heap.size w5 w' ∧ w'.cell? ⟨w.heap.size, 0, none⟩ = some (.int .u32 (ts : Int)) ∧ w'.cell? ⟨w.heap.size, 1, none⟩ = some (.int .u8 (rs : Int)) ∧ w'.cell? ⟨w4.heap.size, 0, none⟩ = some (.int .u32 (T : Int)) ∧ w'.cell? ⟨w4.heap.size, 1, none⟩ = some (.int .u8 (r : Int))) (by kernel_rfl) (SK.out _ (drew1 _)) (fun hHeld => ?_)
  refine rN 0 ?_
  refine rN 1 ?_
  refine rN 2 ?_
  refine rN 3 ?_
  refine rN 4 ?_
  refine rN 6 ?_
  refine wpAnyH_ready (rs := [5]) (by kernel_rfl) (by simp) ?_
  refine AllReadyH.cons rfl (fun K hK => ?_) ?zb5
  case zb5 => exact AllReadyH.nil
  go_simp
  refine (LF3.out _ _ _ (O5.out.keeps hHeld.1) (E5.out.keeps hHeld.1)).mono ?_
  rintro e w9b5 ⟨vp, rfl, rp, b9⟩
  have RP := Lib.hid rp
  clear rp
  refine hK.out _ _ (SK.out _ (bt hHeld.1 b9)) (fun hNew => ?_)
  clear hHeld
  have hHeld := hNew
  clear hNew hK K
  refine rX ?_
  refine wpAnyH_ready (rs := [7]) (by kernel_rfl) (by simp) ?_
  refine AllReadyH.cons rfl (fun K hK => ?_) ?zb7
  case zb7 => exact AllReadyH.nil
  go_simp
  refine (UN.out _ _ RP.out).mono ?_
  rintro e w9b7 ⟨qo, qc, rfl, rq, b9⟩
  have RQ := Lib.hid rq
  clear rq
  refine hK.out _ _ (SK.out _ (bt hHeld.1 b9)) (fun hNew => ?_)
  clear hHeld
  have hHeld := hNew
  clear hNew hK K
  refine rX ?_
  refine rN 8 ?_
  refine rN 9 ?_
  refine rN 10 ?_
  refine rN 11 ?_
  refine rN 12 ?_
  refine wpAnyH_done (by kernel_rfl) ?_ _
  have b8 := hHeld.1
  have B8 := Lib.hid (bt B5.out b8)
  have G8 := Lib.hid (blk_below b8 G5.out)
  clear b8 hHeld SK UN LF3 O5 E5 Y5 G5 B45 HW5 B5
  have g8 := G8.out
  have c0 := cell_of_row _ _ 0 _ _ _ g8
  have c1 := cell_of_row _ _ 1 _ _ _ g8
  clear g8 G8 RP
  have OE : Hid (OpL (w9b7.alloc (.cells #[.int .u8 2, .int .u32 (T : Int), .int .u8 (r : Int), .slice qo nq qc, .int .i64 0] 38)) (.slice (some ⟨w9b7.heap.size, 0, none⟩) 1 1) il) := by
    unfold Hid
    rw [HIL.out]
    exact opl_one (o := mkO 2 (mk T r) Q 0) rfl (by rw [HO1.out.1]) (by rw [HO1.out.2]) rfl (by have := RQ.out; rw [← HNQ.out] at this ⊢; exact this)
  have BE : Hid (Below w.heap.size w (w9b7.alloc (.cells #[.int .u8 2, .int .u32 (T : Int), .int .u8 (r : Int), .slice qo nq qc, .int .i64 0] 38))) := B8.out.alloc B8.out.size _
  clear RQ B8 HIL HO1 HNQ
  go_wp2
  exact bodyPost_ret (v := .tuple #[.slice (some ⟨w9b7.heap.size, 0, none⟩) 1 1, .int .i64 0]) (by simp [results, Tryz.results18, go_sem]) rfl ⟨_, rfl, OE.out, BE.out⟩
set_option maxRecDepth 100000 in
set_option maxHeartbeats 8000000 in
theorem refMerge16_any {v : Value} {l : List Opn} {r t : Nat} (s : Id) {w : World} (hv : OpL w v l) (hr : r < 256) (ht : t < 4294967296) :
    Calls Tryz.prog 19 #[v, .int .u8 (r : Int), .int .u32 (t : Int), .agg #[.int .u32 (s.t : Int), .int .u8 (s.r : Int)]] w (DoneL (merL l r t s) (merE l r t s) w) := by
  obtain ⟨wl, hwl⟩ : ∃ x, x = w.alloc (.cells #[.int .u32 (s.t : Int), .int .u8 (s.r : Int)] 28) := ⟨_, rfl⟩
  have B0 : Hid (Below w.heap.size w wl) := by rw [hwl]; exact (Below.refl _ _).alloc (Nat.le_refl _) _
  have Y0 : Hid (wl.heap[w.heap.size]? = some (.cells #[.int .u32 (s.t : Int), .int .u8 (s.r : Int)] 28)) := by rw [hwl]; exact blk_new rfl
  have HW := Lib.hid hwl
  have AK : Hid (Calls Tryz.prog 43 #[v, .int .u8 (r : Int), .int .u32 (t : Int), .agg #[.int .u32 (s.t : Int), .int .u8 (s.r : Int)]] wl (AskD l r t s wl)) := refAsk_any s (hv.keeps B0.out) hr
  have WH : Hid (askE l r t s = 0 → ∀ (W : World) (y : Value), OpL W y (livesM l l) → Calls Tryz.prog 52 #[y, .agg #[.int .u32 (s.t : Int), .int .u8 (s.r : Int)]] W fun e w' => e = .returned (.int .i64 (whereN (livesM l l) s : Int)) ∧ Below W.heap.size W w') := fun h0 W y h => by
    have hs := (askE_zero.1 h0).2.2
    have hb := (spanE_zero.1 hs)
    have hw : whereM (livesM l l) s = (whereN (livesM l l) s : Int) := by
      have h2 := hb.2
      unfold whereM at h2 ⊢
      split at h2
      · rw [if_pos (by assumption)]
      · omega
    have := refWhere_any s h (by have := (lives_fits hb.1).1; omega)
    rwa [hw] at this
  have BG : Hid (askE l r t s = 0 → ∀ (W : World) (y : Value), OpL W y (livesM l l) → Calls Tryz.prog 54 #[y, .int .i64 (whereN (livesM l l) s : Int)] W fun e w' => ∃ ao cap, e = .returned (.slice ao (beginM (livesM l l) (whereN (livesM l l) s : Int)).length cap) ∧ Runs W (.slice ao (beginM (livesM l l) (whereN (livesM l l) s : Int)).length cap) (beginM (livesM l l) (whereN (livesM l l) s : Int)) ∧ w' = W) := fun h0 W y h => by
    have hs := (askE_zero.1 h0).2.2
    have hb := (spanE_zero.1 hs)
    have hl := (lives_fits hb.1).1
    have hw := (sec_where hs).1
    exact refBegin_any (whereN (livesM l l) s : Int) h (by omega) (by omega)
  have BF : Hid (askE l r t s = 0 → (beginM (livesM l l) (whereN (livesM l l) s : Int)).length ≤ 64) := fun h0 => begin_le64 (lives_fits (spanE_zero.1 (askE_zero.1 h0).2.2).1).2 _
  have LT : Hid (∀ W : World, Calls Tryz.prog 46 #[.int .u32 (t : Int), .int .i64 1] W fun e w' => e = .returned (.bool (decide (1073741824 < t + 1))) ∧ w' = W) := fun W => refLate_any (m := 1) ht (by omega) W
  have HE : Hid (merE l r t s = (if askE l r t s = 0 then if whereN (livesM l l) s = 0 then 130 else if 1073741824 < t + 1 then 50 else 0 else askE l r t s)) := rfl
  have HL : Hid (merL l r t s = if merE l r t s = 0 then [mkO 4 (mk (t + 1) r) (beginM (livesM l l) (whereN (livesM l l) s : Int)) 0] else []) := rfl
  obtain ⟨ao, cap, rfl⟩ := hv.shape
  obtain ⟨n, hn⟩ : ∃ n, l.length = n := ⟨_, rfl⟩
  rw [hn] at AK ⊢
  obtain ⟨ie, hie⟩ : ∃ x, merE l r t s = x := ⟨_, rfl⟩
  rw [hie] at HE HL ⊢
  obtain ⟨il, hil⟩ : ∃ x, merL l r t s = x := ⟨_, rfl⟩
  rw [hil] at HL ⊢
  have AK2 : Hid (Calls Tryz.prog 43 #[.slice ao n cap, .int .u8 (r : Int), .int .u32 (t : Int), .agg #[.int .u32 (s.t : Int), .int .u8 (s.r : Int)]] wl fun e w' => ∃ v', e = .returned (.tuple #[v', .int .i64 (askE l r t s)]) ∧ OpL w' v' (if askE l r t s = 0 then livesM l l else []) ∧ Below wl.heap.size wl w') := AK.out
  obtain ⟨a, ha⟩ : ∃ a, askE l r t s = a := ⟨_, rfl⟩
  rw [ha] at AK2 WH BG BF HE
  obtain ⟨V, hV⟩ : ∃ V, livesM l l = V := ⟨_, rfl⟩
  rw [hV] at AK2 WH BG BF HE HL
  obtain ⟨x, hx⟩ : ∃ x, whereN V s = x := ⟨_, rfl⟩
  rw [hx] at WH BG BF HE HL
  obtain ⟨P, hP⟩ : ∃ P, beginM V (x : Int) = P := ⟨_, rfl⟩
  simp only [hP] at BG
  rw [hP] at BF HL
  clear hv hwl hn AK hie hil ha hV hx hP
  obtain ⟨ts, rs, hts, hrs⟩ := s
  simp only at Y0 HW AK2 WH ⊢
  by_cases ha : a = 0
  rotate_left
  · obtain rfl : ie = a := by rw [HE.out, if_neg ha]
    obtain rfl : il = [] := by rw [HL.out, if_neg ha]
    have t1 : (ie != 0) = true := by simpa using ha
    have t2 : decide (ie = 0) = false := decide_eq_false ha
    clear HE HL WH BG BF LT
    have d0 := cell_of_row _ _ 0 _ _ _ Y0.out
    have d1 := cell_of_row _ _ 1 _ _ _ Y0.out
    go_enter Tryz.func19, Tryz.ntmps19
    go_wp2_with fail
    rw [← HW.out]
    refine AK2.out.mono ?_
    rintro e w1 ⟨v1, rfl, o1, b1⟩
    have B1 := Lib.hid (bt B0.out b1)
    have Y1 := Lib.hid (blk_below b1 Y0.out)
    have O1 := Lib.hid o1
    clear b1 o1 Y0 B0 HW AK2 d0 d1
    clear O1 Y1
    go_wp2
    exact bodyPost_ret (v := .tuple #[.slice none 0 0, .int .i64 ie]) (by simp [results, Tryz.results19, go_sem]) rfl ⟨_, rfl, Seq.nil _ _, B1.out⟩
  subst ha
  rw [if_pos rfl] at AK2 HE
  have WH2 := Lib.hid (WH.out rfl)
  have BG2 := Lib.hid (BG.out rfl)
  have BF2 := Lib.hid (BF.out rfl)
  clear WH BG BF
  by_cases hx0 : x = 0
  · obtain rfl : ie = 130 := by rw [HE.out, if_pos hx0]
    obtain rfl : il = [] := by rw [HL.out, if_neg (by decide)]
    subst hx0
    clear HE HL BG2 BF2 LT
    have d0 := cell_of_row _ _ 0 _ _ _ Y0.out
    have d1 := cell_of_row _ _ 1 _ _ _ Y0.out
    go_enter Tryz.func19, Tryz.ntmps19
    go_wp2_with fail
    rw [← HW.out]
    refine AK2.out.mono ?_
    rintro e w1 ⟨v1, rfl, o1, b1⟩
    have B1 := Lib.hid (bt B0.out b1)
    have Y1 := Lib.hid (blk_below b1 Y0.out)
    have O1 := Lib.hid o1
    clear b1 o1 Y0 B0 HW AK2 d0 d1
    have d0 := cell_of_row _ _ 0 _ _ _ Y1.out
    have d1 := cell_of_row _ _ 1 _ _ _ Y1.out
    go_wp2_with fail
    refine (WH2.out _ _ O1.out).mono ?_
    rintro e w2 ⟨rfl, b2⟩
    have B2 := Lib.hid (bt B1.out b2)
    have O2 := Lib.hid (O1.out.keeps b2)
    clear b2 O1 B1 Y1 WH2 d0 d1
    clear O2
    go_wp2
    exact bodyPost_ret (v := .tuple #[.slice none 0 0, .int .i64 130]) (by simp [results, Tryz.results19, go_sem]) rfl ⟨_, rfl, Seq.nil _ _, B2.out⟩
  have q1 : decide ((x : Int) = 0) = false := decide_eq_false (by omega)
  have q2 : ((x : Int) == 0) = false := by simp; omega
  have q3 : decide (x = 0) = false := decide_eq_false hx0
  rw [if_neg hx0] at HE
  by_cases h3 : 1073741824 < t + 1
  · obtain rfl : ie = 50 := by rw [HE.out, if_pos h3]
    obtain rfl : il = [] := by rw [HL.out, if_neg (by decide)]
    have LT2 : Hid (∀ W : World, Calls Tryz.prog 46 #[.int .u32 (t : Int), .int .i64 1] W fun e w' => e = .returned (.bool true) ∧ w' = W) := fun W => by
      have := LT.out W
      rwa [decide_eq_true h3] at this
    clear HE HL BG2 BF2 LT
    have d0 := cell_of_row _ _ 0 _ _ _ Y0.out
    have d1 := cell_of_row _ _ 1 _ _ _ Y0.out
    go_enter Tryz.func19, Tryz.ntmps19
    go_wp2_with fail
    rw [← HW.out]
    refine AK2.out.mono ?_
    rintro e w1 ⟨v1, rfl, o1, b1⟩
    have B1 := Lib.hid (bt B0.out b1)
    have Y1 := Lib.hid (blk_below b1 Y0.out)
    have O1 := Lib.hid o1
    clear b1 o1 Y0 B0 HW AK2 d0 d1
    have d0 := cell_of_row _ _ 0 _ _ _ Y1.out
    have d1 := cell_of_row _ _ 1 _ _ _ Y1.out
    go_wp2_with fail
    refine (WH2.out _ _ O1.out).mono ?_
    rintro e w2 ⟨rfl, b2⟩
    have B2 := Lib.hid (bt B1.out b2)
    have O2 := Lib.hid (O1.out.keeps b2)
    clear b2 O1 B1 Y1 WH2 d0 d1
    go_wp2_with fail
    refine (LT2.out _).mono ?_
    rintro e w4 ⟨rfl, rfl⟩
    clear LT2
    clear O2
    go_wp2
    exact bodyPost_ret (v := .tuple #[.slice none 0 0, .int .i64 50]) (by simp [results, Tryz.results19, go_sem]) rfl ⟨_, rfl, Seq.nil _ _, B2.out⟩
  obtain rfl : ie = 0 := by rw [HE.out, if_neg h3]
  have LT2 : Hid (∀ W : World, Calls Tryz.prog 46 #[.int .u32 (t : Int), .int .i64 1] W fun e w' => e = .returned (.bool false) ∧ w' = W) := fun W => by
    have := LT.out W
    rwa [decide_eq_false h3] at this
  obtain ⟨T, hTT⟩ : ∃ T, T = t + 1 := ⟨_, rfl⟩
  rw [← hTT, if_pos rfl] at HL
  have e1 : (mk T r).t = T := mk_t (by omega)
  have e2 : (mk T r).r = r := mk_r hr
  have w3 : (t : Int) + 1 = (T : Int) := by omega
  have w4' : IntKind.u32.wrap (T : Int) = (T : Int) := IntWalk.u32_in _ (by omega)
  have HO1 : Hid ((mkO 4 (mk T r) P 0).t = T ∧ (mkO 4 (mk T r) P 0).r = r) := ⟨e1, e2⟩
  have TW : Hid (∀ (W : World) (y : Value), Runs W y P → Calls Tryz.prog 53 #[y] W fun e w' => ∃ v', e = .returned v' ∧ w'.ownsRow W.heap.size 32 3 v' P.length (runs P) ∧ Below W.heap.size W w') := fun W y h => Go.Proofs.YtgjbnbojjgbmcaaGreat.Place.twin_any h (by have := BF2.out; omega)
  clear HE LT BF2 e1 e2 hTT
  have d0 := cell_of_row _ _ 0 _ _ _ Y0.out
  have d1 := cell_of_row _ _ 1 _ _ _ Y0.out
  go_enter Tryz.func19, Tryz.ntmps19
  go_wp2_with fail
  rw [← HW.out]
  refine AK2.out.mono ?_
  rintro e w1 ⟨v1, rfl, o1, b1⟩
  have B1 := Lib.hid (bt B0.out b1)
  have Y1 := Lib.hid (blk_below b1 Y0.out)
  have O1 := Lib.hid o1
  clear b1 o1 Y0 B0 HW AK2 d0 d1
  have d0 := cell_of_row _ _ 0 _ _ _ Y1.out
  have d1 := cell_of_row _ _ 1 _ _ _ Y1.out
  go_wp2_with fail
  refine (WH2.out _ _ O1.out).mono ?_
  rintro e w2 ⟨rfl, b2⟩
  have B2 := Lib.hid (bt B1.out b2)
  have O2 := Lib.hid (O1.out.keeps b2)
  clear b2 O1 B1 Y1 WH2 d0 d1
  go_wp2_with fail
  refine (LT2.out _).mono ?_
  rintro e w4 ⟨rfl, rfl⟩
  clear LT2
  go_wp2_with fail
  refine (BG2.out _ _ O2.out).mono ?_
  rintro e w5 ⟨po, pc, rfl, r5, rfl⟩
  have R5 := Lib.hid r5
  clear r5 BG2 O2
  go_wp2_with fail
  refine (TW.out _ _ R5.out).mono ?_
  rintro e w6 ⟨v6, rfl, o6, b6⟩
  have R6 : Hid (Runs w6 v6 P) := Runs.own o6
  have B6 := Lib.hid (bt B2.out b6)
  clear o6 b6 TW R5 B2
  have OE : Hid (OpL (w6.alloc (.cells #[.int .u8 4, .int .u32 (T : Int), .int .u8 (r : Int), v6, .int .i64 0] 38)) (.slice (some ⟨w6.heap.size, 0, none⟩) 1 1) il) := by
    unfold Hid
    rw [HL.out]
    exact opl_one (o := mkO 4 (mk T r) P 0) rfl (by rw [HO1.out.1]) (by rw [HO1.out.2]) rfl R6.out
  have BE : Hid (Below w.heap.size w (w6.alloc (.cells #[.int .u8 4, .int .u32 (T : Int), .int .u8 (r : Int), v6, .int .i64 0] 38))) := B6.out.alloc B6.out.size _
  obtain ⟨zo, zc, rfl⟩ := R6.out.shape
  clear R6 B6 HL HO1
  go_wp2
  exact bodyPost_ret (v := .tuple #[.slice (some ⟨w6.heap.size, 0, none⟩) 1 1, .int .i64 0]) (by simp [results, Tryz.results19, go_sem]) rfl ⟨_, rfl, OE.out, BE.out⟩
end Go.Proofs.YtgjbnbojjgbmcaaGreat.Edits

namespace Go.Proofs.YtgjbnbojjgbmcaaGreat.Edits
open Go.RowKit Go.WideShapes Stamp Go.Proofs.YtgjbnbojjgbmcaaGreat.Place Ops Codes Bags
attribute [local go_sem ↓] Go.wp_at_zero Go.wp_at_succ
set_option maxRecDepth 100000 in
set_option maxHeartbeats 4000000 in
theorem spoil_any {base top n : Nat} {v : Value} {w : World} (hv : SplO w base top v n) :
    Calls Tryz.prog 20 #[v] w fun e w' => e = .returned (.tuple #[]) ∧ Sand base top w w' := by
  obtain ⟨ao, cap, rfl, hm, -⟩ := id hv
  have HV := Lib.hid hv
  clear hv
  go_enter Tryz.func20, Tryz.ntmps20
  go_wp2
  go_loopw [2, 3] (fun i c wr => ∃ k : Nat, k ≤ n ∧ i = .int .i64 (k : Int) ∧ Hid (SplO wr base top (.slice ao n cap) n) ∧ Hid (Sand base top w wr)) (fun i _ _ => n - (intOf i).toNat)
  case atStart => exact ⟨0, by omega, rfl, HV, Lib.hid (Sand.refl _ _ _)⟩
  case round =>
    obtain ⟨k, hk, rfl, hsp, hsa⟩ := hrel
    by_cases hkn : k < n
    · have q1 : decide (k < n) = true := by simpa using hkn
      have q2 : (0 : Int) ≤ (k : Int) := by omega
      have q3 : (k : Int) < (n : Int) := by omega
      obtain ⟨b, rfl⟩ : ∃ b, ao = some ⟨b, 0, none⟩ := by
        obtain ⟨_, _, h0, _, h3⟩ := hsp
        obtain ⟨rfl, -, -⟩ := Value.slice.inj h0
        rcases h3 with h3 | ⟨b, _, h3, _⟩
        · omega
        · exact ⟨b, h3⟩
      have at1 : ∀ W : World, SplO W base top (.slice (some ⟨b, 0, none⟩) n cap) n → base ≤ b ∧ b < top ∧ (∀ o, W.frozen? ⟨b, o, none⟩ = false) ∧ (∃ y, W.cell? ⟨b, k * 5 + 4, none⟩ = some y) ∧ ∃ so m sc, W.cell? ⟨b, k * 5 + 3, none⟩ = some (.slice so m sc) ∧ m ≤ 9223372036854775807 ∧
          (m = 0 ∨ ∃ g cur, so = some ⟨g, 0, none⟩ ∧ base ≤ g ∧ g < top ∧ g ≠ b ∧ W.heap[g]? = some (.cells cur 32 (0, 0)) ∧ m * 3 ≤ cur.size) := fun W h => by
        obtain ⟨_, _, h0, _, h3⟩ := h
        obtain ⟨rfl, -, -⟩ := Value.slice.inj h0
        rcases h3 with h3 | ⟨b', cb, h3, h4, h5, h6, h7, h8⟩
        · omega
        · cases h3
          obtain ⟨so, m, sc, f1, f2⟩ := h8 k hkn
          refine ⟨h4, h5, fun o => by simp [World.frozen?, h6], ⟨_, (cell_of_row W b (k * 5 + 4) cb _ _ h6).trans (Array.getElem?_eq_getElem (by omega))⟩, so, m, sc, (cell_of_row W b (k * 5 + 3) cb _ _ h6).trans f1, f2⟩
      have AT := Lib.hid at1
      obtain ⟨-, -, -, -, so, m, sc, c1, hm2, -⟩ := at1 _ hsp.out
      have C1 := Lib.hid c1
      clear at1
      obtain ⟨wo, rfl⟩ : ∃ wo : World, wo = wr := ⟨_, rfl⟩
      go_wp2
      go_loopw [3] (fun i wr => ∃ j : Nat, j ≤ m ∧ i = .int .i64 (j : Int) ∧ Hid (SplO wr base top (.slice (some ⟨b, 0, none⟩) n cap) n) ∧ Hid (Sand base top w wr) ∧ Hid (wr.cell? ⟨b, k * 5 + 3, none⟩ = some (.slice so m sc))) (fun i _ => m - (intOf i).toNat)
      case atStart => exact ⟨0, by omega, rfl, hsp, hsa, C1⟩
      case round =>
        clear C1 hsp hsa c1
        obtain ⟨j, hj, rfl, hsp, hsa, hc⟩ := hrel
        obtain ⟨w2, rfl⟩ : ∃ w2 : World, w2 = wr := ⟨_, rfl⟩
        have c1 := hc.out
        by_cases hjm : j < m
        · have p1 : decide (j < m) = true := by simpa using hjm
          have p2 : (0 : Int) ≤ (j : Int) := by omega
          have p3 : (j : Int) < (m : Int) := by omega
          obtain ⟨-, -, -, -, so', m', sc', d1, _, d3⟩ := AT.out w2 hsp.out
          rw [c1] at d1
          obtain ⟨rfl, rfl, rfl⟩ := Value.slice.inj (Option.some.inj d1)
          obtain ⟨g, cur, rfl, g2, g3, g4, g5, g6⟩ : ∃ g cur, so = some ⟨g, 0, none⟩ ∧ base ≤ g ∧ g < top ∧ g ≠ b ∧ w2.heap[g]? = some (.cells cur 32 (0, 0)) ∧ m * 3 ≤ cur.size := by
            rcases d3 with d3 | d3
            · omega
            · exact d3
          have f1 : w2.frozen? ⟨g, j * 3 + 2, none⟩ = false := by simp [World.frozen?, g5]
          have f2 : w2.cell? ⟨g, j * 3 + 2, none⟩ = cur[j * 3 + 2]? := cell_of_row w2 g (j * 3 + 2) cur _ _ g5
          have f3 : cur[j * 3 + 2]? = some cur[j * 3 + 2] := Array.getElem?_eq_getElem (by omega)
          obtain ⟨y4, f4⟩ : ∃ y, w2.cell? ⟨g, j * 3 + 2, none⟩ = some y := ⟨_, f2.trans f3⟩
          have S2 := Lib.hid (hsp.out.setG (g := g) (j := j * 3 + 2) (u := .int .i64 (-7)) (fun b' cap' h => by
            obtain ⟨h1, -, -⟩ := Value.slice.inj h
            cases h1
            exact g4))
          have A2 : Hid (Sand base top w (w2.setCell ⟨g, j * 3 + 2, none⟩ (.int .i64 (-7)))) :=
            hsa.out.trans ⟨(Below.refl _ _).setCell (p := ⟨g, j * 3 + 2, none⟩) g2 _, fun q hq => heap_setCell_other _ _ _ _ (show q ≠ g by omega)⟩
          have C2 : Hid ((w2.setCell ⟨g, j * 3 + 2, none⟩ (.int .i64 (-7))).cell? ⟨b, k * 5 + 3, none⟩ = some (.slice (some ⟨g, 0, none⟩) m sc)) :=
            (World.cell?_of_block (a := ⟨b, k * 5 + 3, none⟩) (heap_setCell_other w2 ⟨g, j * 3 + 2, none⟩ b _ (fun e => g4 e.symm))).trans c1
          clear d1 d3 f2 f3 g5 g6 hsp hsa hc
          go_wp2
          go_roundw
          case rel => exact ⟨j + 1, by omega, by go_num, S2, A2, C2⟩
          case measure => simp [intOf]; omega
        · have p1 : decide (j < m) = false := by simpa using hjm
          have S2 := hsp
          have A2 := hsa
          clear hsp hsa hc
          go_wp2
          go_roundw
          case rel => exact ⟨k + 1, by omega, by go_num, S2, A2⟩
          case measure => simp [intOf]; omega
    · have q1 : decide (k < n) = false := by simpa using hkn
      go_wp2
      go_end0
      exact ⟨rfl, hsa.out⟩
end Go.Proofs.YtgjbnbojjgbmcaaGreat.Edits
