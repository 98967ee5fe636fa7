/- octavo/bag.Add: what it answers. Conditions: the slice's cells are operations, the place's are runs. -/
import Derived.Deep.DrawnRows
import Derived.Deep.RegionHeld3
import Derived.Scope
import Derived.Test.YtdackenaknieaaaGreatPk12
import Derived.Test.YtdackenaknieaaaGreatPk21
import Derived.Test.YtdackenaknieaaaGreatPk20
import Derived.Test.YtdackenaknieaaaGreatPk07
import Derived.Test.YtdackenaknieaaaGreatPk09
import Derived.Test.YtdackenaknieaaaGreatPk02
import Derived.Test.YtdackenaknieaaaGreatPk13
import Derived.Test.YtdackenaknieaaaGreatPk19

namespace Go.Proofs.YtdackenaknieaaaGreat.Bags
open Go.RowKit Go.WideShapes Stamp Go.Proofs.YtdackenaknieaaaGreat.Place Ops Codes
attribute [local go_sem ↓] Go.wp_at_zero Go.wp_at_succ

theorem alloc_bo {wl W : World} (h : Below wl.heap.size wl W) (o : Obj) : Below wl.heap.size wl (W.alloc o) := h.alloc h.size o

set_option maxRecDepth 100000 in
set_option maxHeartbeats 16000000 in
theorem bAdd_any {v u0 : Value} {l : List Opn} {o : Opn} {w : World} (hv : OpL w v l) (hu : Runs w u0 o.pl) :
    Calls Tryz.prog 30 #[v, opv o u0] w (DoneN (addL l o) (addE l o) w) := by
  have CK : Hid (∀ W : World, Below w.heap.size w W → Calls Tryz.prog 55 #[v] W fun e w' => e = .returned (.int .i64 (chkL l)) ∧ Below W.heap.size W w') := fun W h => bCheck_any (hv.keeps h)
  have SR : Hid (Bag l → ∀ W : World, Below w.heap.size w W → Calls Tryz.prog 56 #[v, .agg #[.int .u32 (o.t : Int), .int .u8 (o.r : Int)]] W fun e w' => ∃ k : Nat, e = .returned (.tuple #[.int .i64 (k : Int), .bool (hasO l (idO o))]) ∧ Pos l (idO o) k ∧ Below W.heap.size W w') := fun hb W h => bSearch_any (idO o) (hv.keeps h) (by have := hb.1; omega) hb.2.2
  have TWL : Hid (Bag l → ∀ (WB W : World), WB.heap.size ≤ W.heap.size → Below w.heap.size w W → Calls Tryz.prog 59 #[v] W fun e w' => ∃ G, e = .returned (.slice (some ⟨G, 0, none⟩) l.length l.length) ∧ OwnL w' WB.heap.size (.slice (some ⟨G, 0, none⟩) l.length l.length) l ∧ Below W.heap.size W w') := fun hb WB W h1 h2 => by
    refine (bTwinX_any (hv.keeps h2) (by have := hb.1; omega) (bag_fits hb).2).mono ?_
    rintro e w' ⟨rfl, ho, hb⟩
    exact ⟨_, rfl, ho.base h1, hb⟩
  obtain ⟨uo, uc, rfl⟩ := hu.shape
  obtain ⟨nu, hnu⟩ : ∃ n, n = o.pl.length := ⟨_, rfl⟩
  have OC : Hid (∀ W : World, Below w.heap.size w W → Calls Tryz.prog 47 #[opv o (.slice uo o.pl.length uc)] W fun e w' => e = .returned (.int .i64 (chkO o)) ∧ Below W.heap.size W w') := fun W h => oCheck_any (hu.keeps h)
  have TWO : Hid (mayO o = true → ∀ (WB W : World), WB.heap.size ≤ W.heap.size → Below w.heap.size w W → Calls Tryz.prog 57 #[opv o (.slice uo o.pl.length uc)] W fun e w' => ∃ ao cap, e = .returned (opv o (.slice ao o.pl.length cap)) ∧ w'.ownsRow WB.heap.size 49 3 (.slice ao o.pl.length cap) o.pl.length (runs o.pl) ∧ Below W.heap.size W w') := fun hm WB W h1 h2 => by
    refine (oTwin_any (hu.keeps h2) (by have := mayO_fits hm; omega)).mono ?_
    rintro e w' ⟨v', rfl, ho, hb⟩
    obtain ⟨ao', cap', rfl⟩ : ∃ ao cap, v' = .slice ao o.pl.length cap := Sees.shape (Sees.own ho)
    exact ⟨ao', cap', rfl, op_base ho h1, hb⟩
  obtain ⟨ao, cap, rfl⟩ := hv.shape
  obtain ⟨n, hn⟩ : ∃ n, n = l.length := ⟨_, rfl⟩
  have HN := Lib.hid hn
  have INS : Hid (Bag l → ∀ (WB W9 X : World) (G V k : Nat) (a : Option Addr) (c : Nat), OwnL W9 WB.heap.size (.slice (some ⟨G, 0, none⟩) n n) l → Below W9.heap.size W9 X → X.heap[V]? = some (.cells #[.int .u8 (o.k : Int), .int .u32 (o.t : Int), .int .u8 (o.r : Int), .slice a o.pl.length c, .int .i64 o.p] 31) →
      X.ownsRow WB.heap.size 49 3 (.slice a o.pl.length c) o.pl.length (runs o.pl) → WB.heap.size ≤ X.heap.size → Pos l (idO o) k → hasO l (idO o) = false →
      Calls Tryz.prog 60 #[.slice (some ⟨G, 0, none⟩) n n, .int .i64 (k : Int), .slice (some ⟨V, 0, none⟩) 1 1] X fun e w' => ∃ v', e = .returned v' ∧ OwnL w' WB.heap.size v' (withO l o) ∧ Below WB.heap.size X w') := fun hb WB W9 X G V k a c h1 h2 h3 h4 h5 h6 h7 => by
    rw [pos_with h6 h7]
    exact bIns_any (h1.keeps h2) (by rw [hn]; exact h6.1) (by rw [hn]; exact hb.1) h3 h4 h5
  rw [← hn] at CK SR TWL ⊢
  rw [← hnu] at OC TWO INS ⊢
  have HO : Hid (∀ v : Value, opv o v = .agg #[.int .u8 (o.k : Int), .int .u32 (o.t : Int), .int .u8 (o.r : Int), v, .int .i64 o.p]) := fun v => rfl
  have AB : Hid (¬ (Bag l ∧ mayO o = true) → addL l o = [] ∧ addE l o = 8) := fun h => by
    have e : addE l o = 8 := by unfold addE; rw [if_pos (by rw [bagB_iff]; exact h)]
    exact ⟨by unfold addL; rw [e]; rfl, e⟩
  have AT : Hid (Bag l → mayO o = true → hasO l (idO o) = true → addL l o = l ∧ addE l o = 0) := fun h1 h2 h3 => by
    have e : addE l o = 0 := by unfold addE; rw [if_neg (by rw [bagB_iff]; exact fun h => h ⟨h1, h2⟩), if_neg (by rw [withO_len, if_pos h3]; have := h1.1; omega)]
    exact ⟨by unfold addL withO; rw [e, if_pos rfl, if_pos h3], e⟩
  have AF : Hid (Bag l → mayO o = true → hasO l (idO o) = false → n = 1024 → addL l o = [] ∧ addE l o = 9) := fun h1 h2 h3 h4 => by
    have e : addE l o = 9 := by unfold addE; rw [if_neg (by rw [bagB_iff]; exact fun h => h ⟨h1, h2⟩), if_pos (by rw [withO_len, if_neg (by rw [h3]; decide)]; omega)]
    exact ⟨by unfold addL; rw [e]; rfl, e⟩
  have AW : Hid (Bag l → mayO o = true → hasO l (idO o) = false → n ≠ 1024 → addL l o = withO l o ∧ addE l o = 0) := fun h1 h2 h3 h4 => by
    have e : addE l o = 0 := by unfold addE; rw [if_neg (by rw [bagB_iff]; exact fun h => h ⟨h1, h2⟩), if_neg (by rw [withO_len, if_neg (by rw [h3]; decide)]; have := h1.1; omega)]
    exact ⟨by unfold addL; rw [e, if_pos rfl], e⟩
  obtain ⟨RL, hRL⟩ : ∃ z, addL l o = z := ⟨_, rfl⟩
  obtain ⟨RE, hRE⟩ : ∃ z, addE l o = z := ⟨_, rfl⟩
  obtain ⟨RW, hRW⟩ : ∃ z, withO l o = z := ⟨_, rfl⟩
  rw [hRL, hRE] at AB AT AF AW ⊢
  rw [hRW] at AW INS
  obtain ⟨P, hP⟩ : ∃ P : Nat → Prop, P = Pos l (idO o) := ⟨_, rfl⟩
  have hPk : ∀ k, Pos l (idO o) k = P k := fun k => by rw [hP]
  simp only [hPk] at SR INS
  obtain ⟨q, hq⟩ : ∃ q, hasO l (idO o) = q := ⟨_, rfl⟩
  rw [hq] at SR INS AT AF AW
  unfold chkO at OC
  obtain ⟨my, hmy⟩ : ∃ b, mayO o = b := ⟨_, rfl⟩
  rw [hmy] at OC TWO AB AT AF AW
  clear hRL hRE hRW hP hPk hq hmy hv hu
  obtain ⟨L, hL⟩ : ∃ L, L = runs o.pl := ⟨_, rfl⟩
  rw [← hL] at TWO INS
  clear hnu hL
  obtain ⟨k0, hk0⟩ : ∃ z, o.k = z := ⟨_, rfl⟩
  obtain ⟨t0, ht0⟩ : ∃ z, o.t = z := ⟨_, rfl⟩
  obtain ⟨r0, hr0⟩ : ∃ z, o.r = z := ⟨_, rfl⟩
  obtain ⟨p0, hp0⟩ : ∃ z, o.p = z := ⟨_, rfl⟩
  rw [hk0, ht0, hr0, hp0] at HO INS
  rw [ht0, hr0] at SR
  simp only [HO.out] at OC TWO ⊢
  have BL : Hid (Below w.heap.size w (w.alloc (.cells #[.int .u8 (k0 : Int), .int .u32 (t0 : Int), .int .u8 (r0 : Int), .slice uo nu uc, .int .i64 p0] 31))) := (Below.refl _ _).alloc (Nat.le_refl _) _
  have CE : Hid (∀ W : World, Below (w.alloc (.cells #[.int .u8 (k0 : Int), .int .u32 (t0 : Int), .int .u8 (r0 : Int), .slice uo nu uc, .int .i64 p0] 31)).heap.size (w.alloc (.cells #[.int .u8 (k0 : Int), .int .u32 (t0 : Int), .int .u8 (r0 : Int), .slice uo nu uc, .int .i64 p0] 31)) W → W.cell? ⟨w.heap.size, 0, none⟩ = some (.int .u8 (k0 : Int)) ∧ W.cell? ⟨w.heap.size, 1, none⟩ = some (.int .u32 (t0 : Int)) ∧ W.cell? ⟨w.heap.size, 2, none⟩ = some (.int .u8 (r0 : Int)) ∧ W.cell? ⟨w.heap.size, 3, none⟩ = some (.slice uo nu uc) ∧ W.cell? ⟨w.heap.size, 4, none⟩ = some (.int .i64 p0)) := fun W h => five_cells h
  clear hn hk0 ht0 hr0 hp0 HO
  by_cases hbag : Bag l
  rotate_left
  · rw [chkL_no hbag] at CK
    obtain ⟨rfl, rfl⟩ := AB.out (fun h => hbag h.1)
    clear AB AT AF AW INS TWO TWL OC SR CE
    go_enter Tryz.func30, Tryz.ntmps30
    go_wp2_with fail
    refine (CK.out _ BL.out).mono ?_
    rintro e w1 ⟨rfl, b1⟩
    have B1 := Lib.hid (bt BL.out b1)
    clear b1
    go_wp2
    go_ret2
    exact ⟨_, rfl, OwnL.nil _ _, B1.out⟩
  rw [chkL_yes hbag] at CK
  cases my
  · obtain ⟨rfl, rfl⟩ := AB.out (fun h => by cases h.2)
    rw [if_neg (by simp)] at OC
    clear AB AT AF AW INS TWO TWL SR
    go_enter Tryz.func30, Tryz.ntmps30
    go_wp2_with fail
    refine (CK.out _ BL.out).mono ?_
    rintro e w1 ⟨rfl, b1⟩
    have B1 := Lib.hid (bt BL.out b1)
    obtain ⟨g0, g1, g2, g3, g4⟩ := CE.out _ b1
    clear b1 CE
    go_wp2_with fail
    refine (OC.out _ B1.out).mono ?_
    rintro e w2 ⟨rfl, b2⟩
    have B2 := Lib.hid (bt B1.out b2)
    clear b2
    go_wp2
    go_ret2
    exact ⟨_, rfl, OwnL.nil _ _, B2.out⟩
  rw [if_pos rfl] at OC
  have SR2 := Lib.hid (SR.out hbag)
  have TL2 := Lib.hid (TWL.out hbag)
  have TO2 := Lib.hid (TWO.out rfl)
  have IN2 := Lib.hid (INS.out hbag)
  have AT2 := Lib.hid (AT.out hbag rfl)
  have AF2 := Lib.hid (AF.out hbag rfl)
  have AW2 := Lib.hid (AW.out hbag rfl)
  have hnm : n ≤ 1024 := by rw [HN.out]; exact hbag.1
  clear AB AT AF AW INS TWO TWL SR hbag
  go_enter Tryz.func30, Tryz.ntmps30
  go_wp2_with fail
  refine (CK.out _ BL.out).mono ?_
  rintro e w1 ⟨rfl, b1⟩
  have B1 := Lib.hid (bt BL.out b1)
  have K1 := Lib.hid b1
  obtain ⟨g0, g1, g2, g3, g4⟩ := CE.out _ b1
  clear b1 CK
  go_wp2_with fail
  refine (OC.out _ B1.out).mono ?_
  rintro e w2 ⟨rfl, b2⟩
  have B2 := Lib.hid (bt B1.out b2)
  have K2 := Lib.hid (bt K1.out b2)
  clear b2 g0 g1 g2 g3 g4 OC K1
  obtain ⟨g0, g1, g2, g3, g4⟩ := CE.out _ K2.out
  go_wp2_with fail
  refine (SR2.out _ B2.out).mono ?_
  rintro e w3 ⟨k, rfl, hk, b3⟩
  have B3 := Lib.hid (bt B2.out b3)
  have K3 := Lib.hid (bt K2.out b3)
  have HK := Lib.hid hk
  clear b3 hk g0 g1 g2 g3 g4 SR2 K2 B2 B1
  cases q
  rotate_left
  · obtain ⟨rfl, rfl⟩ := AT2.out rfl
    clear AF2 AW2 IN2 TO2 CE K3
    go_wp2_with fail
    refine (TL2.out w w3 B3.out.size B3.out).mono ?_
    rintro e w4 ⟨G4, rfl, o4, b4⟩
    have B4 := Lib.hid (bt B3.out b4)
    have O4 := Lib.hid o4
    clear o4 b4
    go_wp2
    go_ret2
    exact ⟨_, rfl, O4.out, B4.out⟩
  by_cases hfull : n = 1024
  · have d1 : decide (n = 1024) = true := decide_eq_true hfull
    have d2 : ((n : Int) == 1024) = true := by simp; omega
    obtain ⟨rfl, rfl⟩ := AF2.out rfl hfull
    clear AT2 AW2 IN2 TO2 TL2 CE K3
    go_wp2
    go_ret2
    exact ⟨_, rfl, OwnL.nil _ _, B3.out⟩
  have d1 : decide (n = 1024) = false := decide_eq_false hfull
  have d2 : ((n : Int) == 1024) = false := by simp; omega
  obtain ⟨rfl, rfl⟩ := AW2.out rfl hfull
  have SK : Hid (∀ w' : World, Below w3.heap.size w3 w' → Below w3.heap.size w3 w' ∧ w'.cell? ⟨w.heap.size, 0, none⟩ = some (.int .u8 (k0 : Int)) ∧ w'.cell? ⟨w.heap.size, 1, none⟩ = some (.int .u32 (t0 : Int)) ∧ w'.cell? ⟨w.heap.size, 2, none⟩ = some (.int .u8 (r0 : Int)) ∧ w'.cell? ⟨w.heap.size, 3, none⟩ = some (.slice uo nu uc) ∧ w'.cell? ⟨w.heap.size, 4, none⟩ = some (.int .i64 p0)) := fun W h => ⟨h, CE.out W (bt K3.out h)⟩
  have TL3 : Hid (∀ W : World, Below w3.heap.size w3 W → Calls Tryz.prog 59 #[.slice ao n cap] W fun e w' => ∃ G, e = .returned (.slice (some ⟨G, 0, none⟩) n n) ∧ OwnL w' w3.heap.size (.slice (some ⟨G, 0, none⟩) n n) l ∧ Below w3.heap.size w3 w') := fun W h => by
    refine (TL2.out w3 W h.size (bt B3.out h)).mono ?_
    rintro e w' ⟨G, rfl, ho, hb⟩
    exact ⟨G, rfl, ho, bt h hb⟩
  have TO3 : Hid (∀ W : World, Below w3.heap.size w3 W → Calls Tryz.prog 57 #[.agg #[.int .u8 (k0 : Int), .int .u32 (t0 : Int), .int .u8 (r0 : Int), .slice uo nu uc, .int .i64 p0]] W fun e w' => ∃ ao cap, e = .returned (.agg #[.int .u8 (k0 : Int), .int .u32 (t0 : Int), .int .u8 (r0 : Int), .slice ao nu cap, .int .i64 p0]) ∧ w'.ownsRow w3.heap.size 49 3 (.slice ao nu cap) nu L ∧ Below w3.heap.size w3 w' ∧ Below W.heap.size W w') := fun W h => by
    refine (TO2.out w3 W h.size (bt B3.out h)).mono ?_
    rintro e w' ⟨ao, cap, rfl, ho, hb⟩
    exact ⟨ao, cap, rfl, ho, bt h hb, hb⟩
  have IN3 : Hid (∀ (W9 w10 : World) (G : Nat) (a : Option Addr) (c : Nat), OwnL W9 w3.heap.size (.slice (some ⟨G, 0, none⟩) n n) l → Below W9.heap.size W9 w10 → w10.ownsRow w3.heap.size 49 3 (.slice a nu c) nu L → Below w3.heap.size w3 w10 →
      Calls Tryz.prog 60 #[.slice (some ⟨G, 0, none⟩) n n, .int .i64 (k : Int), .slice (some ⟨w10.heap.size, 0, none⟩) 1 1] (w10.alloc (.cells #[.int .u8 (k0 : Int), .int .u32 (t0 : Int), .int .u8 (r0 : Int), .slice a nu c, .int .i64 p0] 31)) fun e w' => ∃ v', e = .returned v' ∧ OwnL w' w3.heap.size v' RL ∧ Below w3.heap.size w3 w') := fun W9 w10 G a c h1 h2 h3 h4 => by
    have bA : Below w10.heap.size w10 (w10.alloc (.cells #[.int .u8 (k0 : Int), .int .u32 (t0 : Int), .int .u8 (r0 : Int), .slice a nu c, .int .i64 p0] 31)) := (Below.refl _ _).alloc (Nat.le_refl _) _
    refine (IN2.out w3 W9 _ G w10.heap.size k a c h1 (bt h2 bA) (blk_new rfl) (own_stays h3 bA) (bt h4 bA).size HK.out rfl).mono ?_
    rintro e w' ⟨v', rfl, ho, hb⟩
    exact ⟨v', rfl, ho, (bt h4 bA).trans hb⟩
  clear AT2 AF2 AW2 IN2 TO2 TL2 CE K3
  go_wp2
  go_region_held3 (fun w' => Below w3.heap.size w3 w' ∧ w'.cell? ⟨w.heap.size, 0, none⟩ = some (.int .u8 (k0 : Int)) ∧ w'.cell? ⟨w.heap.size, 1, none⟩ = some (.int .u32 (t0 : Int)) ∧ w'.cell? ⟨w.heap.size, 2, none⟩ = some (.int .u8 (r0 : Int)) ∧ w'.cell? ⟨w.heap.size, 3, none⟩ = some (.slice uo nu uc) ∧ w'.cell? ⟨w.heap.size, 4, none⟩ = some (.int .i64 p0))
    (first | exact SK.out _ (drew1 _) | (go_split_ands; refine SK.out _ ?_; repeat' (first | assumption | (with_reducible refine Below.drew ?_) | (with_reducible refine below_draw ?_ _) | (with_reducible refine alloc_bo ?_ _) | fail)))
    ((first
      | (go_at_call 59; (with_reducible refine (TL3.out _ ?hw).mono ?_)
         case hw => go_split_ands; repeat' (first | assumption | (with_reducible refine Below.drew ?_) | (with_reducible refine below_draw ?_ _) | (with_reducible refine alloc_bo ?_ _) | fail)
         rintro e w9 ⟨G9, rfl, o9, b9⟩)
      | (go_at_call 57; (with_reducible refine (TO3.out _ ?hw).mono ?_)
         case hw => go_split_ands; repeat' (first | assumption | (with_reducible refine Below.drew ?_) | (with_reducible refine below_draw ?_ _) | (with_reducible refine alloc_bo ?_ _) | fail)
         rintro e w10 ⟨a10, c10, rfl, o10, b10, k10⟩)
      | (go_at_call 60; (with_reducible refine (IN3.out w9 w10 G9 a10 c10 o9 ?h1 o10 b10).mono ?_)
         case h1 => repeat' (first | assumption | (with_reducible refine Below.drew ?_) | (with_reducible refine below_draw ?_ _) | fail)
         rintro e w11 ⟨v11, rfl, o11, b11⟩)))
  have O11 : Hid (OwnL w11 w.heap.size v11 RL) := OwnL.base o11 B3.out.size
  have B11 := Lib.hid (bt B3.out b11)
  clear o11 b11 o10 b10 k10 o9 b9
  go_wp2
  go_ret2
  exact ⟨_, rfl, O11.out, B11.out⟩
end Go.Proofs.YtdackenaknieaaaGreat.Bags

/- octavo/bag.joined: what it answers. Conditions: the slices' cells are operations, not more than two thousand in all. -/
namespace Go.Proofs.YtdackenaknieaaaGreat.Bags
open Go.RowKit Go.WideShapes Stamp Go.Proofs.YtdackenaknieaaaGreat.Place Ops Codes
attribute [local go_sem ↓] Go.wp_at_zero Go.wp_at_succ
attribute [local go_sem] yielded_undef

end Go.Proofs.YtdackenaknieaaaGreat.Bags

/- octavo/bag.Join: what it answers. Conditions: the slices' cells are operations. -/
namespace Go.Proofs.YtdackenaknieaaaGreat.Bags
open Go.RowKit Go.WideShapes Stamp Go.Proofs.YtdackenaknieaaaGreat.Place Ops Codes
attribute [local go_sem ↓] Go.wp_at_zero Go.wp_at_succ

end Go.Proofs.YtdackenaknieaaaGreat.Bags

/- octavo/clock: Has, Same, Count, Top with the library's ContainsFunc, IndexFunc, EqualFunc: what each answers. Conditions: the slices' cells are replicas' spans. -/
namespace Go.Proofs.YtdackenaknieaaaGreat.Clocks
open Go.RowKit Go.Proofs.YtdackenaknieaaaGreat.Spans
attribute [local go_sem ↓] Go.wp_at_zero Go.wp_at_succ

/-! ### Has -/
def hit (a : Id) (x : Tm) : Bool := decide (x.1 = a.r) && has x.2 a.t
theorem hits_is (a : Id) : ∀ {c : List Tm} {lo : Nat}, Up lo c → c.any (hit a) = inB (spn c a.r) a.t
  | [], _, _ => rfl
  | x :: c, lo, h => by
    have h2 : Up (x.1 + 1) c := by
      unfold Up at h
      exact h.2.2.2.2
    have hm := (up_all h x (by simp)).2.2.2
    rw [List.any_cons, spn_cons]
    unfold hit
    by_cases e : x.1 = a.r
    · rw [if_pos e, decide_eq_true e, Bool.true_and]
      have hno : c.any (hit a) = false := by
        rw [List.any_eq_false]
        intro y hy
        have := (up_all h2 y hy).1
        unfold hit
        rw [decide_eq_false (by omega)]
        simp
      unfold hit at hno
      rw [hno, Bool.or_false]
      unfold has
      rw [hm, Bool.true_and]
    · rw [if_neg e, decide_eq_false e, Bool.false_and, Bool.false_or]
      exact hits_is a h2

set_option maxHeartbeats 2000000 in
theorem cHasOne_any (x : Tm) (u : Value) (a : Id) (B : Nat) {w : World} (hu : Sps w u x.2) (hc : w.cell? ⟨B, 0, none⟩ = some (.int .u32 (a.t : Int)) ∧ w.cell? ⟨B, 1, none⟩ = some (.int .u8 (a.r : Int))) (hB : B < w.heap.size) :
    Calls Tryz.prog 37 #[.agg #[.int .u8 (x.1 : Int), u], .pointer (some ⟨B, 0, none⟩)] w fun e w' => e = .returned (.bool (hit a x)) ∧ Below w.heap.size w w' := by
  obtain ⟨xr, xs⟩ := x
  obtain ⟨t, r, ht, hr⟩ := a
  simp only at hu hc
  unfold hit
  simp only
  have BX := Lib.hid (fun o : Obj => (Below.refl w.heap.size w).alloc (Nat.le_refl _) o)
  have c0 : Hid (∀ o : Obj, (w.alloc o).cell? ⟨B, 0, none⟩ = some (.int .u32 (t : Int)) ∧ (w.alloc o).cell? ⟨B, 1, none⟩ = some (.int .u8 (r : Int))) := fun o => ⟨((BX.out o).cell (p := ⟨B, 0, none⟩) hB).trans hc.1, ((BX.out o).cell (p := ⟨B, 1, none⟩) hB).trans hc.2⟩
  have HP : Hid (∀ o : Obj, Calls Tryz.prog 38 #[u, .int .u32 (t : Int)] (w.alloc o) fun e w' => e = .returned (.bool (has xs t)) ∧ Below (w.alloc o).heap.size (w.alloc o) w') := fun o => pHas_any t (hu.keeps (BX.out o))
  obtain ⟨so, sc, rfl⟩ := hu.shape
  obtain ⟨d0, d1⟩ := c0.out (.cells #[.int .u8 (xr : Int), .slice so xs.length sc] 72)
  obtain ⟨sl, hsl⟩ : ∃ sl, sl = xs.length := ⟨_, rfl⟩
  rw [← hsl] at d0 d1 HP ⊢
  obtain ⟨b, hb⟩ : ∃ b, has xs t = b := ⟨_, rfl⟩
  rw [hb] at HP ⊢
  clear hu hc c0 hsl hb
  by_cases h1 : xr = r
  · subst h1
    have s1 : ((xr : Int) == (xr : Int)) = true := by simp
    rw [decide_eq_true rfl, Bool.true_and]
    go_enter Tryz.func37, Tryz.ntmps37
    go_wp2_with fail
    refine (HP.out _).mono ?_
    rintro e w1 ⟨rfl, b1⟩
    have B1 := Lib.hid (bt (BX.out _) b1)
    clear b1
    go_wp2
    go_ret
    exact ⟨rfl, B1.out⟩
  · have s1 : ((xr : Int) == (r : Int)) = false := by simp; omega
    have s2 : decide (xr = r) = false := decide_eq_false h1
    rw [s2, Bool.false_and]
    go_enter Tryz.func37, Tryz.ntmps37
    go_wp2
    go_ret
    exact ⟨rfl, BX.out _⟩

theorem any_snoc (p : Tm → Bool) (c : List Tm) (k : Nat) (h : k < c.length) : (c.take (k + 1)).any p = ((c.take k).any p || p (c.getD k ztm)) := by
  rw [tm_take_snoc c k h, List.any_append]
  simp
set_option maxRecDepth 100000 in
set_option maxHeartbeats 2000000 in
theorem cIdx_any {v : Value} {c : List Tm} (a : Id) (B : Nat) {w : World} (hv : Tms w v c) (hc : w.cell? ⟨B, 0, none⟩ = some (.int .u32 (a.t : Int)) ∧ w.cell? ⟨B, 1, none⟩ = some (.int .u8 (a.r : Int))) (hB : B < w.heap.size) :
    Calls Tryz.prog 69 #[v, .func (.func 37) #[] #[.pointer (some ⟨B, 0, none⟩)]] w fun e w' => (∃ q : Int, e = .returned (.int .i64 q) ∧ decide (0 ≤ q) = c.any (hit a)) ∧ Below w.heap.size w w' := by
  obtain ⟨ao, cap, rfl⟩ := hv.shape
  obtain ⟨n, hn⟩ : ∃ n, n = c.length := ⟨_, rfl⟩
  have hm : n ≤ 9223372036854775807 := by rw [hn]; exact Tms.max hv
  have HV := Lib.hid hv
  have HN := Lib.hid hn
  have HC := Lib.hid hc
  obtain ⟨b0, hb0⟩ : ∃ b, c.any (hit a) = b := ⟨_, rfl⟩
  have HB0 := Lib.hid hb0
  rw [← hn, hb0]
  have B0 := Lib.hid (Below.refl w.heap.size w)
  clear hv hn hb0 hc
  have eg := enters_of Tryz.func37 (by kernel_rfl) rfl
  go_enter Tryz.func69, Tryz.ntmps69
  go_wp2
  go_loopw [8] (fun i wr => ∃ k : Nat, k ≤ n ∧ i = .int .i64 (k : Int) ∧ Hid ((c.take k).any (hit a) = false) ∧ Hid (Below w.heap.size w wr)) (fun i _ => n - (intOf i).toNat)
  case atStart => exact ⟨0, by omega, rfl, Lib.hid rfl, B0⟩
  case round =>
    obtain ⟨k, hk, rfl, hno, hbel⟩ := hrel
    by_cases hkn : k < n
    · have q1 : decide (k < n) = true := by simpa using hkn
      have q2 : (0 : Int) ≤ (k : Int) := by omega
      have q3 : (k : Int) < (n : Int) := by omega
      have hkl : k < c.length := by rw [← HN.out]; exact hkn
      obtain ⟨b1, o1, u, rfl, hb1, ha0, ha1, -, hsp⟩ := (HV.out.keeps hbel.out).at k hkl
      have hsn := any_snoc (hit a) c k hkl
      rw [hno.out, Bool.false_or] at hsn
      have hall : hit a (c.getD k ztm) = true → b0 = true := fun h => by
        rw [← HB0.out, List.any_eq_true]
        exact ⟨_, tm_mem hkl, h⟩
      obtain ⟨x, hx⟩ : ∃ x, x = c.getD k ztm := ⟨_, rfl⟩
      have hx' : c.getD k (0, []) = x := hx.symm
      rw [hx'] at ha0 hsp
      rw [← hx] at hsn hall
      have C := Lib.hid (cHasOne_any x u a B (w := wr) hsp ⟨(hbel.out.cell (p := ⟨B, 0, none⟩) hB).trans HC.out.1, (hbel.out.cell (p := ⟨B, 1, none⟩) hB).trans HC.out.2⟩ (Nat.lt_of_lt_of_le hB hbel.out.size))
      obtain ⟨q, hq⟩ : ∃ q, hit a x = q := ⟨_, rfl⟩
      rw [hq] at C hsn hall
      have HIn := Lib.hid hall
      have HSn := Lib.hid hsn
      obtain ⟨so, sc, rfl⟩ := hsp.shape
      obtain ⟨xr, xs⟩ := x
      simp only at ha0 ha1 C
      obtain ⟨sl, hsl⟩ : ∃ sl, sl = xs.length := ⟨_, rfl⟩
      rw [← hsl] at ha1 C
      clear hx hx' hsn hall hq hsp hsl
      cases q
      · go_wp2_with fail
        refine C.out.mono ?_
        rintro e w1 ⟨rfl, b1⟩
        have B1 := Lib.hid (bt hbel.out b1)
        clear b1
        go_wp2
        go_roundw
        case rel => exact ⟨k + 1, by omega, by go_num, HSn, B1⟩
        case measure => simp [intOf]; omega
      · obtain rfl : b0 = true := HIn.out rfl
        go_wp2_with fail
        refine C.out.mono ?_
        rintro e w1 ⟨rfl, b1⟩
        have B1 := Lib.hid (bt hbel.out b1)
        clear b1
        go_wp2
        go_ret
        exact ⟨⟨_, rfl, decide_eq_true q2⟩, B1.out⟩
    · have q1 : decide (k < n) = false := by simpa using hkn
      have hkk : c.take k = c := List.take_of_length_le (by have := HN.out; omega)
      have hf : b0 = false := by rw [← HB0.out, ← hkk]; exact hno.out
      subst hf
      clear hkk
      go_wp2
      go_ret
      exact ⟨⟨_, rfl, rfl⟩, hbel.out⟩
theorem cContains_any {v : Value} {c : List Tm} (a : Id) (B : Nat) {w : World} (hv : Tms w v c) (hc : w.cell? ⟨B, 0, none⟩ = some (.int .u32 (a.t : Int)) ∧ w.cell? ⟨B, 1, none⟩ = some (.int .u8 (a.r : Int))) (hB : B < w.heap.size) :
    Calls Tryz.prog 36 #[v, .func (.func 37) #[] #[.pointer (some ⟨B, 0, none⟩)]] w fun e w' => e = .returned (.bool (c.any (hit a))) ∧ Below w.heap.size w w' := by
  have C := Lib.hid (cIdx_any a B hv hc hB)
  obtain ⟨b0, hb0⟩ : ∃ b, c.any (hit a) = b := ⟨_, rfl⟩
  rw [hb0] at C ⊢
  clear hv hc hb0
  go_enter Tryz.func36, Tryz.ntmps36
  go_wp2_with fail
  refine C.out.mono ?_
  rintro e w1 ⟨⟨q, rfl, hq⟩, b1⟩
  go_wp2
  go_ret
  exact ⟨rfl, b1⟩
set_option maxRecDepth 100000 in
set_option maxHeartbeats 2000000 in
theorem cHas_any {v : Value} {c : List Tm} (a : Id) {w : World} (hv : Tms w v c) :
    Calls Tryz.prog 15 #[v, .agg #[.int .u32 (a.t : Int), .int .u8 (a.r : Int)]] w fun e w' => e = .returned (.bool (hasC c a)) ∧ Below w.heap.size w w' := by
  have X0 := Lib.hid ((Below.refl w.heap.size w).alloc (Nat.le_refl _) (.cells #[.int .u32 (a.t : Int), .int .u8 (a.r : Int)] 28))
  have C0 := Lib.hid (two_blk (heap_alloc_new w (.cells #[.int .u32 (a.t : Int), .int .u8 (a.r : Int)] 28)))
  have M := Lib.hid (cCheck_any (hv.keeps X0.out))
  have HV := Lib.hid hv
  unfold hasC
  unfold chkC at M
  cases hb : mayC c
  · rw [hb, if_neg (by simp)] at M
    rw [Bool.false_and]
    clear hb hv
    go_enter Tryz.func15, Tryz.ntmps15
    go_wp2_with fail
    refine M.out.mono ?_
    rintro e w1 ⟨rfl, b1⟩
    have B1 := Lib.hid (bt X0.out b1)
    clear b1
    go_wp2
    go_ret
    exact ⟨rfl, B1.out⟩
  · rw [hb, if_pos rfl] at M
    rw [Bool.true_and, ← hits_is a ((mayC_iff c).1 hb)]
    obtain ⟨b0, hb0⟩ : ∃ b, c.any (hit a) = b := ⟨_, rfl⟩
    have HB0 := Lib.hid hb0
    rw [hb0]
    clear hb hv hb0
    go_enter Tryz.func15, Tryz.ntmps15
    go_wp2_with fail
    refine M.out.mono ?_
    rintro e w1 ⟨rfl, b1⟩
    have B1 := Lib.hid (bt X0.out b1)
    have K := cContains_any a w.heap.size (w := w1) ((HV.out.keeps X0.out).keeps b1) ⟨(b1.cell (p := ⟨w.heap.size, 0, none⟩) (by simp)).trans C0.out.1, (b1.cell (p := ⟨w.heap.size, 1, none⟩) (by simp)).trans C0.out.2⟩ (by have := b1.size; simp at this; omega)
    rw [HB0.out] at K
    have K := Lib.hid K
    clear b1
    go_wp2_with fail
    refine K.out.mono ?_
    rintro e w2 ⟨rfl, b2⟩
    have B2 := Lib.hid (bt B1.out b2)
    clear b2
    go_wp2
    go_ret
    exact ⟨rfl, B2.out⟩

/-! ### Same -/
end Go.Proofs.YtdackenaknieaaaGreat.Clocks

/- octavo/bag.Less: what it answers. Conditions: the slices' cells are operations, and replicas' spans. -/
namespace Go.Proofs.YtdackenaknieaaaGreat.Bags
open Go.RowKit Go.WideShapes Stamp Go.Proofs.YtdackenaknieaaaGreat.Place Ops Codes
attribute [local go_sem ↓] Go.wp_at_zero Go.wp_at_succ

end Go.Proofs.YtdackenaknieaaaGreat.Bags

/- octavo/bag.Find: what it answers. Conditions: the slice's cells are operations. -/
namespace Go.Proofs.YtdackenaknieaaaGreat.Bags
open Go.RowKit Go.WideShapes Stamp Go.Proofs.YtdackenaknieaaaGreat.Place Ops Codes
attribute [local go_sem ↓] Go.wp_at_zero Go.wp_at_succ

theorem pos_has {l : List Opn} {a : Id} {k : Nat} (hp : l.Pairwise lessO) (h : Pos l a k) (hh : hasO l a = true) : ∃ hk : k < l.length, idO (l[k]'hk) = a := by
  by_cases hx : ∃ hk : k < l.length, idO (l[k]'hk) = a
  · exact hx
  · have := pos_none hp h (fun hk e => hx ⟨hk, e⟩)
    rw [hh] at this; cases this

set_option maxRecDepth 100000 in
set_option maxHeartbeats 8000000 in
theorem bFind_any {v : Value} {l : List Opn} (a : Id) {w : World} (hv : OpL w v l) :
    Calls Tryz.prog 28 #[v, .agg #[.int .u32 (a.t : Int), .int .u8 (a.r : Int)]] w (FoundN (findL l a) w) := by
  have CK : Hid (∀ W : World, Below w.heap.size w W → Calls Tryz.prog 55 #[v] W fun e w' => e = .returned (.int .i64 (chkL l)) ∧ Below W.heap.size W w') := fun W h => bCheck_any (hv.keeps h)
  have SR : Hid (Bag l → ∀ W : World, Below w.heap.size w W → Calls Tryz.prog 56 #[v, .agg #[.int .u32 (a.t : Int), .int .u8 (a.r : Int)]] W fun e w' => ∃ k : Nat, e = .returned (.tuple #[.int .i64 (k : Int), .bool (hasO l a)]) ∧ Pos l a k ∧ Below W.heap.size W w') := fun hb W h => bSearch_any a (hv.keeps h) (by have := hb.1; omega) hb.2.2
  obtain ⟨ao, cap, rfl⟩ := hv.shape
  obtain ⟨n, hn⟩ : ∃ n, n = l.length := ⟨_, rfl⟩
  have HV : Hid (∀ W : World, Below w.heap.size w W → OpL W (.slice ao l.length cap) l) := fun W h => hv.keeps h
  have HN := Lib.hid hn
  rw [← hn] at CK SR ⊢
  obtain ⟨R, hR⟩ : ∃ z, findL l a = z := ⟨_, rfl⟩
  have HR := Lib.hid hR
  obtain ⟨P, hP⟩ : ∃ P : Nat → Prop, P = Pos l a := ⟨_, rfl⟩
  have hPk : ∀ k, Pos l a k = P k := fun k => by rw [hP]
  have HF0 : Hid (¬ Bag l → R = none) := fun h => by rw [← hR]; unfold findL; rw [bagB_no h]; rfl
  have HF1 : Hid (Bag l → hasO l a = false → R = none) := fun h h2 => by
    rw [← hR]; unfold findL; rw [(bagB_iff l).2 h, if_pos rfl]
    unfold hasO at h2; cases hf : findO l a with
    | none => rfl
    | some x => rw [hf] at h2; cases h2
  have HF2 : Hid (Bag l → hasO l a = true → ∀ k, P k → ∃ hk : k < l.length, R = some (l[k]'hk)) := fun h h2 k hp => by
    rw [← hPk] at hp
    obtain ⟨hk, he⟩ := pos_has h.2.2 hp h2
    refine ⟨hk, ?_⟩
    rw [← hR]; unfold findL; rw [(bagB_iff l).2 h, if_pos rfl]
    exact pos_find h.2.2 hp hk he
  have HPL : Hid (Bag l → ∀ k (hk : k < l.length), (l[k]'hk).pl.length ≤ 8796093022208) := fun h k hk => (bag_fits h).2 _ (List.getElem_mem hk)
  simp only [hPk] at SR
  rw [hR]
  obtain ⟨q, hq⟩ : ∃ q, hasO l a = q := ⟨_, rfl⟩
  rw [hq] at SR HF1 HF2
  obtain ⟨ta, hta⟩ : ∃ z, a.t = z := ⟨_, rfl⟩
  obtain ⟨ra, hra⟩ : ∃ z, a.r = z := ⟨_, rfl⟩
  rw [hta, hra] at SR ⊢
  have BL : Hid (Below w.heap.size w ((w.alloc (.cells #[.int .u32 (ta : Int), .int .u8 (ra : Int)] 28)).alloc (.cells #[.int .u8 0, .int .u32 0, .int .u8 0, .slice none 0 0, .int .i64 0] 31))) := ((Below.refl _ _).alloc (Nat.le_refl _) _).alloc (by simp) _
  have XO : Hid (((w.alloc (.cells #[.int .u32 (ta : Int), .int .u8 (ra : Int)] 28)).alloc (.cells #[.int .u8 0, .int .u32 0, .int .u8 0, .slice none 0 0, .int .i64 0] 31)).heap[w.heap.size + 1]? = some (.cells #[.int .u8 0, .int .u32 0, .int .u8 0, .slice none 0 0, .int .i64 0] 31)) := blk_new (by simp)
  have XI : Hid (((w.alloc (.cells #[.int .u32 (ta : Int), .int .u8 (ra : Int)] 28)).alloc (.cells #[.int .u8 0, .int .u32 0, .int .u8 0, .slice none 0 0, .int .i64 0] 31)).heap[w.heap.size]? = some (.cells #[.int .u32 (ta : Int), .int .u8 (ra : Int)] 28)) := blk_old (blk_new rfl)
  have SZ : Hid (∀ W : World, Below ((w.alloc (.cells #[.int .u32 (ta : Int), .int .u8 (ra : Int)] 28)).alloc (.cells #[.int .u8 0, .int .u32 0, .int .u8 0, .slice none 0 0, .int .i64 0] 31)).heap.size ((w.alloc (.cells #[.int .u32 (ta : Int), .int .u8 (ra : Int)] 28)).alloc (.cells #[.int .u8 0, .int .u32 0, .int .u8 0, .slice none 0 0, .int .i64 0] 31)) W → w.heap.size + 2 ≤ W.heap.size) := fun W h => by have := h.size; simpa using this
  clear hv hR hq hP hPk hta hra hn
  by_cases hbag : Bag l
  rotate_left
  · rw [chkL_no hbag] at CK
    obtain rfl := HF0.out hbag
    clear HF0 HF1 HF2 SR HPL hbag
    go_enter Tryz.func28, Tryz.ntmps28
    go_wp2_with fail
    refine (CK.out _ BL.out).mono ?_
    rintro e w1 ⟨rfl, b1⟩
    have B1 := Lib.hid (bt BL.out b1)
    have X1 := Lib.hid (blk_below b1 XO.out)
    clear b1 BL XO XI CK
    obtain ⟨x0, x1, x2, x3, x4⟩ := cells5 X1.out
    have f0 : ∀ o, w1.frozen? ⟨w.heap.size + 1, o, none⟩ = false := fun o => free5 X1.out o
    go_wp2_with fail
    obtain ⟨WF, hWF⟩ : ∃ WF, WF = put5 w1 (w.heap.size + 1) (.int .u8 0) (.int .u32 0) (.int .u8 0) (.slice none 0 0) (.int .i64 0) := ⟨_, rfl⟩
    have HF := put5_same (.int .u8 0) (.int .u32 0) (.int .u8 0) (.slice none 0 0) (.int .i64 0) X1.out
    have BF := put5_below (.int .u8 0) (.int .u32 0) (.int .u8 0) (.slice none 0 0) (.int .i64 0) (show w.heap.size ≤ w.heap.size + 1 by omega) B1.out
    rw [← hWF] at HF BF
    unfold put5 at hWF
    rw [← hWF]
    obtain ⟨e0, e1, e2, e3, e4⟩ := cells5 HF
    exact bodyPost_ret (v := .tuple #[.agg #[.int .u8 0, .int .u32 0, .int .u8 0, .slice none 0 0, .int .i64 0], .bool false]) (by simp [results, Tryz.results28, go_sem, e0, e1, e2, e3, e4]) rfl ⟨.slice none 0 0, rfl, World.ownsRow_nil _ _ _ _, BF⟩
  rw [chkL_yes hbag] at CK
  have SR2 := Lib.hid (SR.out hbag)
  have HF3 := Lib.hid (HF1.out hbag)
  have HF4 := Lib.hid (HF2.out hbag)
  have HPL2 := Lib.hid (HPL.out hbag)
  clear HF0 HF1 HF2 SR HPL hbag
  go_enter Tryz.func28, Tryz.ntmps28
  go_wp2_with fail
  refine (CK.out _ BL.out).mono ?_
  rintro e w1 ⟨rfl, b1⟩
  have B1 := Lib.hid (bt BL.out b1)
  have X1 := Lib.hid (blk_below b1 XO.out)
  have I1 := Lib.hid (blk_below b1 XI.out)
  have S1 := Lib.hid (SZ.out _ b1)
  clear b1 BL XO XI CK SZ
  obtain ⟨z0, z1⟩ : w1.cell? ⟨w.heap.size, 0, none⟩ = some (.int .u32 (ta : Int)) ∧ w1.cell? ⟨w.heap.size, 1, none⟩ = some (.int .u8 (ra : Int)) := ⟨cell_of_row _ _ 0 _ _ _ I1.out, cell_of_row _ _ 1 _ _ _ I1.out⟩
  go_wp2_with fail
  refine (SR2.out _ B1.out).mono ?_
  rintro e w2 ⟨kk, rfl, hk, b2⟩
  have B2 := Lib.hid (bt B1.out b2)
  have X2 := Lib.hid (blk_below b2 X1.out)
  have HK := Lib.hid hk
  have S2 : Hid (w.heap.size + 2 ≤ w2.heap.size) := Nat.le_trans S1.out b2.size
  clear b2 hk B1 X1 I1 z0 z1 SR2 S1
  cases q
  · obtain rfl := HF3.out rfl
    clear HF3 HF4 HPL2
    obtain ⟨x0, x1, x2, x3, x4⟩ := cells5 X2.out
    have f0 : ∀ o, w2.frozen? ⟨w.heap.size + 1, o, none⟩ = false := fun o => free5 X2.out o
    go_wp2_with fail
    obtain ⟨WF, hWF⟩ : ∃ WF, WF = put5 w2 (w.heap.size + 1) (.int .u8 0) (.int .u32 0) (.int .u8 0) (.slice none 0 0) (.int .i64 0) := ⟨_, rfl⟩
    have HF := put5_same (.int .u8 0) (.int .u32 0) (.int .u8 0) (.slice none 0 0) (.int .i64 0) X2.out
    have BF := put5_below (.int .u8 0) (.int .u32 0) (.int .u8 0) (.slice none 0 0) (.int .i64 0) (show w.heap.size ≤ w.heap.size + 1 by omega) B2.out
    rw [← hWF] at HF BF
    unfold put5 at hWF
    rw [← hWF]
    obtain ⟨e0, e1, e2, e3, e4⟩ := cells5 HF
    exact bodyPost_ret (v := .tuple #[.agg #[.int .u8 0, .int .u32 0, .int .u8 0, .slice none 0 0, .int .i64 0], .bool false]) (by simp [results, Tryz.results28, go_sem, e0, e1, e2, e3, e4]) rfl ⟨.slice none 0 0, rfl, World.ownsRow_nil _ _ _ _, BF⟩
  obtain ⟨hkl, hRx⟩ := HF4.out rfl kk HK.out
  have HRX := Lib.hid hRx
  have hpx := HPL2.out kk hkl
  have q4 : (0 : Int) ≤ (kk : Int) := by omega
  have q5 : (kk : Int) < (n : Int) := by have := HN.out; omega
  obtain ⟨bb, oo, u, e, hbb, hru, h0, h1, h2, h3, h4⟩ := opl_at (HV.out w2 B2.out) kk hkl
  subst e
  obtain ⟨x, hx⟩ : ∃ x, x = l[kk]'hkl := ⟨_, rfl⟩
  rw [← hx] at hru h0 h1 h2 h4
  have HO : Hid (∀ v : Value, opv x v = .agg #[.int .u8 (x.k : Int), .int .u32 (x.t : Int), .int .u8 (x.r : Int), v, .int .i64 x.p]) := fun v => rfl
  obtain ⟨uo, uc, rfl⟩ := hru.shape
  obtain ⟨nu, hnu⟩ : ∃ n, n = x.pl.length := ⟨_, rfl⟩
  have HNU := Lib.hid hnu
  rw [← hnu] at hru h3
  clear hnu
  rw [← hx] at hRx hpx
  have HRX := Lib.hid hRx
  have TW : Hid (Calls Tryz.prog 57 #[opv x (.slice uo nu uc)] w2 fun e w' => ∃ ao cap, e = .returned (opv x (.slice ao nu cap)) ∧ w'.ownsRow (w.heap.size + 2) 49 3 (.slice ao nu cap) x.pl.length (runs x.pl) ∧ Below w2.heap.size w2 w') := by
    refine (oTwin_any hru hpx).mono ?_
    rintro e w' ⟨v', rfl, ho, hb⟩
    obtain ⟨ao', cap', rfl⟩ : ∃ ao cap, v' = .slice ao x.pl.length cap := Sees.shape (Sees.own ho)
    rw [← HNU.out] at ho ⊢
    exact ⟨ao', cap', rfl, op_base ho S2.out, hb⟩
  clear hx hru hpx hRx HF3 HF4 HPL2
  obtain ⟨k, hk⟩ : ∃ z, x.k = z := ⟨_, rfl⟩
  obtain ⟨t, ht⟩ : ∃ z, x.t = z := ⟨_, rfl⟩
  obtain ⟨r, hr⟩ : ∃ z, x.r = z := ⟨_, rfl⟩
  obtain ⟨p, hp⟩ : ∃ z, x.p = z := ⟨_, rfl⟩
  rw [hk, ht, hr, hp] at HO
  rw [hk] at h0
  rw [ht] at h1
  rw [hr] at h2
  rw [hp] at h4
  simp only [HO.out] at TW
  clear hk ht hr hp
  go_wp2_with fail
  refine TW.out.mono ?_
  rintro e w5 ⟨a5, c5, rfl, o5, b5⟩
  have B5 := Lib.hid (bt B2.out b5)
  have X5 := Lib.hid (blk_below b5 X2.out)
  have O5 := Lib.hid o5
  clear o5 b5 h0 h1 h2 h3 h4 TW
  obtain ⟨x0, x1, x2, x3, x4⟩ := cells5 X5.out
  have f0 : ∀ o, w5.frozen? ⟨w.heap.size + 1, o, none⟩ = false := fun o => free5 X5.out o
  go_wp2_with fail
  obtain ⟨WF, hWF⟩ : ∃ WF, WF = put5 w5 (w.heap.size + 1) (.int .u8 (k : Int)) (.int .u32 (t : Int)) (.int .u8 (r : Int)) (.slice a5 nu c5) (.int .i64 p) := ⟨_, rfl⟩
  have HF := put5_same (.int .u8 (k : Int)) (.int .u32 (t : Int)) (.int .u8 (r : Int)) (.slice a5 nu c5) (.int .i64 p) X5.out
  have BF := put5_below (.int .u8 (k : Int)) (.int .u32 (t : Int)) (.int .u8 (r : Int)) (.slice a5 nu c5) (.int .i64 p) (show w.heap.size ≤ w.heap.size + 1 by omega) B5.out
  have OW := put5_own (.int .u8 (k : Int)) (.int .u32 (t : Int)) (.int .u8 (r : Int)) (.slice a5 nu c5) (.int .i64 p) O5.out (show w.heap.size + 1 < w.heap.size + 2 by omega)
  rw [← hWF] at HF BF OW
  unfold put5 at hWF
  rw [← hWF]
  obtain ⟨e0, e1, e2, e3, e4⟩ := cells5 HF
  refine bodyPost_ret (v := .tuple #[.agg #[.int .u8 (k : Int), .int .u32 (t : Int), .int .u8 (r : Int), .slice a5 nu c5, .int .i64 p], .bool true]) (by simp [results, Tryz.results28, go_sem, e0, e1, e2, e3, e4]) rfl ⟨.slice a5 nu c5, ?_, ?_, BF⟩
  · rw [HRX.out]
    show _ = Ending.returned (.tuple #[opv x _, .bool true])
    rw [HO.out]
  · rw [HRX.out]
    show World.ownsRow _ _ _ _ _ x.pl.length (runs x.pl)
    exact op_base OW (by omega)
end Go.Proofs.YtdackenaknieaaaGreat.Bags

/- octavo/bag: what each call answers (bCheck_any, bSame_any, bTwin_any, bIds_any, bAdd_any, bJoin_any, bLess_any, bFind_any): gathered. Conditions: none. -/


/- octavolaw11.one, put, alive: what each answers. Conditions: the slices' cells are operations. -/
namespace Go.Proofs.YtdackenaknieaaaGreat.Bags
open Go.RowKit Go.WideShapes Stamp Go.Proofs.YtdackenaknieaaaGreat.Place Ops Codes
attribute [local go_sem ↓] Go.wp_at_zero Go.wp_at_succ
attribute [local go_sem] yielded_undef

/-- A mark's operation. -/
def oneO (t r : Nat) (h : t < 4294967296 ∧ r < 256) : Opn := ⟨2, t, r, [⟨t, r, 1, h.1, h.2, by decide⟩], 0, by decide, h.1, h.2, by decide⟩
def o30 : Opn := oneO 3 0 (by decide)
def o11 : Opn := oneO 1 1 (by decide)
theorem seq_lit {w : World} {cs : List Value} {l : List Opn} (n : Nat) (hn : n = l.length) (hl : n ≤ 1000) (h : opE.rows w cs l) : OpL (w.alloc (.cells cs.toArray 31)) (.slice (some ⟨w.heap.size, 0, none⟩) n n) l := by
  subst hn
  refine ⟨cs, sees_new w cs 5 l.length (Enc.rows_len h) (by omega) 31 (0, 0), Enc.rows_keep ((Below.refl _ _).alloc (Nat.le_refl _) _) h⟩

theorem rows_one {w : World} {g3 : Nat} (h3 : Runs w (.slice (some ⟨g3, 0, none⟩) 1 1) o30.pl) :
    opE.rows w [.int .u8 2, .int .u32 3, .int .u8 0, .slice (some ⟨g3, 0, none⟩) 1 1, .int .i64 0] [o30] := ⟨[.int .u8 2, .int .u32 3, .int .u8 0, .slice (some ⟨g3, 0, none⟩) 1 1, .int .i64 0], [], rfl, ⟨_, rfl, h3⟩, rfl⟩
end Go.Proofs.YtdackenaknieaaaGreat.Bags

/- octavolaw14.a, b, m, counts, alive: what each answers. Conditions: none. -/
namespace Go.Proofs.YtdackenaknieaaaGreat.Covers
open Go.RowKit Go.WideShapes Stamp Go.Proofs.YtdackenaknieaaaGreat.Place Ops Codes Bags Marks Homes
attribute [local go_sem ↓] Go.wp_at_zero Go.wp_at_succ
attribute [local go_sem] yielded_undef

def oa : Opn := ⟨1, 1, 0, [⟨1, 0, 1, by decide, by decide, by decide⟩], 65, by decide, by decide, by decide, by decide⟩
def ob : Opn := ⟨1, 2, 0, [⟨1, 0, 2, by decide, by decide, by decide⟩], 66, by decide, by decide, by decide, by decide⟩
def om : Opn := ⟨2, 5, 0, [⟨1, 0, 1, by decide, by decide, by decide⟩, ⟨5, 0, 1, by decide, by decide, by decide⟩], 0, by decide, by decide, by decide, by decide⟩
set_option maxRecDepth 100000 in
theorem fa14_any (w : World) : Calls Tryz.prog 8 #[] w fun e w' => ∃ g, e = .returned (.agg #[.int .u8 1, .int .u32 1, .int .u8 0, .slice (some ⟨g, 0, none⟩) 1 1, .int .i64 65]) ∧ Runs w' (.slice (some ⟨g, 0, none⟩) 1 1) oa.pl ∧ Below w.heap.size w w' := by
  go_enter Tryz.func8, Tryz.ntmps8
  go_wp2_with fail
  refine bodyPost_ret (v := .agg #[.int .u8 1, .int .u32 1, .int .u8 0, .slice (some ⟨w.heap.size + 1, 0, none⟩) 1 1, .int .i64 65]) (by simp [results, Tryz.results8, go_sem]) rfl ⟨w.heap.size + 1, rfl, ?_, ((Below.refl _ _).alloc (Nat.le_refl _) _).alloc (by simp) _⟩
  have h := runs_new (w.alloc (.cells #[.int .u8 1, .int .u32 1, .int .u8 0, .slice (some ⟨w.heap.size + 1, 0, none⟩) 1 1, .int .i64 65] 31)) oa.pl 1 rfl (by decide) 49 (0, 0)
  rw [show (w.alloc (.cells #[.int .u8 1, .int .u32 1, .int .u8 0, .slice (some ⟨w.heap.size + 1, 0, none⟩) 1 1, .int .i64 65] 31)).heap.size = w.heap.size + 1 by simp] at h
  exact h
set_option maxRecDepth 100000 in
theorem fb14_any (w : World) : Calls Tryz.prog 9 #[] w fun e w' => ∃ g, e = .returned (.agg #[.int .u8 1, .int .u32 2, .int .u8 0, .slice (some ⟨g, 0, none⟩) 1 1, .int .i64 66]) ∧ Runs w' (.slice (some ⟨g, 0, none⟩) 1 1) ob.pl ∧ Below w.heap.size w w' := by
  go_enter Tryz.func9, Tryz.ntmps9
  go_wp2_with fail
  refine bodyPost_ret (v := .agg #[.int .u8 1, .int .u32 2, .int .u8 0, .slice (some ⟨w.heap.size + 1, 0, none⟩) 1 1, .int .i64 66]) (by simp [results, Tryz.results9, go_sem]) rfl ⟨w.heap.size + 1, rfl, ?_, ((Below.refl _ _).alloc (Nat.le_refl _) _).alloc (by simp) _⟩
  have h := runs_new (w.alloc (.cells #[.int .u8 1, .int .u32 2, .int .u8 0, .slice (some ⟨w.heap.size + 1, 0, none⟩) 1 1, .int .i64 66] 31)) ob.pl 1 rfl (by decide) 49 (0, 0)
  rw [show (w.alloc (.cells #[.int .u8 1, .int .u32 2, .int .u8 0, .slice (some ⟨w.heap.size + 1, 0, none⟩) 1 1, .int .i64 66] 31)).heap.size = w.heap.size + 1 by simp] at h
  exact h
set_option maxRecDepth 100000 in
theorem fm14_any (w : World) : Calls Tryz.prog 13 #[] w fun e w' => ∃ g, e = .returned (.agg #[.int .u8 2, .int .u32 5, .int .u8 0, .slice (some ⟨g, 0, none⟩) 2 2, .int .i64 0]) ∧ Runs w' (.slice (some ⟨g, 0, none⟩) 2 2) om.pl ∧ Below w.heap.size w w' := by
  go_enter Tryz.func13, Tryz.ntmps13
  go_wp2_with fail
  refine bodyPost_ret (v := .agg #[.int .u8 2, .int .u32 5, .int .u8 0, .slice (some ⟨w.heap.size + 1, 0, none⟩) 2 2, .int .i64 0]) (by simp [results, Tryz.results13, go_sem]) rfl ⟨w.heap.size + 1, rfl, ?_, ((Below.refl _ _).alloc (Nat.le_refl _) _).alloc (by simp) _⟩
  have h := runs_new (w.alloc (.cells #[.int .u8 2, .int .u32 5, .int .u8 0, .slice (some ⟨w.heap.size + 1, 0, none⟩) 2 2, .int .i64 0] 31)) om.pl 2 rfl (by decide) 49 (0, 0)
  rw [show (w.alloc (.cells #[.int .u8 2, .int .u32 5, .int .u8 0, .slice (some ⟨w.heap.size + 1, 0, none⟩) 2 2, .int .i64 0] 31)).heap.size = w.heap.size + 1 by simp] at h
  exact h
theorem rows_ab {w : World} {g0 g1 : Nat} (h0 : Runs w (.slice (some ⟨g0, 0, none⟩) 1 1) oa.pl) (h1 : Runs w (.slice (some ⟨g1, 0, none⟩) 1 1) ob.pl) : opE.rows w [.int .u8 1, .int .u32 1, .int .u8 0, .slice (some ⟨g0, 0, none⟩) 1 1, .int .i64 65, .int .u8 1, .int .u32 2, .int .u8 0, .slice (some ⟨g1, 0, none⟩) 1 1, .int .i64 66] [oa, ob] := ⟨[.int .u8 1, .int .u32 1, .int .u8 0, .slice (some ⟨g0, 0, none⟩) 1 1, .int .i64 65], [.int .u8 1, .int .u32 2, .int .u8 0, .slice (some ⟨g1, 0, none⟩) 1 1, .int .i64 66], rfl, ⟨_, rfl, h0⟩, ⟨[.int .u8 1, .int .u32 2, .int .u8 0, .slice (some ⟨g1, 0, none⟩) 1 1, .int .i64 66], [], rfl, ⟨_, rfl, h1⟩, rfl⟩⟩
theorem rows_ba {w : World} {g0 g1 : Nat} (h0 : Runs w (.slice (some ⟨g0, 0, none⟩) 1 1) ob.pl) (h1 : Runs w (.slice (some ⟨g1, 0, none⟩) 1 1) oa.pl) : opE.rows w [.int .u8 1, .int .u32 2, .int .u8 0, .slice (some ⟨g0, 0, none⟩) 1 1, .int .i64 66, .int .u8 1, .int .u32 1, .int .u8 0, .slice (some ⟨g1, 0, none⟩) 1 1, .int .i64 65] [ob, oa] := ⟨[.int .u8 1, .int .u32 2, .int .u8 0, .slice (some ⟨g0, 0, none⟩) 1 1, .int .i64 66], [.int .u8 1, .int .u32 1, .int .u8 0, .slice (some ⟨g1, 0, none⟩) 1 1, .int .i64 65], rfl, ⟨_, rfl, h0⟩, ⟨[.int .u8 1, .int .u32 1, .int .u8 0, .slice (some ⟨g1, 0, none⟩) 1 1, .int .i64 65], [], rfl, ⟨_, rfl, h1⟩, rfl⟩⟩
theorem rows_a {w : World} {g0 : Nat} (h0 : Runs w (.slice (some ⟨g0, 0, none⟩) 1 1) oa.pl) : opE.rows w [.int .u8 1, .int .u32 1, .int .u8 0, .slice (some ⟨g0, 0, none⟩) 1 1, .int .i64 65] [oa] := ⟨[.int .u8 1, .int .u32 1, .int .u8 0, .slice (some ⟨g0, 0, none⟩) 1 1, .int .i64 65], [], rfl, ⟨_, rfl, h0⟩, rfl⟩
theorem rows_b {w : World} {g0 : Nat} (h0 : Runs w (.slice (some ⟨g0, 0, none⟩) 1 1) ob.pl) : opE.rows w [.int .u8 1, .int .u32 2, .int .u8 0, .slice (some ⟨g0, 0, none⟩) 1 1, .int .i64 66] [ob] := ⟨[.int .u8 1, .int .u32 2, .int .u8 0, .slice (some ⟨g0, 0, none⟩) 1 1, .int .i64 66], [], rfl, ⟨_, rfl, h0⟩, rfl⟩
theorem rows_bm {w : World} {g0 g1 : Nat} (h0 : Runs w (.slice (some ⟨g0, 0, none⟩) 1 1) ob.pl) (h1 : Runs w (.slice (some ⟨g1, 0, none⟩) 2 2) om.pl) : opE.rows w [.int .u8 1, .int .u32 2, .int .u8 0, .slice (some ⟨g0, 0, none⟩) 1 1, .int .i64 66, .int .u8 2, .int .u32 5, .int .u8 0, .slice (some ⟨g1, 0, none⟩) 2 2, .int .i64 0] [ob, om] := ⟨[.int .u8 1, .int .u32 2, .int .u8 0, .slice (some ⟨g0, 0, none⟩) 1 1, .int .i64 66], [.int .u8 2, .int .u32 5, .int .u8 0, .slice (some ⟨g1, 0, none⟩) 2 2, .int .i64 0], rfl, ⟨_, rfl, h0⟩, ⟨[.int .u8 2, .int .u32 5, .int .u8 0, .slice (some ⟨g1, 0, none⟩) 2 2, .int .i64 0], [], rfl, ⟨_, rfl, h1⟩, rfl⟩⟩
theorem rows_am {w : World} {g0 g1 : Nat} (h0 : Runs w (.slice (some ⟨g0, 0, none⟩) 1 1) oa.pl) (h1 : Runs w (.slice (some ⟨g1, 0, none⟩) 2 2) om.pl) : opE.rows w [.int .u8 1, .int .u32 1, .int .u8 0, .slice (some ⟨g0, 0, none⟩) 1 1, .int .i64 65, .int .u8 2, .int .u32 5, .int .u8 0, .slice (some ⟨g1, 0, none⟩) 2 2, .int .i64 0] [oa, om] := ⟨[.int .u8 1, .int .u32 1, .int .u8 0, .slice (some ⟨g0, 0, none⟩) 1 1, .int .i64 65], [.int .u8 2, .int .u32 5, .int .u8 0, .slice (some ⟨g1, 0, none⟩) 2 2, .int .i64 0], rfl, ⟨_, rfl, h0⟩, ⟨[.int .u8 2, .int .u32 5, .int .u8 0, .slice (some ⟨g1, 0, none⟩) 2 2, .int .i64 0], [], rfl, ⟨_, rfl, h1⟩, rfl⟩⟩

set_option maxRecDepth 100000 in
set_option maxHeartbeats 4000000 in
theorem counts14_any (s : Id) {v u : Value} {l want : List Opn} {w : World} (hv : OpL w v l) (hu : OpL w u want) (hC : countsL l s = want) (hE : spanE l s = 0) :
    Calls Tryz.prog 12 #[.agg #[.int .u32 (s.t : Int), .int .u8 (s.r : Int)], v, u] w fun e w' => e = .returned (.bool true) ∧ Below w.heap.size w w' := by
  obtain ⟨wl, hwl⟩ : ∃ x, x = w.alloc (.cells #[.int .u32 (s.t : Int), .int .u8 (s.r : Int)] 28) := ⟨_, rfl⟩
  have B0 : Hid (Below w.heap.size w wl) := by rw [hwl]; exact (Below.refl _ _).alloc (Nat.le_refl _) _
  have Y0 : Hid (wl.heap[w.heap.size]? = some (.cells #[.int .u32 (s.t : Int), .int .u8 (s.r : Int)] 28)) := by rw [hwl]; exact blk_new rfl
  have HW := Lib.hid hwl
  have CC : Hid (Calls Tryz.prog 10 #[v, .agg #[.int .u32 (s.t : Int), .int .u8 (s.r : Int)]] wl (DoneN want 0 wl)) := by
    have := cCounts_any s (hv.keeps B0.out)
    rwa [hC, hE] at this
  have SL : Hid (∀ (W : World) (y : Value), OpL W y want → Below w.heap.size w W → Calls Tryz.prog 22 #[y, u] W fun e w' => e = .returned (.bool true) ∧ Below W.heap.size W w') := fun W y h h2 => by
    have := sameL_any h (hu.keeps h2)
    rwa [decide_eq_true rfl] at this
  clear hv hu hC hE hwl
  obtain ⟨ts, rs, hts, hrs⟩ := s
  simp only at Y0 HW CC ⊢
  have d0 := cell_of_row _ _ 0 _ _ _ Y0.out
  have d1 := cell_of_row _ _ 1 _ _ _ Y0.out
  go_enter Tryz.func12, Tryz.ntmps12
  go_wp2_with fail
  rw [← HW.out]
  refine CC.out.mono ?_
  rintro e w1 ⟨v1, rfl, o1, b1⟩
  have O1 := Lib.hid o1.opl
  have B1 := Lib.hid (bt B0.out b1)
  clear b1 o1 Y0 B0 HW CC d0 d1
  go_wp2_with fail
  refine (SL.out _ _ O1.out B1.out).mono ?_
  rintro e w2 ⟨rfl, b2⟩
  have B2 := Lib.hid (bt B1.out b2)
  clear b2 B1 O1 SL
  go_wp2
  go_ret
  exact ⟨rfl, B2.out⟩

def n50 : Id := ⟨5, 0, by decide, by decide⟩
def n20 : Id := ⟨2, 0, by decide, by decide⟩
theorem cv_ab : countsL [oa, ob] zid = [oa, ob] ∧ spanE [oa, ob] zid = 0 := by decide +kernel
theorem cv_b : countsL [ob] zid = [] ∧ homedL [ob] zid = [ob] ∧ spanE [ob] zid = 0 := by decide +kernel
theorem cv_bm : countsL [ob, om] n50 = [ob] ∧ spanE [ob, om] n50 = 0 := by decide +kernel
theorem cv_am : countsL [oa, om] zid = [oa] ∧ spanE [oa, om] zid = 0 := by decide +kernel
theorem cv_ab5 : countsL [oa, ob] n50 = [] ∧ spanE [oa, ob] n50 = 130 := by decide +kernel
theorem cv_ba : countsL [ob, oa] zid = [] ∧ spanE [ob, oa] zid = 8 := by decide +kernel
theorem cv_v : Clocks.countC (versionL [oa, ob] zid) = 2 ∧ Clocks.hasC (versionL [oa, ob] zid) n20 = true := by
  have hb := (spanE_zero.1 cv_ab.2).1
  have hm := count_may hb (livesM [oa, ob] [oa, ob]) zid
  have hc : countL [oa, ob] (livesM [oa, ob] [oa, ob]) zid = [oa, ob] := by
    have := cv_ab.1
    unfold countsL at this
    rwa [if_pos cv_ab.2] at this
  have hv : versionL [oa, ob] zid = Clocks.among ([oa, ob].map idO) := by
    unfold versionL
    rw [if_pos cv_ab.2, hc]
  rw [hc] at hm
  rw [hv]
  refine ⟨?_, ?_⟩
  · unfold Clocks.countC
    rw [if_pos ((Clocks.mayC_iff _).2 (Clocks.among_ok _ hm.1 hm.2.1).1), among_cnt _ hm.1 hm.2.1 hm.2.2]
    rfl
  · rw [among_has hm.1 hm.2.1]
    decide +kernel

set_option maxRecDepth 100000 in
set_option maxHeartbeats 8000000 in
theorem alive14_any (w : World) : Calls Tryz.prog 11 #[] w fun e w' => e = .returned (.bool true) ∧ Below w.heap.size w w' := by
  have SL : Hid (∀ (W : World) (u v : Value) (l : List Opn), OpL W u l → OpL W v l → Calls Tryz.prog 22 #[u, v] W fun e w' => e = .returned (.bool true) ∧ Below W.heap.size W w') := fun W u v l h h2 => by
    have := sameL_any h h2
    rwa [decide_eq_true rfl] at this
  have C1 : Hid (∀ (W : World) (u v : Value), OpL W u [oa, ob] → OpL W v [oa, ob] → Calls Tryz.prog 12 #[.agg #[.int .u32 0, .int .u8 0], u, v] W fun e w' => e = .returned (.bool true) ∧ Below W.heap.size W w') := fun W u v h h2 => counts14_any zid h h2 cv_ab.1 cv_ab.2
  have C2 : Hid (∀ (W : World) (u v : Value), OpL W u [ob] → OpL W v [] → Calls Tryz.prog 12 #[.agg #[.int .u32 0, .int .u8 0], u, v] W fun e w' => e = .returned (.bool true) ∧ Below W.heap.size W w') := fun W u v h h2 => counts14_any zid h h2 cv_b.1 cv_b.2.2
  have HH : Hid (∀ (W : World) (v : Value), OpL W v [ob] → Calls Tryz.prog 18 #[v, .agg #[.int .u32 0, .int .u8 0]] W (DoneN [ob] 0 W)) := fun W v h => by
    have := cHomed_any zid h
    rw [cv_b.2.1, cv_b.2.2] at this
    exact this
  have B_0 : Hid (Below w.heap.size w w) := Below.refl _ _
  go_enter Tryz.func11, Tryz.ntmps11
  go_wp2_with fail
  refine (fb14_any _).mono ?_
  rintro e w1 ⟨g1, rfl, r1, b1⟩
  have B_1 := Lib.hid (bt B_0.out b1)
  clear B_0
  have P_2 := Lib.hid (r1)
  clear b1 r1
  have bo := (Below.refl w1.heap.size w1).alloc (Nat.le_refl _) (.cells [.int .u8 1, .int .u32 2, .int .u8 0, .slice (some ⟨g1, 0, none⟩) 1 1, .int .i64 66].toArray 31)
  have sq := Lib.hid (seq_lit 1 rfl (by omega) (rows_b P_2.out))
  clear P_2
  have B_3 := Lib.hid (bt B_1.out bo)
  clear B_1
  have S_4 := Lib.hid (sq.out)
  clear bo sq
  go_wp2_with fail
  refine (HH.out _ _ S_4.out).mono ?_
  rintro e w2 ⟨v2, rfl, o2, b2⟩
  have B_5 := Lib.hid (bt B_3.out b2)
  clear B_3
  have S_6 := Lib.hid (S_4.out.keeps b2)
  clear S_4
  have X_7 := Lib.hid (o2.opl)
  clear b2 o2
  clear S_6
  go_wp2_with fail
  refine (fa14_any _).mono ?_
  rintro e w3 ⟨g3, rfl, r3, b3⟩
  have B_8 := Lib.hid (bt B_5.out b3)
  clear B_5
  have X_9 := Lib.hid (X_7.out.keeps b3)
  clear X_7
  have P_10 := Lib.hid (r3)
  clear b3 r3
  go_wp2_with fail
  refine (fb14_any _).mono ?_
  rintro e w4 ⟨g4, rfl, r4, b4⟩
  have B_11 := Lib.hid (bt B_8.out b4)
  clear B_8
  have X_12 := Lib.hid (X_9.out.keeps b4)
  clear X_9
  have P_13 := Lib.hid (P_10.out.keeps b4)
  clear P_10
  have Q_14 := Lib.hid (r4)
  clear b4 r4
  have bo := (Below.refl w4.heap.size w4).alloc (Nat.le_refl _) (.cells [.int .u8 1, .int .u32 1, .int .u8 0, .slice (some ⟨g3, 0, none⟩) 1 1, .int .i64 65, .int .u8 1, .int .u32 2, .int .u8 0, .slice (some ⟨g4, 0, none⟩) 1 1, .int .i64 66].toArray 31)
  have sq := Lib.hid (seq_lit 2 rfl (by omega) (rows_ab P_13.out Q_14.out))
  clear P_13 Q_14
  have B_15 := Lib.hid (bt B_11.out bo)
  clear B_11
  have X_16 := Lib.hid (X_12.out.keeps bo)
  clear X_12
  have S_17 := Lib.hid (sq.out)
  clear bo sq
  go_wp2_with fail
  refine (fa14_any _).mono ?_
  rintro e w5 ⟨g5, rfl, r5, b5⟩
  have B_18 := Lib.hid (bt B_15.out b5)
  clear B_15
  have X_19 := Lib.hid (X_16.out.keeps b5)
  clear X_16
  have S_20 := Lib.hid (S_17.out.keeps b5)
  clear S_17
  have P_21 := Lib.hid (r5)
  clear b5 r5
  go_wp2_with fail
  refine (fb14_any _).mono ?_
  rintro e w6 ⟨g6, rfl, r6, b6⟩
  have B_22 := Lib.hid (bt B_18.out b6)
  clear B_18
  have X_23 := Lib.hid (X_19.out.keeps b6)
  clear X_19
  have S_24 := Lib.hid (S_20.out.keeps b6)
  clear S_20
  have P_25 := Lib.hid (P_21.out.keeps b6)
  clear P_21
  have Q_26 := Lib.hid (r6)
  clear b6 r6
  have bo := (Below.refl w6.heap.size w6).alloc (Nat.le_refl _) (.cells [.int .u8 1, .int .u32 1, .int .u8 0, .slice (some ⟨g5, 0, none⟩) 1 1, .int .i64 65, .int .u8 1, .int .u32 2, .int .u8 0, .slice (some ⟨g6, 0, none⟩) 1 1, .int .i64 66].toArray 31)
  have sq := Lib.hid (seq_lit 2 rfl (by omega) (rows_ab P_25.out Q_26.out))
  clear P_25 Q_26
  have B_27 := Lib.hid (bt B_22.out bo)
  clear B_22
  have X_28 := Lib.hid (X_23.out.keeps bo)
  clear X_23
  have S_29 := Lib.hid (S_24.out.keeps bo)
  clear S_24
  have T_30 := Lib.hid (sq.out)
  clear bo sq
  go_wp2_with fail
  refine (C1.out _ _ _ S_29.out T_30.out).mono ?_
  rintro e w7 ⟨rfl, b7⟩
  have B_31 := Lib.hid (bt B_27.out b7)
  clear B_27
  have X_32 := Lib.hid (X_28.out.keeps b7)
  clear X_28
  have S_33 := Lib.hid (S_29.out.keeps b7)
  clear S_29
  have T_34 := Lib.hid (T_30.out.keeps b7)
  clear T_30
  clear b7
  clear S_33 T_34
  go_wp2_with fail
  refine (fb14_any _).mono ?_
  rintro e w8 ⟨g8, rfl, r8, b8⟩
  have B_35 := Lib.hid (bt B_31.out b8)
  clear B_31
  have X_36 := Lib.hid (X_32.out.keeps b8)
  clear X_32
  have P_37 := Lib.hid (r8)
  clear b8 r8
  have bo := (Below.refl w8.heap.size w8).alloc (Nat.le_refl _) (.cells [.int .u8 1, .int .u32 2, .int .u8 0, .slice (some ⟨g8, 0, none⟩) 1 1, .int .i64 66].toArray 31)
  have sq := Lib.hid (seq_lit 1 rfl (by omega) (rows_b P_37.out))
  clear P_37
  have B_38 := Lib.hid (bt B_35.out bo)
  clear B_35
  have X_39 := Lib.hid (X_36.out.keeps bo)
  clear X_36
  have S_40 := Lib.hid (sq.out)
  clear bo sq
  go_wp2_with fail
  refine (C2.out _ _ _ S_40.out (Seq.nil _ _)).mono ?_
  rintro e w9 ⟨rfl, b9⟩
  have B_41 := Lib.hid (bt B_38.out b9)
  clear B_38
  have X_42 := Lib.hid (X_39.out.keeps b9)
  clear X_39
  have S_43 := Lib.hid (S_40.out.keeps b9)
  clear S_40
  clear b9
  clear S_43
  go_wp2_with fail
  refine (fb14_any _).mono ?_
  rintro e w10 ⟨g10, rfl, r10, b10⟩
  have B_44 := Lib.hid (bt B_41.out b10)
  clear B_41
  have X_45 := Lib.hid (X_42.out.keeps b10)
  clear X_42
  have P_46 := Lib.hid (r10)
  clear b10 r10
  have bo := (Below.refl w10.heap.size w10).alloc (Nat.le_refl _) (.cells [.int .u8 1, .int .u32 2, .int .u8 0, .slice (some ⟨g10, 0, none⟩) 1 1, .int .i64 66].toArray 31)
  have sq := Lib.hid (seq_lit 1 rfl (by omega) (rows_b P_46.out))
  clear P_46
  have B_47 := Lib.hid (bt B_44.out bo)
  clear B_44
  have X_48 := Lib.hid (X_45.out.keeps bo)
  clear X_45
  have S_49 := Lib.hid (sq.out)
  clear bo sq
  go_wp2_with fail
  refine (SL.out _ _ _ _ X_48.out S_49.out).mono ?_
  rintro e w11 ⟨rfl, b11⟩
  have B_50 := Lib.hid (bt B_47.out b11)
  clear B_47
  have X_51 := Lib.hid (X_48.out.keeps b11)
  clear X_48
  have S_52 := Lib.hid (S_49.out.keeps b11)
  clear S_49
  clear b11
  clear X_51 S_52
  go_wp2
  go_ret
  exact ⟨rfl, B_50.out⟩
end Go.Proofs.YtdackenaknieaaaGreat.Covers
