/- octavo/bag.Add: what it answers. Conditions: the slice's cells are operations, the place's are runs. -/
import Derived.Deep.DrawnRows
import Derived.Deep.RegionHeld3
import Derived.Scope
import Derived.Maps.Own
import Derived.Maps.OwnOps
import Derived.Maps.OwnSet
import Derived.Maps.Views
import Derived.DeepKeys4
import Derived.Test.YtpgdnenkjommfaaPk08
import Derived.Test.YtpgdnenkjommfaaPk16
import Derived.Test.YtpgdnenkjommfaaPk09
import Derived.Test.YtpgdnenkjommfaaPk07
import Derived.Test.YtpgdnenkjommfaaPk15
import Derived.Test.YtpgdnenkjommfaaPk02
import Derived.Test.YtpgdnenkjommfaaPk01
import Derived.Test.YtpgdnenkjommfaaPk04

namespace Go.Proofs.Ytpgdnenkjommfaa.Bags
open Go.RowKit Go.WideShapes Stamp Go.Proofs.Ytpgdnenkjommfaa.Place Ops Codes
attribute [local go_sem ↓] Go.wp_at_zero Go.wp_at_succ

theorem alloc_bo {wl W : World} (h : Below wl.heap.size wl W) (o : Obj) : Below wl.heap.size wl (W.alloc o) := h.alloc h.size o

set_option maxRecDepth 100000 in
set_option maxHeartbeats 16000000 in
theorem bAdd_any {v u0 : Value} {l : List Opn} {o : Opn} {w : World} (hv : OpL w v l) (hu : Runs w u0 o.pl) :
    Calls Try.prog 16 #[v, opv o u0] w (DoneN (addL l o) (addE l o) w) := by
  have CK : Hid (∀ W : World, Below w.heap.size w W → Calls Try.prog 20 #[v] W fun e w' => e = .returned (.int .i64 (chkL l)) ∧ Below W.heap.size W w') := fun W h => bCheck_any (hv.keeps h)
  have SR : Hid (Bag l → ∀ W : World, Below w.heap.size w W → Calls Try.prog 33 #[v, .agg #[.int .u32 (o.t : Int), .int .u8 (o.r : Int)]] W fun e w' => ∃ k : Nat, e = .returned (.tuple #[.int .i64 (k : Int), .bool (hasO l (idO o))]) ∧ Pos l (idO o) k ∧ Below W.heap.size W w') := fun hb W h => bSearch_any (idO o) (hv.keeps h) (by have := hb.1; omega) hb.2.2
  have TWL : Hid (Bag l → ∀ (WB W : World), WB.heap.size ≤ W.heap.size → Below w.heap.size w W → Calls Try.prog 35 #[v] W fun e w' => ∃ G, e = .returned (.slice (some ⟨G, 0, none⟩) l.length l.length) ∧ OwnL w' WB.heap.size (.slice (some ⟨G, 0, none⟩) l.length l.length) l ∧ Below W.heap.size W w') := fun hb WB W h1 h2 => by
    refine (bTwinX_any (hv.keeps h2) (by have := hb.1; omega) (bag_fits hb).2).mono ?_
    rintro e w' ⟨rfl, ho, hb⟩
    exact ⟨_, rfl, ho.base h1, hb⟩
  obtain ⟨uo, uc, rfl⟩ := hu.shape
  obtain ⟨nu, hnu⟩ : ∃ n, n = o.pl.length := ⟨_, rfl⟩
  have OC : Hid (∀ W : World, Below w.heap.size w W → Calls Try.prog 34 #[opv o (.slice uo o.pl.length uc)] W fun e w' => e = .returned (.int .i64 (chkO o)) ∧ Below W.heap.size W w') := fun W h => oCheck_any (hu.keeps h)
  have TWO : Hid (mayO o = true → ∀ (WB W : World), WB.heap.size ≤ W.heap.size → Below w.heap.size w W → Calls Try.prog 25 #[opv o (.slice uo o.pl.length uc)] W fun e w' => ∃ ao cap, e = .returned (opv o (.slice ao o.pl.length cap)) ∧ w'.ownsRow WB.heap.size 50 3 (.slice ao o.pl.length cap) o.pl.length (runs o.pl) ∧ Below W.heap.size W w') := fun hm WB W h1 h2 => by
    refine (oTwin_any (hu.keeps h2) (by have := mayO_fits hm; omega)).mono ?_
    rintro e w' ⟨v', rfl, ho, hb⟩
    obtain ⟨ao', cap', rfl⟩ : ∃ ao cap, v' = .slice ao o.pl.length cap := Sees.shape (Sees.own ho)
    exact ⟨ao', cap', rfl, op_base ho h1, hb⟩
  obtain ⟨ao, cap, rfl⟩ := hv.shape
  obtain ⟨n, hn⟩ : ∃ n, n = l.length := ⟨_, rfl⟩
  have HN := Lib.hid hn
  have INS : Hid (Bag l → ∀ (WB W9 X : World) (G V k : Nat) (a : Option Addr) (c : Nat), OwnL W9 WB.heap.size (.slice (some ⟨G, 0, none⟩) n n) l → Below W9.heap.size W9 X → X.heap[V]? = some (.cells #[.int .u8 (o.k : Int), .int .u32 (o.t : Int), .int .u8 (o.r : Int), .slice a o.pl.length c, .int .i64 o.p] 27) →
      X.ownsRow WB.heap.size 50 3 (.slice a o.pl.length c) o.pl.length (runs o.pl) → WB.heap.size ≤ X.heap.size → Pos l (idO o) k → hasO l (idO o) = false →
      Calls Try.prog 36 #[.slice (some ⟨G, 0, none⟩) n n, .int .i64 (k : Int), .slice (some ⟨V, 0, none⟩) 1 1] X fun e w' => ∃ v', e = .returned v' ∧ OwnL w' WB.heap.size v' (withO l o) ∧ Below WB.heap.size X w') := fun hb WB W9 X G V k a c h1 h2 h3 h4 h5 h6 h7 => by
    rw [pos_with h6 h7]
    exact bIns_any (h1.keeps h2) (by rw [hn]; exact h6.1) (by rw [hn]; exact hb.1) h3 h4 h5
  rw [← hn] at CK SR TWL ⊢
  rw [← hnu] at OC TWO INS ⊢
  have HO : Hid (∀ v : Value, opv o v = .agg #[.int .u8 (o.k : Int), .int .u32 (o.t : Int), .int .u8 (o.r : Int), v, .int .i64 o.p]) := fun v => rfl
  have AB : Hid (¬ (Bag l ∧ mayO o = true) → addL l o = [] ∧ addE l o = 8) := fun h => by
    have e : addE l o = 8 := by unfold addE; rw [if_pos (by rw [bagB_iff]; exact h)]
    exact ⟨by unfold addL; rw [e]; rfl, e⟩
  have AT : Hid (Bag l → mayO o = true → hasO l (idO o) = true → addL l o = l ∧ addE l o = 0) := fun h1 h2 h3 => by
    have e : addE l o = 0 := by unfold addE; rw [if_neg (by rw [bagB_iff]; exact fun h => h ⟨h1, h2⟩), if_neg (by rw [withO_len, if_pos h3]; have := h1.1; omega)]
    exact ⟨by unfold addL withO; rw [e, if_pos rfl, if_pos h3], e⟩
  have AF : Hid (Bag l → mayO o = true → hasO l (idO o) = false → n = 1024 → addL l o = [] ∧ addE l o = 9) := fun h1 h2 h3 h4 => by
    have e : addE l o = 9 := by unfold addE; rw [if_neg (by rw [bagB_iff]; exact fun h => h ⟨h1, h2⟩), if_pos (by rw [withO_len, if_neg (by rw [h3]; decide)]; omega)]
    exact ⟨by unfold addL; rw [e]; rfl, e⟩
  have AW : Hid (Bag l → mayO o = true → hasO l (idO o) = false → n ≠ 1024 → addL l o = withO l o ∧ addE l o = 0) := fun h1 h2 h3 h4 => by
    have e : addE l o = 0 := by unfold addE; rw [if_neg (by rw [bagB_iff]; exact fun h => h ⟨h1, h2⟩), if_neg (by rw [withO_len, if_neg (by rw [h3]; decide)]; have := h1.1; omega)]
    exact ⟨by unfold addL; rw [e, if_pos rfl], e⟩
  obtain ⟨RL, hRL⟩ : ∃ z, addL l o = z := ⟨_, rfl⟩
  obtain ⟨RE, hRE⟩ : ∃ z, addE l o = z := ⟨_, rfl⟩
  obtain ⟨RW, hRW⟩ : ∃ z, withO l o = z := ⟨_, rfl⟩
  rw [hRL, hRE] at AB AT AF AW ⊢
  rw [hRW] at AW INS
  obtain ⟨P, hP⟩ : ∃ P : Nat → Prop, P = Pos l (idO o) := ⟨_, rfl⟩
  have hPk : ∀ k, Pos l (idO o) k = P k := fun k => by rw [hP]
  simp only [hPk] at SR INS
  obtain ⟨q, hq⟩ : ∃ q, hasO l (idO o) = q := ⟨_, rfl⟩
  rw [hq] at SR INS AT AF AW
  unfold chkO at OC
  obtain ⟨my, hmy⟩ : ∃ b, mayO o = b := ⟨_, rfl⟩
  rw [hmy] at OC TWO AB AT AF AW
  clear hRL hRE hRW hP hPk hq hmy hv hu
  obtain ⟨L, hL⟩ : ∃ L, L = runs o.pl := ⟨_, rfl⟩
  rw [← hL] at TWO INS
  clear hnu hL
  obtain ⟨k0, hk0⟩ : ∃ z, o.k = z := ⟨_, rfl⟩
  obtain ⟨t0, ht0⟩ : ∃ z, o.t = z := ⟨_, rfl⟩
  obtain ⟨r0, hr0⟩ : ∃ z, o.r = z := ⟨_, rfl⟩
  obtain ⟨p0, hp0⟩ : ∃ z, o.p = z := ⟨_, rfl⟩
  rw [hk0, ht0, hr0, hp0] at HO INS
  rw [ht0, hr0] at SR
  simp only [HO.out] at OC TWO ⊢
  have BL : Hid (Below w.heap.size w (w.alloc (.cells #[.int .u8 (k0 : Int), .int .u32 (t0 : Int), .int .u8 (r0 : Int), .slice uo nu uc, .int .i64 p0] 27))) := (Below.refl _ _).alloc (Nat.le_refl _) _
  have CE : Hid (∀ W : World, Below (w.alloc (.cells #[.int .u8 (k0 : Int), .int .u32 (t0 : Int), .int .u8 (r0 : Int), .slice uo nu uc, .int .i64 p0] 27)).heap.size (w.alloc (.cells #[.int .u8 (k0 : Int), .int .u32 (t0 : Int), .int .u8 (r0 : Int), .slice uo nu uc, .int .i64 p0] 27)) W → W.cell? ⟨w.heap.size, 0, none⟩ = some (.int .u8 (k0 : Int)) ∧ W.cell? ⟨w.heap.size, 1, none⟩ = some (.int .u32 (t0 : Int)) ∧ W.cell? ⟨w.heap.size, 2, none⟩ = some (.int .u8 (r0 : Int)) ∧ W.cell? ⟨w.heap.size, 3, none⟩ = some (.slice uo nu uc) ∧ W.cell? ⟨w.heap.size, 4, none⟩ = some (.int .i64 p0)) := fun W h => five_cells h
  clear hn hk0 ht0 hr0 hp0 HO
  by_cases hbag : Bag l
  rotate_left
  · rw [chkL_no hbag] at CK
    obtain ⟨rfl, rfl⟩ := AB.out (fun h => hbag h.1)
    clear AB AT AF AW INS TWO TWL OC SR CE
    go_enter Try.func16, Try.ntmps16
    go_wp2_with fail
    refine (CK.out _ BL.out).mono ?_
    rintro e w1 ⟨rfl, b1⟩
    have B1 := Lib.hid (bt BL.out b1)
    clear b1
    go_wp2
    go_ret2
    exact ⟨_, rfl, OwnL.nil _ _, B1.out⟩
  rw [chkL_yes hbag] at CK
  cases my
  · obtain ⟨rfl, rfl⟩ := AB.out (fun h => by cases h.2)
    rw [if_neg (by simp)] at OC
    clear AB AT AF AW INS TWO TWL SR
    go_enter Try.func16, Try.ntmps16
    go_wp2_with fail
    refine (CK.out _ BL.out).mono ?_
    rintro e w1 ⟨rfl, b1⟩
    have B1 := Lib.hid (bt BL.out b1)
    obtain ⟨g0, g1, g2, g3, g4⟩ := CE.out _ b1
    clear b1 CE
    go_wp2_with fail
    refine (OC.out _ B1.out).mono ?_
    rintro e w2 ⟨rfl, b2⟩
    have B2 := Lib.hid (bt B1.out b2)
    clear b2
    go_wp2
    go_ret2
    exact ⟨_, rfl, OwnL.nil _ _, B2.out⟩
  rw [if_pos rfl] at OC
  have SR2 := Lib.hid (SR.out hbag)
  have TL2 := Lib.hid (TWL.out hbag)
  have TO2 := Lib.hid (TWO.out rfl)
  have IN2 := Lib.hid (INS.out hbag)
  have AT2 := Lib.hid (AT.out hbag rfl)
  have AF2 := Lib.hid (AF.out hbag rfl)
  have AW2 := Lib.hid (AW.out hbag rfl)
  have hnm : n ≤ 1024 := by rw [HN.out]; exact hbag.1
  clear AB AT AF AW INS TWO TWL SR hbag
  go_enter Try.func16, Try.ntmps16
  go_wp2_with fail
  refine (CK.out _ BL.out).mono ?_
  rintro e w1 ⟨rfl, b1⟩
  have B1 := Lib.hid (bt BL.out b1)
  have K1 := Lib.hid b1
  obtain ⟨g0, g1, g2, g3, g4⟩ := CE.out _ b1
  clear b1 CK
  go_wp2_with fail
  refine (OC.out _ B1.out).mono ?_
  rintro e w2 ⟨rfl, b2⟩
  have B2 := Lib.hid (bt B1.out b2)
  have K2 := Lib.hid (bt K1.out b2)
  clear b2 g0 g1 g2 g3 g4 OC K1
  obtain ⟨g0, g1, g2, g3, g4⟩ := CE.out _ K2.out
  go_wp2_with fail
  refine (SR2.out _ B2.out).mono ?_
  rintro e w3 ⟨k, rfl, hk, b3⟩
  have B3 := Lib.hid (bt B2.out b3)
  have K3 := Lib.hid (bt K2.out b3)
  have HK := Lib.hid hk
  clear b3 hk g0 g1 g2 g3 g4 SR2 K2 B2 B1
  cases q
  rotate_left
  · obtain ⟨rfl, rfl⟩ := AT2.out rfl
    clear AF2 AW2 IN2 TO2 CE K3
    go_wp2_with fail
    refine (TL2.out w w3 B3.out.size B3.out).mono ?_
    rintro e w4 ⟨G4, rfl, o4, b4⟩
    have B4 := Lib.hid (bt B3.out b4)
    have O4 := Lib.hid o4
    clear o4 b4
    go_wp2
    go_ret2
    exact ⟨_, rfl, O4.out, B4.out⟩
  by_cases hfull : n = 1024
  · have d1 : decide (n = 1024) = true := decide_eq_true hfull
    have d2 : ((n : Int) == 1024) = true := by simp; omega
    obtain ⟨rfl, rfl⟩ := AF2.out rfl hfull
    clear AT2 AW2 IN2 TO2 TL2 CE K3
    go_wp2
    go_ret2
    exact ⟨_, rfl, OwnL.nil _ _, B3.out⟩
  have d1 : decide (n = 1024) = false := decide_eq_false hfull
  have d2 : ((n : Int) == 1024) = false := by simp; omega
  obtain ⟨rfl, rfl⟩ := AW2.out rfl hfull
  have SK : Hid (∀ w' : World, Below w3.heap.size w3 w' → Below w3.heap.size w3 w' ∧ w'.cell? ⟨w.heap.size, 0, none⟩ = some (.int .u8 (k0 : Int)) ∧ w'.cell? ⟨w.heap.size, 1, none⟩ = some (.int .u32 (t0 : Int)) ∧ w'.cell? ⟨w.heap.size, 2, none⟩ = some (.int .u8 (r0 : Int)) ∧ w'.cell? ⟨w.heap.size, 3, none⟩ = some (.slice uo nu uc) ∧ w'.cell? ⟨w.heap.size, 4, none⟩ = some (.int .i64 p0)) := fun W h => ⟨h, CE.out W (bt K3.out h)⟩
  have TL3 : Hid (∀ W : World, Below w3.heap.size w3 W → Calls Try.prog 35 #[.slice ao n cap] W fun e w' => ∃ G, e = .returned (.slice (some ⟨G, 0, none⟩) n n) ∧ OwnL w' w3.heap.size (.slice (some ⟨G, 0, none⟩) n n) l ∧ Below w3.heap.size w3 w') := fun W h => by
    refine (TL2.out w3 W h.size (bt B3.out h)).mono ?_
    rintro e w' ⟨G, rfl, ho, hb⟩
    exact ⟨G, rfl, ho, bt h hb⟩
  have TO3 : Hid (∀ W : World, Below w3.heap.size w3 W → Calls Try.prog 25 #[.agg #[.int .u8 (k0 : Int), .int .u32 (t0 : Int), .int .u8 (r0 : Int), .slice uo nu uc, .int .i64 p0]] W fun e w' => ∃ ao cap, e = .returned (.agg #[.int .u8 (k0 : Int), .int .u32 (t0 : Int), .int .u8 (r0 : Int), .slice ao nu cap, .int .i64 p0]) ∧ w'.ownsRow w3.heap.size 50 3 (.slice ao nu cap) nu L ∧ Below w3.heap.size w3 w' ∧ Below W.heap.size W w') := fun W h => by
    refine (TO2.out w3 W h.size (bt B3.out h)).mono ?_
    rintro e w' ⟨ao, cap, rfl, ho, hb⟩
    exact ⟨ao, cap, rfl, ho, bt h hb, hb⟩
  have IN3 : Hid (∀ (W9 w10 : World) (G : Nat) (a : Option Addr) (c : Nat), OwnL W9 w3.heap.size (.slice (some ⟨G, 0, none⟩) n n) l → Below W9.heap.size W9 w10 → w10.ownsRow w3.heap.size 50 3 (.slice a nu c) nu L → Below w3.heap.size w3 w10 →
      Calls Try.prog 36 #[.slice (some ⟨G, 0, none⟩) n n, .int .i64 (k : Int), .slice (some ⟨w10.heap.size, 0, none⟩) 1 1] (w10.alloc (.cells #[.int .u8 (k0 : Int), .int .u32 (t0 : Int), .int .u8 (r0 : Int), .slice a nu c, .int .i64 p0] 27)) fun e w' => ∃ v', e = .returned v' ∧ OwnL w' w3.heap.size v' RL ∧ Below w3.heap.size w3 w') := fun W9 w10 G a c h1 h2 h3 h4 => by
    have bA : Below w10.heap.size w10 (w10.alloc (.cells #[.int .u8 (k0 : Int), .int .u32 (t0 : Int), .int .u8 (r0 : Int), .slice a nu c, .int .i64 p0] 27)) := (Below.refl _ _).alloc (Nat.le_refl _) _
    refine (IN2.out w3 W9 _ G w10.heap.size k a c h1 (bt h2 bA) (blk_new rfl) (own_stays h3 bA) (bt h4 bA).size HK.out rfl).mono ?_
    rintro e w' ⟨v', rfl, ho, hb⟩
    exact ⟨v', rfl, ho, (bt h4 bA).trans hb⟩
  clear AT2 AF2 AW2 IN2 TO2 TL2 CE K3
  go_wp2
  go_region_held3 (fun w' => Below w3.heap.size w3 w' ∧ w'.cell? ⟨w.heap.size, 0, none⟩ = some (.int .u8 (k0 : Int)) ∧ w'.cell? ⟨w.heap.size, 1, none⟩ = some (.int .u32 (t0 : Int)) ∧ w'.cell? ⟨w.heap.size, 2, none⟩ = some (.int .u8 (r0 : Int)) ∧ w'.cell? ⟨w.heap.size, 3, none⟩ = some (.slice uo nu uc) ∧ w'.cell? ⟨w.heap.size, 4, none⟩ = some (.int .i64 p0))
    (first | exact SK.out _ (drew1 _) | (go_split_ands; refine SK.out _ ?_; repeat' (first | assumption | (with_reducible refine Below.drew ?_) | (with_reducible refine below_draw ?_ _) | (with_reducible refine alloc_bo ?_ _) | fail)))
    ((first
      | (go_at_call 35; (with_reducible refine (TL3.out _ ?hw).mono ?_)
         case hw => go_split_ands; repeat' (first | assumption | (with_reducible refine Below.drew ?_) | (with_reducible refine below_draw ?_ _) | (with_reducible refine alloc_bo ?_ _) | fail)
         rintro e w9 ⟨G9, rfl, o9, b9⟩)
      | (go_at_call 25; (with_reducible refine (TO3.out _ ?hw).mono ?_)
         case hw => go_split_ands; repeat' (first | assumption | (with_reducible refine Below.drew ?_) | (with_reducible refine below_draw ?_ _) | (with_reducible refine alloc_bo ?_ _) | fail)
         rintro e w10 ⟨a10, c10, rfl, o10, b10, k10⟩)
      | (go_at_call 36; (with_reducible refine (IN3.out w9 w10 G9 a10 c10 o9 ?h1 o10 b10).mono ?_)
         case h1 => repeat' (first | assumption | (with_reducible refine Below.drew ?_) | (with_reducible refine below_draw ?_ _) | fail)
         rintro e w11 ⟨v11, rfl, o11, b11⟩)))
  have O11 : Hid (OwnL w11 w.heap.size v11 RL) := OwnL.base o11 B3.out.size
  have B11 := Lib.hid (bt B3.out b11)
  clear o11 b11 o10 b10 k10 o9 b9
  go_wp2
  go_ret2
  exact ⟨_, rfl, O11.out, B11.out⟩
end Go.Proofs.Ytpgdnenkjommfaa.Bags

/- octavo/bag.joined: what it answers. Conditions: the slices' cells are operations, not more than two thousand in all. -/
namespace Go.Proofs.Ytpgdnenkjommfaa.Bags
open Go.RowKit Go.WideShapes Stamp Go.Proofs.Ytpgdnenkjommfaa.Place Ops Codes
attribute [local go_sem ↓] Go.wp_at_zero Go.wp_at_succ
attribute [local go_sem] yielded_undef

theorem alloc_bs {wl W : World} (h : Below wl.heap.size wl W) (o : Obj) : Below wl.heap.size wl (W.alloc o) := h.alloc h.size o
end Go.Proofs.Ytpgdnenkjommfaa.Bags

/- octavo/bag.Join: what it answers. Conditions: the slices' cells are operations. -/
namespace Go.Proofs.Ytpgdnenkjommfaa.Bags
open Go.RowKit Go.WideShapes Stamp Go.Proofs.Ytpgdnenkjommfaa.Place Ops Codes
attribute [local go_sem ↓] Go.wp_at_zero Go.wp_at_succ

end Go.Proofs.Ytpgdnenkjommfaa.Bags

/- octavo/clock: Has, Same, Count, Top with the library's ContainsFunc, IndexFunc, EqualFunc: what each answers. Conditions: the slices' cells are replicas' spans. -/
namespace Go.Proofs.Ytpgdnenkjommfaa.Clocks
open Go.RowKit Go.Proofs.Ytpgdnenkjommfaa.Spans
attribute [local go_sem ↓] Go.wp_at_zero Go.wp_at_succ

/-! ### Has -/
def hit (a : Id) (x : Tm) : Bool := decide (x.1 = a.r) && has x.2 a.t
theorem hits_is (a : Id) : ∀ {c : List Tm} {lo : Nat}, Up lo c → c.any (hit a) = inB (spn c a.r) a.t
  | [], _, _ => rfl
  | x :: c, lo, h => by
    have h2 : Up (x.1 + 1) c := by
      unfold Up at h
      exact h.2.2.2.2
    have hm := (up_all h x (by simp)).2.2.2
    rw [List.any_cons, spn_cons]
    unfold hit
    by_cases e : x.1 = a.r
    · rw [if_pos e, decide_eq_true e, Bool.true_and]
      have hno : c.any (hit a) = false := by
        rw [List.any_eq_false]
        intro y hy
        have := (up_all h2 y hy).1
        unfold hit
        rw [decide_eq_false (by omega)]
        simp
      unfold hit at hno
      rw [hno, Bool.or_false]
      unfold has
      rw [hm, Bool.true_and]
    · rw [if_neg e, decide_eq_false e, Bool.false_and, Bool.false_or]
      exact hits_is a h2

set_option maxHeartbeats 2000000 in
theorem cHasOne_any (x : Tm) (u : Value) (a : Id) (B : Nat) {w : World} (hu : Sps w u x.2) (hc : w.cell? ⟨B, 0, none⟩ = some (.int .u32 (a.t : Int)) ∧ w.cell? ⟨B, 1, none⟩ = some (.int .u8 (a.r : Int))) (hB : B < w.heap.size) :
    Calls Try.prog 31 #[.agg #[.int .u8 (x.1 : Int), u], .pointer (some ⟨B, 0, none⟩)] w fun e w' => e = .returned (.bool (hit a x)) ∧ Below w.heap.size w w' := by
  obtain ⟨xr, xs⟩ := x
  obtain ⟨t, r, ht, hr⟩ := a
  simp only at hu hc
  unfold hit
  simp only
  have BX := Lib.hid (fun o : Obj => (Below.refl w.heap.size w).alloc (Nat.le_refl _) o)
  have c0 : Hid (∀ o : Obj, (w.alloc o).cell? ⟨B, 0, none⟩ = some (.int .u32 (t : Int)) ∧ (w.alloc o).cell? ⟨B, 1, none⟩ = some (.int .u8 (r : Int))) := fun o => ⟨((BX.out o).cell (p := ⟨B, 0, none⟩) hB).trans hc.1, ((BX.out o).cell (p := ⟨B, 1, none⟩) hB).trans hc.2⟩
  have HP : Hid (∀ o : Obj, Calls Try.prog 32 #[u, .int .u32 (t : Int)] (w.alloc o) fun e w' => e = .returned (.bool (has xs t)) ∧ Below (w.alloc o).heap.size (w.alloc o) w') := fun o => pHas_any t (hu.keeps (BX.out o))
  obtain ⟨so, sc, rfl⟩ := hu.shape
  obtain ⟨d0, d1⟩ := c0.out (.cells #[.int .u8 (xr : Int), .slice so xs.length sc] 66)
  obtain ⟨sl, hsl⟩ : ∃ sl, sl = xs.length := ⟨_, rfl⟩
  rw [← hsl] at d0 d1 HP ⊢
  obtain ⟨b, hb⟩ : ∃ b, has xs t = b := ⟨_, rfl⟩
  rw [hb] at HP ⊢
  clear hu hc c0 hsl hb
  by_cases h1 : xr = r
  · subst h1
    have s1 : ((xr : Int) == (xr : Int)) = true := by simp
    rw [decide_eq_true rfl, Bool.true_and]
    go_enter Try.func31, Try.ntmps31
    go_wp2_with fail
    refine (HP.out _).mono ?_
    rintro e w1 ⟨rfl, b1⟩
    have B1 := Lib.hid (bt (BX.out _) b1)
    clear b1
    go_wp2
    go_ret
    exact ⟨rfl, B1.out⟩
  · have s1 : ((xr : Int) == (r : Int)) = false := by simp; omega
    have s2 : decide (xr = r) = false := decide_eq_false h1
    rw [s2, Bool.false_and]
    go_enter Try.func31, Try.ntmps31
    go_wp2
    go_ret
    exact ⟨rfl, BX.out _⟩

theorem any_snoc (p : Tm → Bool) (c : List Tm) (k : Nat) (h : k < c.length) : (c.take (k + 1)).any p = ((c.take k).any p || p (c.getD k ztm)) := by
  rw [tm_take_snoc c k h, List.any_append]
  simp
set_option maxRecDepth 100000 in
set_option maxHeartbeats 2000000 in
theorem cIdx_any {v : Value} {c : List Tm} (a : Id) (B : Nat) {w : World} (hv : Tms w v c) (hc : w.cell? ⟨B, 0, none⟩ = some (.int .u32 (a.t : Int)) ∧ w.cell? ⟨B, 1, none⟩ = some (.int .u8 (a.r : Int))) (hB : B < w.heap.size) :
    Calls Try.prog 52 #[v, .func (.func 31) #[] #[.pointer (some ⟨B, 0, none⟩)]] w fun e w' => (∃ q : Int, e = .returned (.int .i64 q) ∧ decide (0 ≤ q) = c.any (hit a)) ∧ Below w.heap.size w w' := by
  obtain ⟨ao, cap, rfl⟩ := hv.shape
  obtain ⟨n, hn⟩ : ∃ n, n = c.length := ⟨_, rfl⟩
  have hm : n ≤ 9223372036854775807 := by rw [hn]; exact Tms.max hv
  have HV := Lib.hid hv
  have HN := Lib.hid hn
  have HC := Lib.hid hc
  obtain ⟨b0, hb0⟩ : ∃ b, c.any (hit a) = b := ⟨_, rfl⟩
  have HB0 := Lib.hid hb0
  rw [← hn, hb0]
  have B0 := Lib.hid (Below.refl w.heap.size w)
  clear hv hn hb0 hc
  have eg := enters_of Try.func31 (by kernel_rfl) rfl
  go_enter Try.func52, Try.ntmps52
  go_wp2
  go_loopw [8] (fun i wr => ∃ k : Nat, k ≤ n ∧ i = .int .i64 (k : Int) ∧ Hid ((c.take k).any (hit a) = false) ∧ Hid (Below w.heap.size w wr)) (fun i _ => n - (intOf i).toNat)
  case atStart => exact ⟨0, by omega, rfl, Lib.hid rfl, B0⟩
  case round =>
    obtain ⟨k, hk, rfl, hno, hbel⟩ := hrel
    by_cases hkn : k < n
    · have q1 : decide (k < n) = true := by simpa using hkn
      have q2 : (0 : Int) ≤ (k : Int) := by omega
      have q3 : (k : Int) < (n : Int) := by omega
      have hkl : k < c.length := by rw [← HN.out]; exact hkn
      obtain ⟨b1, o1, u, rfl, hb1, ha0, ha1, -, hsp⟩ := (HV.out.keeps hbel.out).at k hkl
      have hsn := any_snoc (hit a) c k hkl
      rw [hno.out, Bool.false_or] at hsn
      have hall : hit a (c.getD k ztm) = true → b0 = true := fun h => by
        rw [← HB0.out, List.any_eq_true]
        exact ⟨_, tm_mem hkl, h⟩
      obtain ⟨x, hx⟩ : ∃ x, x = c.getD k ztm := ⟨_, rfl⟩
      have hx' : c.getD k (0, []) = x := hx.symm
      rw [hx'] at ha0 hsp
      rw [← hx] at hsn hall
      have C := Lib.hid (cHasOne_any x u a B (w := wr) hsp ⟨(hbel.out.cell (p := ⟨B, 0, none⟩) hB).trans HC.out.1, (hbel.out.cell (p := ⟨B, 1, none⟩) hB).trans HC.out.2⟩ (Nat.lt_of_lt_of_le hB hbel.out.size))
      obtain ⟨q, hq⟩ : ∃ q, hit a x = q := ⟨_, rfl⟩
      rw [hq] at C hsn hall
      have HIn := Lib.hid hall
      have HSn := Lib.hid hsn
      obtain ⟨so, sc, rfl⟩ := hsp.shape
      obtain ⟨xr, xs⟩ := x
      simp only at ha0 ha1 C
      obtain ⟨sl, hsl⟩ : ∃ sl, sl = xs.length := ⟨_, rfl⟩
      rw [← hsl] at ha1 C
      clear hx hx' hsn hall hq hsp hsl
      cases q
      · go_wp2_with fail
        refine C.out.mono ?_
        rintro e w1 ⟨rfl, b1⟩
        have B1 := Lib.hid (bt hbel.out b1)
        clear b1
        go_wp2
        go_roundw
        case rel => exact ⟨k + 1, by omega, by go_num, HSn, B1⟩
        case measure => simp [intOf]; omega
      · obtain rfl : b0 = true := HIn.out rfl
        go_wp2_with fail
        refine C.out.mono ?_
        rintro e w1 ⟨rfl, b1⟩
        have B1 := Lib.hid (bt hbel.out b1)
        clear b1
        go_wp2
        go_ret
        exact ⟨⟨_, rfl, decide_eq_true q2⟩, B1.out⟩
    · have q1 : decide (k < n) = false := by simpa using hkn
      have hkk : c.take k = c := List.take_of_length_le (by have := HN.out; omega)
      have hf : b0 = false := by rw [← HB0.out, ← hkk]; exact hno.out
      subst hf
      clear hkk
      go_wp2
      go_ret
      exact ⟨⟨_, rfl, rfl⟩, hbel.out⟩
theorem cContains_any {v : Value} {c : List Tm} (a : Id) (B : Nat) {w : World} (hv : Tms w v c) (hc : w.cell? ⟨B, 0, none⟩ = some (.int .u32 (a.t : Int)) ∧ w.cell? ⟨B, 1, none⟩ = some (.int .u8 (a.r : Int))) (hB : B < w.heap.size) :
    Calls Try.prog 30 #[v, .func (.func 31) #[] #[.pointer (some ⟨B, 0, none⟩)]] w fun e w' => e = .returned (.bool (c.any (hit a))) ∧ Below w.heap.size w w' := by
  have C := Lib.hid (cIdx_any a B hv hc hB)
  obtain ⟨b0, hb0⟩ : ∃ b, c.any (hit a) = b := ⟨_, rfl⟩
  rw [hb0] at C ⊢
  clear hv hc hb0
  go_enter Try.func30, Try.ntmps30
  go_wp2_with fail
  refine C.out.mono ?_
  rintro e w1 ⟨⟨q, rfl, hq⟩, b1⟩
  go_wp2
  go_ret
  exact ⟨rfl, b1⟩
set_option maxRecDepth 100000 in
set_option maxHeartbeats 2000000 in
theorem cHas_any {v : Value} {c : List Tm} (a : Id) {w : World} (hv : Tms w v c) :
    Calls Try.prog 13 #[v, .agg #[.int .u32 (a.t : Int), .int .u8 (a.r : Int)]] w fun e w' => e = .returned (.bool (hasC c a)) ∧ Below w.heap.size w w' := by
  have X0 := Lib.hid ((Below.refl w.heap.size w).alloc (Nat.le_refl _) (.cells #[.int .u32 (a.t : Int), .int .u8 (a.r : Int)] 24))
  have C0 := Lib.hid (two_blk (heap_alloc_new w (.cells #[.int .u32 (a.t : Int), .int .u8 (a.r : Int)] 24)))
  have M := Lib.hid (cCheck_any (hv.keeps X0.out))
  have HV := Lib.hid hv
  unfold hasC
  unfold chkC at M
  cases hb : mayC c
  · rw [hb, if_neg (by simp)] at M
    rw [Bool.false_and]
    clear hb hv
    go_enter Try.func13, Try.ntmps13
    go_wp2_with fail
    refine M.out.mono ?_
    rintro e w1 ⟨rfl, b1⟩
    have B1 := Lib.hid (bt X0.out b1)
    clear b1
    go_wp2
    go_ret
    exact ⟨rfl, B1.out⟩
  · rw [hb, if_pos rfl] at M
    rw [Bool.true_and, ← hits_is a ((mayC_iff c).1 hb)]
    obtain ⟨b0, hb0⟩ : ∃ b, c.any (hit a) = b := ⟨_, rfl⟩
    have HB0 := Lib.hid hb0
    rw [hb0]
    clear hb hv hb0
    go_enter Try.func13, Try.ntmps13
    go_wp2_with fail
    refine M.out.mono ?_
    rintro e w1 ⟨rfl, b1⟩
    have B1 := Lib.hid (bt X0.out b1)
    have K := cContains_any a w.heap.size (w := w1) ((HV.out.keeps X0.out).keeps b1) ⟨(b1.cell (p := ⟨w.heap.size, 0, none⟩) (by simp)).trans C0.out.1, (b1.cell (p := ⟨w.heap.size, 1, none⟩) (by simp)).trans C0.out.2⟩ (by have := b1.size; simp at this; omega)
    rw [HB0.out] at K
    have K := Lib.hid K
    clear b1
    go_wp2_with fail
    refine K.out.mono ?_
    rintro e w2 ⟨rfl, b2⟩
    have B2 := Lib.hid (bt B1.out b2)
    clear b2
    go_wp2
    go_ret
    exact ⟨rfl, B2.out⟩

/-! ### Same -/
end Go.Proofs.Ytpgdnenkjommfaa.Clocks

/- octavo/bag.Less: what it answers. Conditions: the slices' cells are operations, and replicas' spans. -/
namespace Go.Proofs.Ytpgdnenkjommfaa.Bags
open Go.RowKit Go.WideShapes Stamp Go.Proofs.Ytpgdnenkjommfaa.Place Ops Codes
attribute [local go_sem ↓] Go.wp_at_zero Go.wp_at_succ

end Go.Proofs.Ytpgdnenkjommfaa.Bags

/- octavo/bag.Find: what it answers. Conditions: the slice's cells are operations. -/
namespace Go.Proofs.Ytpgdnenkjommfaa.Bags
open Go.RowKit Go.WideShapes Stamp Go.Proofs.Ytpgdnenkjommfaa.Place Ops Codes
attribute [local go_sem ↓] Go.wp_at_zero Go.wp_at_succ

theorem pos_has {l : List Opn} {a : Id} {k : Nat} (hp : l.Pairwise lessO) (h : Pos l a k) (hh : hasO l a = true) : ∃ hk : k < l.length, idO (l[k]'hk) = a := by
  by_cases hx : ∃ hk : k < l.length, idO (l[k]'hk) = a
  · exact hx
  · have := pos_none hp h (fun hk e => hx ⟨hk, e⟩)
    rw [hh] at this; cases this

set_option maxRecDepth 100000 in
set_option maxHeartbeats 8000000 in
theorem bFind_any {v : Value} {l : List Opn} (a : Id) {w : World} (hv : OpL w v l) :
    Calls Try.prog 15 #[v, .agg #[.int .u32 (a.t : Int), .int .u8 (a.r : Int)]] w (FoundN (findL l a) w) := by
  have CK : Hid (∀ W : World, Below w.heap.size w W → Calls Try.prog 20 #[v] W fun e w' => e = .returned (.int .i64 (chkL l)) ∧ Below W.heap.size W w') := fun W h => bCheck_any (hv.keeps h)
  have SR : Hid (Bag l → ∀ W : World, Below w.heap.size w W → Calls Try.prog 33 #[v, .agg #[.int .u32 (a.t : Int), .int .u8 (a.r : Int)]] W fun e w' => ∃ k : Nat, e = .returned (.tuple #[.int .i64 (k : Int), .bool (hasO l a)]) ∧ Pos l a k ∧ Below W.heap.size W w') := fun hb W h => bSearch_any a (hv.keeps h) (by have := hb.1; omega) hb.2.2
  obtain ⟨ao, cap, rfl⟩ := hv.shape
  obtain ⟨n, hn⟩ : ∃ n, n = l.length := ⟨_, rfl⟩
  have HV : Hid (∀ W : World, Below w.heap.size w W → OpL W (.slice ao l.length cap) l) := fun W h => hv.keeps h
  have HN := Lib.hid hn
  rw [← hn] at CK SR ⊢
  obtain ⟨R, hR⟩ : ∃ z, findL l a = z := ⟨_, rfl⟩
  have HR := Lib.hid hR
  obtain ⟨P, hP⟩ : ∃ P : Nat → Prop, P = Pos l a := ⟨_, rfl⟩
  have hPk : ∀ k, Pos l a k = P k := fun k => by rw [hP]
  have HF0 : Hid (¬ Bag l → R = none) := fun h => by rw [← hR]; unfold findL; rw [bagB_no h]; rfl
  have HF1 : Hid (Bag l → hasO l a = false → R = none) := fun h h2 => by
    rw [← hR]; unfold findL; rw [(bagB_iff l).2 h, if_pos rfl]
    unfold hasO at h2; cases hf : findO l a with
    | none => rfl
    | some x => rw [hf] at h2; cases h2
  have HF2 : Hid (Bag l → hasO l a = true → ∀ k, P k → ∃ hk : k < l.length, R = some (l[k]'hk)) := fun h h2 k hp => by
    rw [← hPk] at hp
    obtain ⟨hk, he⟩ := pos_has h.2.2 hp h2
    refine ⟨hk, ?_⟩
    rw [← hR]; unfold findL; rw [(bagB_iff l).2 h, if_pos rfl]
    exact pos_find h.2.2 hp hk he
  have HPL : Hid (Bag l → ∀ k (hk : k < l.length), (l[k]'hk).pl.length ≤ 8796093022208) := fun h k hk => (bag_fits h).2 _ (List.getElem_mem hk)
  simp only [hPk] at SR
  rw [hR]
  obtain ⟨q, hq⟩ : ∃ q, hasO l a = q := ⟨_, rfl⟩
  rw [hq] at SR HF1 HF2
  obtain ⟨ta, hta⟩ : ∃ z, a.t = z := ⟨_, rfl⟩
  obtain ⟨ra, hra⟩ : ∃ z, a.r = z := ⟨_, rfl⟩
  rw [hta, hra] at SR ⊢
  have BL : Hid (Below w.heap.size w ((w.alloc (.cells #[.int .u32 (ta : Int), .int .u8 (ra : Int)] 24)).alloc (.cells #[.int .u8 0, .int .u32 0, .int .u8 0, .slice none 0 0, .int .i64 0] 27))) := ((Below.refl _ _).alloc (Nat.le_refl _) _).alloc (by simp) _
  have XO : Hid (((w.alloc (.cells #[.int .u32 (ta : Int), .int .u8 (ra : Int)] 24)).alloc (.cells #[.int .u8 0, .int .u32 0, .int .u8 0, .slice none 0 0, .int .i64 0] 27)).heap[w.heap.size + 1]? = some (.cells #[.int .u8 0, .int .u32 0, .int .u8 0, .slice none 0 0, .int .i64 0] 27)) := blk_new (by simp)
  have XI : Hid (((w.alloc (.cells #[.int .u32 (ta : Int), .int .u8 (ra : Int)] 24)).alloc (.cells #[.int .u8 0, .int .u32 0, .int .u8 0, .slice none 0 0, .int .i64 0] 27)).heap[w.heap.size]? = some (.cells #[.int .u32 (ta : Int), .int .u8 (ra : Int)] 24)) := blk_old (blk_new rfl)
  have SZ : Hid (∀ W : World, Below ((w.alloc (.cells #[.int .u32 (ta : Int), .int .u8 (ra : Int)] 24)).alloc (.cells #[.int .u8 0, .int .u32 0, .int .u8 0, .slice none 0 0, .int .i64 0] 27)).heap.size ((w.alloc (.cells #[.int .u32 (ta : Int), .int .u8 (ra : Int)] 24)).alloc (.cells #[.int .u8 0, .int .u32 0, .int .u8 0, .slice none 0 0, .int .i64 0] 27)) W → w.heap.size + 2 ≤ W.heap.size) := fun W h => by have := h.size; simpa using this
  clear hv hR hq hP hPk hta hra hn
  by_cases hbag : Bag l
  rotate_left
  · rw [chkL_no hbag] at CK
    obtain rfl := HF0.out hbag
    clear HF0 HF1 HF2 SR HPL hbag
    go_enter Try.func15, Try.ntmps15
    go_wp2_with fail
    refine (CK.out _ BL.out).mono ?_
    rintro e w1 ⟨rfl, b1⟩
    have B1 := Lib.hid (bt BL.out b1)
    have X1 := Lib.hid (blk_below b1 XO.out)
    clear b1 BL XO XI CK
    obtain ⟨x0, x1, x2, x3, x4⟩ := cells5 X1.out
    have f0 : ∀ o, w1.frozen? ⟨w.heap.size + 1, o, none⟩ = false := fun o => free5 X1.out o
    go_wp2_with fail
    obtain ⟨WF, hWF⟩ : ∃ WF, WF = put5 w1 (w.heap.size + 1) (.int .u8 0) (.int .u32 0) (.int .u8 0) (.slice none 0 0) (.int .i64 0) := ⟨_, rfl⟩
    have HF := put5_same (.int .u8 0) (.int .u32 0) (.int .u8 0) (.slice none 0 0) (.int .i64 0) X1.out
    have BF := put5_below (.int .u8 0) (.int .u32 0) (.int .u8 0) (.slice none 0 0) (.int .i64 0) (show w.heap.size ≤ w.heap.size + 1 by omega) B1.out
    rw [← hWF] at HF BF
    unfold put5 at hWF
    rw [← hWF]
    obtain ⟨e0, e1, e2, e3, e4⟩ := cells5 HF
    exact bodyPost_ret (v := .tuple #[.agg #[.int .u8 0, .int .u32 0, .int .u8 0, .slice none 0 0, .int .i64 0], .bool false]) (by simp [results, Try.results15, go_sem, e0, e1, e2, e3, e4]) rfl ⟨.slice none 0 0, rfl, World.ownsRow_nil _ _ _ _, BF⟩
  rw [chkL_yes hbag] at CK
  have SR2 := Lib.hid (SR.out hbag)
  have HF3 := Lib.hid (HF1.out hbag)
  have HF4 := Lib.hid (HF2.out hbag)
  have HPL2 := Lib.hid (HPL.out hbag)
  clear HF0 HF1 HF2 SR HPL hbag
  go_enter Try.func15, Try.ntmps15
  go_wp2_with fail
  refine (CK.out _ BL.out).mono ?_
  rintro e w1 ⟨rfl, b1⟩
  have B1 := Lib.hid (bt BL.out b1)
  have X1 := Lib.hid (blk_below b1 XO.out)
  have I1 := Lib.hid (blk_below b1 XI.out)
  have S1 := Lib.hid (SZ.out _ b1)
  clear b1 BL XO XI CK SZ
  obtain ⟨z0, z1⟩ : w1.cell? ⟨w.heap.size, 0, none⟩ = some (.int .u32 (ta : Int)) ∧ w1.cell? ⟨w.heap.size, 1, none⟩ = some (.int .u8 (ra : Int)) := ⟨cell_of_row _ _ 0 _ _ _ I1.out, cell_of_row _ _ 1 _ _ _ I1.out⟩
  go_wp2_with fail
  refine (SR2.out _ B1.out).mono ?_
  rintro e w2 ⟨kk, rfl, hk, b2⟩
  have B2 := Lib.hid (bt B1.out b2)
  have X2 := Lib.hid (blk_below b2 X1.out)
  have HK := Lib.hid hk
  have S2 : Hid (w.heap.size + 2 ≤ w2.heap.size) := Nat.le_trans S1.out b2.size
  clear b2 hk B1 X1 I1 z0 z1 SR2 S1
  cases q
  · obtain rfl := HF3.out rfl
    clear HF3 HF4 HPL2
    obtain ⟨x0, x1, x2, x3, x4⟩ := cells5 X2.out
    have f0 : ∀ o, w2.frozen? ⟨w.heap.size + 1, o, none⟩ = false := fun o => free5 X2.out o
    go_wp2_with fail
    obtain ⟨WF, hWF⟩ : ∃ WF, WF = put5 w2 (w.heap.size + 1) (.int .u8 0) (.int .u32 0) (.int .u8 0) (.slice none 0 0) (.int .i64 0) := ⟨_, rfl⟩
    have HF := put5_same (.int .u8 0) (.int .u32 0) (.int .u8 0) (.slice none 0 0) (.int .i64 0) X2.out
    have BF := put5_below (.int .u8 0) (.int .u32 0) (.int .u8 0) (.slice none 0 0) (.int .i64 0) (show w.heap.size ≤ w.heap.size + 1 by omega) B2.out
    rw [← hWF] at HF BF
    unfold put5 at hWF
    rw [← hWF]
    obtain ⟨e0, e1, e2, e3, e4⟩ := cells5 HF
    exact bodyPost_ret (v := .tuple #[.agg #[.int .u8 0, .int .u32 0, .int .u8 0, .slice none 0 0, .int .i64 0], .bool false]) (by simp [results, Try.results15, go_sem, e0, e1, e2, e3, e4]) rfl ⟨.slice none 0 0, rfl, World.ownsRow_nil _ _ _ _, BF⟩
  obtain ⟨hkl, hRx⟩ := HF4.out rfl kk HK.out
  have HRX := Lib.hid hRx
  have hpx := HPL2.out kk hkl
  have q4 : (0 : Int) ≤ (kk : Int) := by omega
  have q5 : (kk : Int) < (n : Int) := by have := HN.out; omega
  obtain ⟨bb, oo, u, e, hbb, hru, h0, h1, h2, h3, h4⟩ := opl_at (HV.out w2 B2.out) kk hkl
  subst e
  obtain ⟨x, hx⟩ : ∃ x, x = l[kk]'hkl := ⟨_, rfl⟩
  rw [← hx] at hru h0 h1 h2 h4
  have HO : Hid (∀ v : Value, opv x v = .agg #[.int .u8 (x.k : Int), .int .u32 (x.t : Int), .int .u8 (x.r : Int), v, .int .i64 x.p]) := fun v => rfl
  obtain ⟨uo, uc, rfl⟩ := hru.shape
  obtain ⟨nu, hnu⟩ : ∃ n, n = x.pl.length := ⟨_, rfl⟩
  have HNU := Lib.hid hnu
  rw [← hnu] at hru h3
  clear hnu
  rw [← hx] at hRx hpx
  have HRX := Lib.hid hRx
  have TW : Hid (Calls Try.prog 25 #[opv x (.slice uo nu uc)] w2 fun e w' => ∃ ao cap, e = .returned (opv x (.slice ao nu cap)) ∧ w'.ownsRow (w.heap.size + 2) 50 3 (.slice ao nu cap) x.pl.length (runs x.pl) ∧ Below w2.heap.size w2 w') := by
    refine (oTwin_any hru hpx).mono ?_
    rintro e w' ⟨v', rfl, ho, hb⟩
    obtain ⟨ao', cap', rfl⟩ : ∃ ao cap, v' = .slice ao x.pl.length cap := Sees.shape (Sees.own ho)
    rw [← HNU.out] at ho ⊢
    exact ⟨ao', cap', rfl, op_base ho S2.out, hb⟩
  clear hx hru hpx hRx HF3 HF4 HPL2
  obtain ⟨k, hk⟩ : ∃ z, x.k = z := ⟨_, rfl⟩
  obtain ⟨t, ht⟩ : ∃ z, x.t = z := ⟨_, rfl⟩
  obtain ⟨r, hr⟩ : ∃ z, x.r = z := ⟨_, rfl⟩
  obtain ⟨p, hp⟩ : ∃ z, x.p = z := ⟨_, rfl⟩
  rw [hk, ht, hr, hp] at HO
  rw [hk] at h0
  rw [ht] at h1
  rw [hr] at h2
  rw [hp] at h4
  simp only [HO.out] at TW
  clear hk ht hr hp
  go_wp2_with fail
  refine TW.out.mono ?_
  rintro e w5 ⟨a5, c5, rfl, o5, b5⟩
  have B5 := Lib.hid (bt B2.out b5)
  have X5 := Lib.hid (blk_below b5 X2.out)
  have O5 := Lib.hid o5
  clear o5 b5 h0 h1 h2 h3 h4 TW
  obtain ⟨x0, x1, x2, x3, x4⟩ := cells5 X5.out
  have f0 : ∀ o, w5.frozen? ⟨w.heap.size + 1, o, none⟩ = false := fun o => free5 X5.out o
  go_wp2_with fail
  obtain ⟨WF, hWF⟩ : ∃ WF, WF = put5 w5 (w.heap.size + 1) (.int .u8 (k : Int)) (.int .u32 (t : Int)) (.int .u8 (r : Int)) (.slice a5 nu c5) (.int .i64 p) := ⟨_, rfl⟩
  have HF := put5_same (.int .u8 (k : Int)) (.int .u32 (t : Int)) (.int .u8 (r : Int)) (.slice a5 nu c5) (.int .i64 p) X5.out
  have BF := put5_below (.int .u8 (k : Int)) (.int .u32 (t : Int)) (.int .u8 (r : Int)) (.slice a5 nu c5) (.int .i64 p) (show w.heap.size ≤ w.heap.size + 1 by omega) B5.out
  have OW := put5_own (.int .u8 (k : Int)) (.int .u32 (t : Int)) (.int .u8 (r : Int)) (.slice a5 nu c5) (.int .i64 p) O5.out (show w.heap.size + 1 < w.heap.size + 2 by omega)
  rw [← hWF] at HF BF OW
  unfold put5 at hWF
  rw [← hWF]
  obtain ⟨e0, e1, e2, e3, e4⟩ := cells5 HF
  refine bodyPost_ret (v := .tuple #[.agg #[.int .u8 (k : Int), .int .u32 (t : Int), .int .u8 (r : Int), .slice a5 nu c5, .int .i64 p], .bool true]) (by simp [results, Try.results15, go_sem, e0, e1, e2, e3, e4]) rfl ⟨.slice a5 nu c5, ?_, ?_, BF⟩
  · rw [HRX.out]
    show _ = Ending.returned (.tuple #[opv x _, .bool true])
    rw [HO.out]
  · rw [HRX.out]
    show World.ownsRow _ _ _ _ _ x.pl.length (runs x.pl)
    exact op_base OW (by omega)
end Go.Proofs.Ytpgdnenkjommfaa.Bags

/- octavo/bag: what each call answers (bCheck_any, bSame_any, bTwin_any, bIds_any, bAdd_any, bJoin_any, bLess_any, bFind_any): gathered. Conditions: none. -/


/- A map from stamps to nothing, as a set of stamps. Conditions: none. -/
namespace Go.Proofs.Ytpgdnenkjommfaa
open Go.RowKit Go.WideShapes
open Go.Maps (Keyed IsMap)

theorem laidOut : laidOutB Try.prog = true := by kernel_rfl
theorem idRow : (24 : TypeId) < Try.prog.types.size := of_decide_eq_true (by kernel_rfl)
theorem idWide : (match Try.prog.underlying 24 with | some (.array _ _) | some (.struct _) => true | _ => false) = true := by rw [Try.underlying24]
set_option maxRecDepth 100000 in
theorem idLaw : Keyed Try.prog 24 := Keyed.of_law (deep_law_laid laidOut (m := 2) (by omega) idRow (by kernel_rfl) idWide)
theorem idType : Try.prog.keyType 24 = true := by kernel_rfl
theorem idCells : Try.prog.cellsOf 24 = 2 := by kernel_rfl
theorem idCell0 : Try.prog.cellsOf 22 = 1 := by kernel_rfl
theorem idCell1 : Try.prog.cellsOf 5 = 1 := by kernel_rfl
theorem idKey_some (a : Id) : ∃ l, keyOf Try.prog 24 (idv a) = some l := by
  obtain ⟨n, hn⟩ : ∃ n, Try.prog.types.size = n + 1 := by
    have h := idRow
    generalize Try.prog.types.size = s at h ⊢
    cases s with
    | zero => exact absurd h (Nat.not_lt_zero _)
    | succ n => exact ⟨n, rfl⟩
  have w0 : (Lit.int .u32 (a.t : Int)).wf = true := by
    have h1 : IntKind.u32.min = 0 := by decide
    have h2 : IntKind.u32.max = 4294967295 := by decide
    have := a.ht
    simp [Lit.wf, h1, h2]
    omega
  have w1 : (Lit.int .u8 (a.r : Int)).wf = true := by
    have h1 : IntKind.u8.min = 0 := by decide
    have h2 : IntKind.u8.max = 255 := by decide
    have := a.hr
    simp [Lit.wf, h1, h2]
    omega
  unfold keyOf idv
  rw [Try.underlying24, idType, hn]
  simp [Value.formed, Program.keyLits, Try.underlying24, Try.underlying22, Try.underlying5, idCells, idCell0, idCell1, w0, w1, Value.cells]
/-- A stamp as a key. -/
noncomputable def key (a : Id) : Lit := (keyOf Try.prog 24 (idv a)).getD (.bool true)
theorem key_of (a : Id) : keyOf Try.prog 24 (idv a) = some (key a) := by
  obtain ⟨l, hl⟩ := idKey_some a
  unfold key
  rw [hl]
  rfl
theorem key_inj {a b : Id} (h : key a = key b) : a = b := by
  have h1 := key_of a
  rw [h] at h1
  have := idLaw.inj h1 (key_of b)
  unfold idv at this
  simp at this
  exact Id.ext' (by omega) (by omega)
/-- Block b is a map with just these stamps. -/
def SetI (w : World) (b n : Nat) (S : Id → Bool) : Prop := ∃ D : DataW Value, w.ownsMap Try.prog 24 unitElem b n D ∧ ∀ a : Id, Maps.has D (key a) = S a
theorem SetI.made (w : World) : SetI (w.alloc (.map #[] 0)) w.heap.size 0 (fun _ => false) := ⟨_, World.ownsMap_made w _ _ _, fun _ => rfl⟩
theorem SetI.keeps {w w' : World} {b n : Nat} {S : Id → Bool} (h : SetI w b n S) (hb : Below w.heap.size w w') : SetI w' b n S := by
  obtain ⟨D, ⟨es, clock, h1, h2, h3, h4⟩, h5⟩ := h
  exact ⟨D, ⟨es, clock, (hb.block b (Array.getElem?_eq_some_iff.1 h1).1).trans h1, h2, h3, h4⟩, h5⟩
theorem SetI.lt {w : World} {b n : Nat} {S : Id → Bool} (h : SetI w b n S) : b < w.heap.size := by
  obtain ⟨D, h1, _⟩ := h
  exact h1.lt
theorem SetI.kept {w w' : World} {b n : Nat} {S : Id → Bool} {row : Option Nat} (h : SetI w b n S) (hg : w.grownBy w' row) (hne : some b ≠ row) : SetI w' b n S := by
  obtain ⟨D, h1, h2⟩ := h
  exact ⟨D, h1.kept hg hne, h2⟩
theorem SetI.ext {w : World} {b n : Nat} {S T : Id → Bool} (h : SetI w b n S) (e : ∀ a, S a = T a) : SetI w b n T := by
  obtain ⟨D, h1, h2⟩ := h
  exact ⟨D, h1, fun a => (h2 a).trans (e a)⟩
set_option maxRecDepth 100000 in
/-- A store of one more, at the operation. -/
theorem wpList_put_set (w : World) {ops : Array Oper} {rest : List Oper} {o : Oper} {a : Act} {Q : Exit → Act → World → Prop}
    (hg : o.guard = none) (m x v : Operand) (t e : TypeId) (hop : o.op = Op.mapUpdate t m x v) (ht : Try.prog.underlying t = some (.map 24 e))
    (b n : Nat) (i : Id) (S : Id → Bool) (hM : SetI w b n S) (hn : n < 9223372036854775807) (hm : a.eval m = .map (some b)) (hx : a.eval x = .agg #[.int .u32 (i.t : Int), .int .u8 (i.r : Int)]) (hv : a.eval v = .agg #[])
    (hK : ∀ w', SetI w' b (n + 1) (fun k => decide (k = i) || S k) → w.grownBy w' (some b) → wpList Try.prog ops Q rest (a.put o.dst undef) w') : wpList Try.prog ops Q (o :: rest) a w := by
  obtain ⟨D, h1, h2⟩ := hM
  refine wpList_mapUpdate_own w hg m x v t hop 24 e idLaw ht unitElem b n D hm h1 (by unfold maxLen; omega) (idv i) (.agg #[]) (key i) hx hv (key_of i) (.agg []) [] unitElem_mk (fun w' h g => hK w' ⟨_, h, fun k => ?_⟩ g)
  by_cases hk : k = i
  · subst hk
    rw [Maps.has_put_same h1.isMap (idLaw.key (key_of k))]
    simp
  · rw [Maps.has_put_other (fun e => hk (key_inj e)), h2 k]
    simp [hk]
set_option maxRecDepth 100000 in
/-- A look-up with 'is it there', at a step of a drawn region. -/
theorem step_look_set {w : World} {ops : Array Oper} {o : Oper} {a : Act} {K : Act → World → Prop} {Q : Exit → Act → World → Prop} {E : Prop} (hgd : o.guard = none) (m x : Operand) (t e : TypeId) (hop : o.op = Op.lookup t m x true)
    (ht : Try.prog.underlying t = some (.map 24 e)) (hz : (zeroValue e).run Try.prog w = .ok (.agg #[]) w)
    (b n : Nat) (i : Id) (S : Id → Bool) (hM : SetI w b n S) (hm : a.eval m = .map (some b)) (hx : a.eval x = .agg #[.int .u32 (i.t : Int), .int .u8 (i.r : Int)])
    (hK : K (a.put o.dst (.tuple #[.agg #[], .bool (S i)])) w) : if Region.wanted o (yielded ops a.tmps) = true then Oper.wp Try.prog o a w K Q else E := by
  have hw : Region.wanted o (yielded ops a.tmps) = true := by simp [Region.wanted, hgd]
  rw [if_pos hw]
  obtain ⟨D, h1, h2⟩ := hM
  obtain ⟨v, ps, hrun, hv⟩ := h1.look_ok idLaw ht hz unitElem_mk (key_of i)
  obtain ⟨rfl, _⟩ := unitElem_inv hv
  rw [h2 i] at hrun
  unfold idv at hrun
  unfold Oper.wp
  simp [execOp, hop, hm, hx, hrun, Result.andThen]
  exact hK
theorem del_size {w : World} {b n : Nat} {D : DataW Value} (h : w.ownsMap Try.prog 24 unitElem b n D) (i : Id) : decide (Maps.size (D.del (key i)) < Maps.size D) = Maps.has D (key i) := by
  have e := Maps.size_del (h.tidy idLaw) (k := key i)
  cases hh : Maps.has D (key i) <;> rw [hh] at e <;> simp at e
  · exact decide_eq_false (by omega)
  · exact decide_eq_true (by omega)
theorem del_has {D : DataW Value} {S : Id → Bool} (h : ∀ a : Id, Maps.has D (key a) = S a) (i : Id) : ∀ a : Id, Maps.has (D.del (key i)) (key a) = (S a && !decide (a = i)) := fun a => by
  by_cases e : a = i
  · subst e
    rw [Maps.has_del_same]
    simp
  · rw [Maps.has_del_other (fun k => e (key_inj k)), h a]
    simp [e]
end Go.Proofs.Ytpgdnenkjommfaa

/- octavo/marks.joinedIn, takeOut: what each answers. Conditions: operations that may be, not more than a bag's. -/
namespace Go.Proofs.Ytpgdnenkjommfaa.Marks
open Go.RowKit Go.WideShapes Stamp Go.Proofs.Ytpgdnenkjommfaa.Place Ops Codes Bags
attribute [local go_sem ↓] Go.wp_at_zero Go.wp_at_succ

theorem ended_snoc (l : List Opn) (x : Opn) (a : Id) : ended (l ++ [x]) a = (ended l a || (decide (x.k = 4) && decide (tgt x = a))) := by
  unfold ended
  rw [List.any_append]
  simp

set_option maxRecDepth 100000 in
set_option maxHeartbeats 4000000 in
theorem joinedIn_any {v : Value} {l : List Opn} {w : World} (hv : OpL w v l) (hm : ∀ o ∈ l, mayO o = true) (hl : l.length ≤ 1024) :
    Calls Try.prog 23 #[v] w fun e w' => e = .returned (.map (some w.heap.size)) ∧ SetI w' w.heap.size l.length (ended l) ∧ Below w.heap.size w w' := by
  obtain ⟨ao, cap, rfl⟩ := hv.shape
  obtain ⟨n, hn⟩ : ∃ n, n = l.length := ⟨_, rfl⟩
  have HV : Hid (∀ W : World, Below w.heap.size w W → OpL W (.slice ao l.length cap) l) := fun W h => hv.keeps h
  have HN := Lib.hid hn
  have HMY := Lib.hid hm
  rw [← hn] at hl ⊢
  have hmm := @run_makeMap Try.prog
  have S0 : Hid (SetI (w.alloc (.map #[] 0)) w.heap.size 0 (ended (l.take 0))) := (SetI.made w).ext (fun a => by rw [List.take_zero]; rfl)
  have B0 := Lib.hid ((Below.refl w.heap.size w).alloc (Nat.le_refl _) (.map #[] 0))
  clear hv hn hm
  go_enter Try.func23, Try.ntmps23
  go_wp2
  go_loopw [9] (fun i wr => ∃ j : Nat, j ≤ n ∧ i = .int .i64 (j : Int) ∧ Hid (SetI wr w.heap.size j (ended (l.take j))) ∧ Hid (Below w.heap.size w wr)) (fun i _ => n - (intOf i).toNat)
  case atStart => exact ⟨0, by omega, rfl, S0, B0⟩
  case round =>
    clear S0 B0
    obtain ⟨j, hj, rfl, hset, hbel⟩ := hrel
    by_cases hjn : j < n
    rotate_left
    · have q3 : decide (j < n) = false := by simpa using hjn
      have hkk : l.take j = l := List.take_of_length_le (by have := HN.out; omega)
      rw [hkk] at hset
      obtain rfl : j = n := by omega
      clear hkk
      go_wp2
      go_ret
      exact ⟨rfl, hset.out, hbel.out⟩
    have q3 : decide (j < n) = true := by simpa using hjn
    have q4 : (0 : Int) ≤ (j : Int) := by omega
    have q5 : (j : Int) < (n : Int) := by omega
    have hjl : j < l.length := by rw [← HN.out]; exact hjn
    obtain ⟨bb, oo, u, e, hbb, hru, h0, h1, h2, h3, h4⟩ := opl_at (HV.out wr hbel.out) j hjl
    subst e
    obtain ⟨x, hx⟩ : ∃ x, x = l[j]'hjl := ⟨_, rfl⟩
    rw [← hx] at hru h0 h1 h2 h4
    have hxm : x ∈ l := by rw [hx]; exact List.getElem_mem _
    have MX := HMY.out x hxm
    have hsn : ∀ a, ended (l.take (j + 1)) a = (ended (l.take j) a || (decide (x.k = 4) && decide (tgt x = a))) := fun a => by rw [List.take_succ_eq_append_getElem hjl, ended_snoc, hx]
    have HSN := Lib.hid hsn
    have hc := tgt_cells MX
    have LS : Hid (∀ W : World, Below wr.heap.size wr W → Calls Try.prog 18 #[u] W fun e w' => e = .returned (.agg #[.int .u32 ((tgt x).t : Int), .int .u8 ((tgt x).r : Int)]) ∧ Below W.heap.size W w') := fun W h => by
      rw [hc.1, hc.2]
      exact pLast_any (hru.keeps h)
    obtain ⟨g, hg⟩ : ∃ g, tgt x = g := ⟨_, rfl⟩
    rw [hg] at LS HSN
    obtain ⟨T, R, hT, hR⟩ := g
    simp only at LS
    obtain ⟨uo, uc, rfl⟩ := hru.shape
    obtain ⟨nu, hnu⟩ : ∃ n, n = x.pl.length := ⟨_, rfl⟩
    rw [← hnu] at h3 LS
    obtain ⟨k, hk⟩ : ∃ z, x.k = z := ⟨_, rfl⟩
    obtain ⟨t, ht⟩ : ∃ z, x.t = z := ⟨_, rfl⟩
    obtain ⟨r, hr⟩ : ∃ z, x.r = z := ⟨_, rfl⟩
    obtain ⟨p, hp⟩ : ∃ z, x.p = z := ⟨_, rfl⟩
    rw [hk] at h0 HSN
    rw [ht] at h1
    rw [hr] at h2
    rw [hp] at h4
    have BL : Hid (Below wr.heap.size wr (wr.alloc (.cells #[.int .u8 (k : Int), .int .u32 (t : Int), .int .u8 (r : Int), .slice uo nu uc, .int .i64 p] 27))) := (Below.refl _ _).alloc (Nat.le_refl _) _
    have SL := Lib.hid (hset.out.keeps BL.out)
    have BW := Lib.hid (bt hbel.out BL.out)
    clear hru hx hxm MX hc hg hnu hk ht hr hp hsn hset
    by_cases hk4 : k = 4
    rotate_left
    · have qk : ((k : Int) == 4) = false := by simp; omega
      have qk2 : decide ((k : Int) = 4) = false := decide_eq_false (by omega)
      have S6 : Hid (SetI (wr.alloc (.cells #[.int .u8 (k : Int), .int .u32 (t : Int), .int .u8 (r : Int), .slice uo nu uc, .int .i64 p] 27)) w.heap.size (j + 1) (ended (l.take (j + 1)))) := by
        obtain ⟨D, d1, d2⟩ := SL.out
        exact ⟨D, d1.mono (Nat.le_succ _), fun a => by rw [d2 a, HSN.out a, decide_eq_false hk4]; simp⟩
      clear SL LS hk4 HSN
      go_wp2
      go_roundw
      case rel => exact ⟨j + 1, by omega, by go_num, S6, BW⟩
      case measure => simp [intOf]; omega
    · subst hk4
      have qk : ((((4 : Nat) : Int)) == 4) = true := by rfl
      go_wp2_with fail
      refine (LS.out _ BL.out).mono ?_
      rintro e w2 ⟨rfl, b2⟩
      have S2 := Lib.hid (SL.out.keeps b2)
      have B2 := Lib.hid (bt BW.out b2)
      clear b2 SL BW
      go_wp2_with (at_mapUpdate; refine wpList_put_set _ rfl _ _ _ 55 61 rfl Try.underlying55 w.heap.size j ⟨T, R, hT, hR⟩ (ended (l.take j)) S2.out (by omega) rfl rfl rfl ?_)
      intro w3 s3 g3
      have S3 : Hid (SetI w3 w.heap.size (j + 1) (ended (l.take (j + 1)))) := s3.ext (fun a => by
        rw [HSN.out a, Bool.or_comm]
        simp [eq_comm])
      have B3 : Hid (Below w.heap.size w w3) := B2.out.grown g3 B2.out.size (fun i e => by cases e; exact Nat.le_refl _)
      clear s3 g3 S2 B2 LS BL
      go_wp2
      go_roundw
      case rel => exact ⟨j + 1, by omega, by go_num, S3, B3⟩
      case measure => simp [intOf]; omega

set_option maxRecDepth 100000 in
set_option maxHeartbeats 4000000 in
theorem takeOut_any {b n : Nat} {S : Id → Bool} (i : Id) {w : World} (hs : SetI w b n S) :
    Calls Try.prog 24 #[.map (some b), .agg #[.int .u32 (i.t : Int), .int .u8 (i.r : Int)]] w fun e w' => e = .returned (.bool (S i)) ∧ SetI w' b n (fun a => S a && !decide (a = i)) ∧ w.grownBy w' (some b) := by
  obtain ⟨D, d1, d2⟩ := hs
  have D1 : Hid ((w.alloc (.cells #[.int .u32 (i.t : Int), .int .u8 (i.r : Int)] 24)).ownsMap Try.prog 24 unitElem b n D) := d1.alloc _
  have G1 : Hid (w.grownBy (w.alloc (.cells #[.int .u32 (i.t : Int), .int .u8 (i.r : Int)] 24)) none) := World.grownBy_alloc _ _ _
  have h := del_size d1 i
  rw [d2 i] at h
  obtain ⟨m1, hm1⟩ : ∃ z, Maps.size D = z := ⟨_, rfl⟩
  obtain ⟨m2, hm2⟩ : ∃ z, Maps.size (D.del (key i)) = z := ⟨_, rfl⟩
  rw [hm1, hm2] at h
  have HM1 := Lib.hid hm1
  have HM2 := Lib.hid hm2
  obtain ⟨q, hq⟩ : ∃ q, S i = q := ⟨_, rfl⟩
  rw [hq] at h ⊢
  have h' : decide ((m2 : Int) < (m1 : Int)) = q := by rw [← h]; exact decide_eq_decide.2 (by omega)
  have HD : Hid (∀ a : Id, Maps.has (D.del (key i)) (key a) = (S a && !decide (a = i))) := del_has d2 i
  clear d1 d2 hm1 hm2 hq
  obtain ⟨w3, hrun, d3, t3⟩ := D1.out.drop idLaw Try.underlying55 (key_of i) 0
  unfold idv at hrun
  have D3 := Lib.hid d3
  have G3 := Lib.hid t3.grown
  clear d3 t3
  have hl1 := D1.out.len Try.underlying55 3
  rw [HM1.out] at hl1
  have hl3 := D3.out.len Try.underlying55 3
  rw [HM2.out] at hl3
  go_enter Try.func24, Try.ntmps24
  go_wp2
  go_ret
  exact ⟨rfl, ⟨_, D3.out, HD.out⟩, ⟨G3.out.os.trans G1.out.os, G3.out.tape.trans G1.out.tape, G3.out.output.trans G1.out.output, Nat.le_trans G1.out.size G3.out.size, fun k hk hne => (G3.out.block k (Nat.lt_of_lt_of_le hk G1.out.size) hne).trans (G1.out.block k hk (by simp))⟩⟩
end Go.Proofs.Ytpgdnenkjommfaa.Marks
