/- octavo/bag.Add: what it answers. Conditions: the slice's cells are operations, the place's are runs. -/
import Derived.Deep.DrawnRows
import Derived.Deep.RegionHeld3
import Derived.Scope
import Derived.Test.YtdgcokknaampdaaPk15
import Derived.Test.YtdgcokknaampdaaPk18
import Derived.Test.YtdgcokknaampdaaPk17
import Derived.Test.YtdgcokknaampdaaPk09
import Derived.Test.YtdgcokknaampdaaPk11
import Derived.Test.YtdgcokknaampdaaPk02
import Derived.Test.YtdgcokknaampdaaPk16

namespace Go.Proofs.Ytdgcokknaampdaa.Bags
open Go.RowKit Go.WideShapes Stamp Go.Proofs.Ytdgcokknaampdaa.Place Ops Codes
attribute [local go_sem ↓] Go.wp_at_zero Go.wp_at_succ

theorem alloc_bo {wl W : World} (h : Below wl.heap.size wl W) (o : Obj) : Below wl.heap.size wl (W.alloc o) := h.alloc h.size o

set_option maxRecDepth 100000 in
set_option maxHeartbeats 16000000 in
theorem bAdd_any {v u0 : Value} {l : List Opn} {o : Opn} {w : World} (hv : OpL w v l) (hu : Runs w u0 o.pl) :
    Calls Try.prog 24 #[v, opv o u0] w (DoneN (addL l o) (addE l o) w) := by
  have CK : Hid (∀ W : World, Below w.heap.size w W → Calls Try.prog 50 #[v] W fun e w' => e = .returned (.int .i64 (chkL l)) ∧ Below W.heap.size W w') := fun W h => bCheck_any (hv.keeps h)
  have SR : Hid (Bag l → ∀ W : World, Below w.heap.size w W → Calls Try.prog 52 #[v, .agg #[.int .u32 (o.t : Int), .int .u8 (o.r : Int)]] W fun e w' => ∃ k : Nat, e = .returned (.tuple #[.int .i64 (k : Int), .bool (hasO l (idO o))]) ∧ Pos l (idO o) k ∧ Below W.heap.size W w') := fun hb W h => bSearch_any (idO o) (hv.keeps h) (by have := hb.1; omega) hb.2.2
  have TWL : Hid (Bag l → ∀ (WB W : World), WB.heap.size ≤ W.heap.size → Below w.heap.size w W → Calls Try.prog 53 #[v] W fun e w' => ∃ G, e = .returned (.slice (some ⟨G, 0, none⟩) l.length l.length) ∧ OwnL w' WB.heap.size (.slice (some ⟨G, 0, none⟩) l.length l.length) l ∧ Below W.heap.size W w') := fun hb WB W h1 h2 => by
    refine (bTwinX_any (hv.keeps h2) (by have := hb.1; omega) (bag_fits hb).2).mono ?_
    rintro e w' ⟨rfl, ho, hb⟩
    exact ⟨_, rfl, ho.base h1, hb⟩
  obtain ⟨uo, uc, rfl⟩ := hu.shape
  obtain ⟨nu, hnu⟩ : ∃ n, n = o.pl.length := ⟨_, rfl⟩
  have OC : Hid (∀ W : World, Below w.heap.size w W → Calls Try.prog 51 #[opv o (.slice uo o.pl.length uc)] W fun e w' => e = .returned (.int .i64 (chkO o)) ∧ Below W.heap.size W w') := fun W h => oCheck_any (hu.keeps h)
  have TWO : Hid (mayO o = true → ∀ (WB W : World), WB.heap.size ≤ W.heap.size → Below w.heap.size w W → Calls Try.prog 55 #[opv o (.slice uo o.pl.length uc)] W fun e w' => ∃ ao cap, e = .returned (opv o (.slice ao o.pl.length cap)) ∧ w'.ownsRow WB.heap.size 35 3 (.slice ao o.pl.length cap) o.pl.length (runs o.pl) ∧ Below W.heap.size W w') := fun hm WB W h1 h2 => by
    refine (oTwin_any (hu.keeps h2) (by have := mayO_fits hm; omega)).mono ?_
    rintro e w' ⟨v', rfl, ho, hb⟩
    obtain ⟨ao', cap', rfl⟩ : ∃ ao cap, v' = .slice ao o.pl.length cap := Sees.shape (Sees.own ho)
    exact ⟨ao', cap', rfl, op_base ho h1, hb⟩
  obtain ⟨ao, cap, rfl⟩ := hv.shape
  obtain ⟨n, hn⟩ : ∃ n, n = l.length := ⟨_, rfl⟩
  have HN := Lib.hid hn
  have INS : Hid (Bag l → ∀ (WB W9 X : World) (G V k : Nat) (a : Option Addr) (c : Nat), OwnL W9 WB.heap.size (.slice (some ⟨G, 0, none⟩) n n) l → Below W9.heap.size W9 X → X.heap[V]? = some (.cells #[.int .u8 (o.k : Int), .int .u32 (o.t : Int), .int .u8 (o.r : Int), .slice a o.pl.length c, .int .i64 o.p] 39) →
      X.ownsRow WB.heap.size 35 3 (.slice a o.pl.length c) o.pl.length (runs o.pl) → WB.heap.size ≤ X.heap.size → Pos l (idO o) k → hasO l (idO o) = false →
      Calls Try.prog 54 #[.slice (some ⟨G, 0, none⟩) n n, .int .i64 (k : Int), .slice (some ⟨V, 0, none⟩) 1 1] X fun e w' => ∃ v', e = .returned v' ∧ OwnL w' WB.heap.size v' (withO l o) ∧ Below WB.heap.size X w') := fun hb WB W9 X G V k a c h1 h2 h3 h4 h5 h6 h7 => by
    rw [pos_with h6 h7]
    exact bIns_any (h1.keeps h2) (by rw [hn]; exact h6.1) (by rw [hn]; exact hb.1) h3 h4 h5
  rw [← hn] at CK SR TWL ⊢
  rw [← hnu] at OC TWO INS ⊢
  have HO : Hid (∀ v : Value, opv o v = .agg #[.int .u8 (o.k : Int), .int .u32 (o.t : Int), .int .u8 (o.r : Int), v, .int .i64 o.p]) := fun v => rfl
  have AB : Hid (¬ (Bag l ∧ mayO o = true) → addL l o = [] ∧ addE l o = 8) := fun h => by
    have e : addE l o = 8 := by unfold addE; rw [if_pos (by rw [bagB_iff]; exact h)]
    exact ⟨by unfold addL; rw [e]; rfl, e⟩
  have AT : Hid (Bag l → mayO o = true → hasO l (idO o) = true → addL l o = l ∧ addE l o = 0) := fun h1 h2 h3 => by
    have e : addE l o = 0 := by unfold addE; rw [if_neg (by rw [bagB_iff]; exact fun h => h ⟨h1, h2⟩), if_neg (by rw [withO_len, if_pos h3]; have := h1.1; omega)]
    exact ⟨by unfold addL withO; rw [e, if_pos rfl, if_pos h3], e⟩
  have AF : Hid (Bag l → mayO o = true → hasO l (idO o) = false → n = 1024 → addL l o = [] ∧ addE l o = 9) := fun h1 h2 h3 h4 => by
    have e : addE l o = 9 := by unfold addE; rw [if_neg (by rw [bagB_iff]; exact fun h => h ⟨h1, h2⟩), if_pos (by rw [withO_len, if_neg (by rw [h3]; decide)]; omega)]
    exact ⟨by unfold addL; rw [e]; rfl, e⟩
  have AW : Hid (Bag l → mayO o = true → hasO l (idO o) = false → n ≠ 1024 → addL l o = withO l o ∧ addE l o = 0) := fun h1 h2 h3 h4 => by
    have e : addE l o = 0 := by unfold addE; rw [if_neg (by rw [bagB_iff]; exact fun h => h ⟨h1, h2⟩), if_neg (by rw [withO_len, if_neg (by rw [h3]; decide)]; have := h1.1; omega)]
    exact ⟨by unfold addL; rw [e, if_pos rfl], e⟩
  obtain ⟨RL, hRL⟩ : ∃ z, addL l o = z := ⟨_, rfl⟩
  obtain ⟨RE, hRE⟩ : ∃ z, addE l o = z := ⟨_, rfl⟩
  obtain ⟨RW, hRW⟩ : ∃ z, withO l o = z := ⟨_, rfl⟩
  rw [hRL, hRE] at AB AT AF AW ⊢
  rw [hRW] at AW INS
  obtain ⟨P, hP⟩ : ∃ P : Nat → Prop, P = Pos l (idO o) := ⟨_, rfl⟩
  have hPk : ∀ k, Pos l (idO o) k = P k := fun k => by rw [hP]
  simp only [hPk] at SR INS
  obtain ⟨q, hq⟩ : ∃ q, hasO l (idO o) = q := ⟨_, rfl⟩
  rw [hq] at SR INS AT AF AW
  unfold chkO at OC
  obtain ⟨my, hmy⟩ : ∃ b, mayO o = b := ⟨_, rfl⟩
  rw [hmy] at OC TWO AB AT AF AW
  clear hRL hRE hRW hP hPk hq hmy hv hu
  obtain ⟨L, hL⟩ : ∃ L, L = runs o.pl := ⟨_, rfl⟩
  rw [← hL] at TWO INS
  clear hnu hL
  obtain ⟨k0, hk0⟩ : ∃ z, o.k = z := ⟨_, rfl⟩
  obtain ⟨t0, ht0⟩ : ∃ z, o.t = z := ⟨_, rfl⟩
  obtain ⟨r0, hr0⟩ : ∃ z, o.r = z := ⟨_, rfl⟩
  obtain ⟨p0, hp0⟩ : ∃ z, o.p = z := ⟨_, rfl⟩
  rw [hk0, ht0, hr0, hp0] at HO INS
  rw [ht0, hr0] at SR
  simp only [HO.out] at OC TWO ⊢
  have BL : Hid (Below w.heap.size w (w.alloc (.cells #[.int .u8 (k0 : Int), .int .u32 (t0 : Int), .int .u8 (r0 : Int), .slice uo nu uc, .int .i64 p0] 39))) := (Below.refl _ _).alloc (Nat.le_refl _) _
  have CE : Hid (∀ W : World, Below (w.alloc (.cells #[.int .u8 (k0 : Int), .int .u32 (t0 : Int), .int .u8 (r0 : Int), .slice uo nu uc, .int .i64 p0] 39)).heap.size (w.alloc (.cells #[.int .u8 (k0 : Int), .int .u32 (t0 : Int), .int .u8 (r0 : Int), .slice uo nu uc, .int .i64 p0] 39)) W → W.cell? ⟨w.heap.size, 0, none⟩ = some (.int .u8 (k0 : Int)) ∧ W.cell? ⟨w.heap.size, 1, none⟩ = some (.int .u32 (t0 : Int)) ∧ W.cell? ⟨w.heap.size, 2, none⟩ = some (.int .u8 (r0 : Int)) ∧ W.cell? ⟨w.heap.size, 3, none⟩ = some (.slice uo nu uc) ∧ W.cell? ⟨w.heap.size, 4, none⟩ = some (.int .i64 p0)) := fun W h => five_cells h
  clear hn hk0 ht0 hr0 hp0 HO
  by_cases hbag : Bag l
  rotate_left
  · rw [chkL_no hbag] at CK
    obtain ⟨rfl, rfl⟩ := AB.out (fun h => hbag h.1)
    clear AB AT AF AW INS TWO TWL OC SR CE
    go_enter Try.func24, Try.ntmps24
    go_wp2_with fail
    refine (CK.out _ BL.out).mono ?_
    rintro e w1 ⟨rfl, b1⟩
    have B1 := Lib.hid (bt BL.out b1)
    clear b1
    go_wp2
    go_ret2
    exact ⟨_, rfl, OwnL.nil _ _, B1.out⟩
  rw [chkL_yes hbag] at CK
  cases my
  · obtain ⟨rfl, rfl⟩ := AB.out (fun h => by cases h.2)
    rw [if_neg (by simp)] at OC
    clear AB AT AF AW INS TWO TWL SR
    go_enter Try.func24, Try.ntmps24
    go_wp2_with fail
    refine (CK.out _ BL.out).mono ?_
    rintro e w1 ⟨rfl, b1⟩
    have B1 := Lib.hid (bt BL.out b1)
    obtain ⟨g0, g1, g2, g3, g4⟩ := CE.out _ b1
    clear b1 CE
    go_wp2_with fail
    refine (OC.out _ B1.out).mono ?_
    rintro e w2 ⟨rfl, b2⟩
    have B2 := Lib.hid (bt B1.out b2)
    clear b2
    go_wp2
    go_ret2
    exact ⟨_, rfl, OwnL.nil _ _, B2.out⟩
  rw [if_pos rfl] at OC
  have SR2 := Lib.hid (SR.out hbag)
  have TL2 := Lib.hid (TWL.out hbag)
  have TO2 := Lib.hid (TWO.out rfl)
  have IN2 := Lib.hid (INS.out hbag)
  have AT2 := Lib.hid (AT.out hbag rfl)
  have AF2 := Lib.hid (AF.out hbag rfl)
  have AW2 := Lib.hid (AW.out hbag rfl)
  have hnm : n ≤ 1024 := by rw [HN.out]; exact hbag.1
  clear AB AT AF AW INS TWO TWL SR hbag
  go_enter Try.func24, Try.ntmps24
  go_wp2_with fail
  refine (CK.out _ BL.out).mono ?_
  rintro e w1 ⟨rfl, b1⟩
  have B1 := Lib.hid (bt BL.out b1)
  have K1 := Lib.hid b1
  obtain ⟨g0, g1, g2, g3, g4⟩ := CE.out _ b1
  clear b1 CK
  go_wp2_with fail
  refine (OC.out _ B1.out).mono ?_
  rintro e w2 ⟨rfl, b2⟩
  have B2 := Lib.hid (bt B1.out b2)
  have K2 := Lib.hid (bt K1.out b2)
  clear b2 g0 g1 g2 g3 g4 OC K1
  obtain ⟨g0, g1, g2, g3, g4⟩ := CE.out _ K2.out
  go_wp2_with fail
  refine (SR2.out _ B2.out).mono ?_
  rintro e w3 ⟨k, rfl, hk, b3⟩
  have B3 := Lib.hid (bt B2.out b3)
  have K3 := Lib.hid (bt K2.out b3)
  have HK := Lib.hid hk
  clear b3 hk g0 g1 g2 g3 g4 SR2 K2 B2 B1
  cases q
  rotate_left
  · obtain ⟨rfl, rfl⟩ := AT2.out rfl
    clear AF2 AW2 IN2 TO2 CE K3
    go_wp2_with fail
    refine (TL2.out w w3 B3.out.size B3.out).mono ?_
    rintro e w4 ⟨G4, rfl, o4, b4⟩
    have B4 := Lib.hid (bt B3.out b4)
    have O4 := Lib.hid o4
    clear o4 b4
    go_wp2
    go_ret2
    exact ⟨_, rfl, O4.out, B4.out⟩
  by_cases hfull : n = 1024
  · have d1 : decide (n = 1024) = true := decide_eq_true hfull
    have d2 : ((n : Int) == 1024) = true := by simp; omega
    obtain ⟨rfl, rfl⟩ := AF2.out rfl hfull
    clear AT2 AW2 IN2 TO2 TL2 CE K3
    go_wp2
    go_ret2
    exact ⟨_, rfl, OwnL.nil _ _, B3.out⟩
  have d1 : decide (n = 1024) = false := decide_eq_false hfull
  have d2 : ((n : Int) == 1024) = false := by simp; omega
  obtain ⟨rfl, rfl⟩ := AW2.out rfl hfull
  have SK : Hid (∀ w' : World, Below w3.heap.size w3 w' → Below w3.heap.size w3 w' ∧ w'.cell? ⟨w.heap.size, 0, none⟩ = some (.int .u8 (k0 : Int)) ∧ w'.cell? ⟨w.heap.size, 1, none⟩ = some (.int .u32 (t0 : Int)) ∧ w'.cell? ⟨w.heap.size, 2, none⟩ = some (.int .u8 (r0 : Int)) ∧ w'.cell? ⟨w.heap.size, 3, none⟩ = some (.slice uo nu uc) ∧ w'.cell? ⟨w.heap.size, 4, none⟩ = some (.int .i64 p0)) := fun W h => ⟨h, CE.out W (bt K3.out h)⟩
  have TL3 : Hid (∀ W : World, Below w3.heap.size w3 W → Calls Try.prog 53 #[.slice ao n cap] W fun e w' => ∃ G, e = .returned (.slice (some ⟨G, 0, none⟩) n n) ∧ OwnL w' w3.heap.size (.slice (some ⟨G, 0, none⟩) n n) l ∧ Below w3.heap.size w3 w') := fun W h => by
    refine (TL2.out w3 W h.size (bt B3.out h)).mono ?_
    rintro e w' ⟨G, rfl, ho, hb⟩
    exact ⟨G, rfl, ho, bt h hb⟩
  have TO3 : Hid (∀ W : World, Below w3.heap.size w3 W → Calls Try.prog 55 #[.agg #[.int .u8 (k0 : Int), .int .u32 (t0 : Int), .int .u8 (r0 : Int), .slice uo nu uc, .int .i64 p0]] W fun e w' => ∃ ao cap, e = .returned (.agg #[.int .u8 (k0 : Int), .int .u32 (t0 : Int), .int .u8 (r0 : Int), .slice ao nu cap, .int .i64 p0]) ∧ w'.ownsRow w3.heap.size 35 3 (.slice ao nu cap) nu L ∧ Below w3.heap.size w3 w' ∧ Below W.heap.size W w') := fun W h => by
    refine (TO2.out w3 W h.size (bt B3.out h)).mono ?_
    rintro e w' ⟨ao, cap, rfl, ho, hb⟩
    exact ⟨ao, cap, rfl, ho, bt h hb, hb⟩
  have IN3 : Hid (∀ (W9 w10 : World) (G : Nat) (a : Option Addr) (c : Nat), OwnL W9 w3.heap.size (.slice (some ⟨G, 0, none⟩) n n) l → Below W9.heap.size W9 w10 → w10.ownsRow w3.heap.size 35 3 (.slice a nu c) nu L → Below w3.heap.size w3 w10 →
      Calls Try.prog 54 #[.slice (some ⟨G, 0, none⟩) n n, .int .i64 (k : Int), .slice (some ⟨w10.heap.size, 0, none⟩) 1 1] (w10.alloc (.cells #[.int .u8 (k0 : Int), .int .u32 (t0 : Int), .int .u8 (r0 : Int), .slice a nu c, .int .i64 p0] 39)) fun e w' => ∃ v', e = .returned v' ∧ OwnL w' w3.heap.size v' RL ∧ Below w3.heap.size w3 w') := fun W9 w10 G a c h1 h2 h3 h4 => by
    have bA : Below w10.heap.size w10 (w10.alloc (.cells #[.int .u8 (k0 : Int), .int .u32 (t0 : Int), .int .u8 (r0 : Int), .slice a nu c, .int .i64 p0] 39)) := (Below.refl _ _).alloc (Nat.le_refl _) _
    refine (IN2.out w3 W9 _ G w10.heap.size k a c h1 (bt h2 bA) (blk_new rfl) (own_stays h3 bA) (bt h4 bA).size HK.out rfl).mono ?_
    rintro e w' ⟨v', rfl, ho, hb⟩
    exact ⟨v', rfl, ho, (bt h4 bA).trans hb⟩
  clear AT2 AF2 AW2 IN2 TO2 TL2 CE K3
  go_wp2
  go_region_held3 (fun w' => Below w3.heap.size w3 w' ∧ w'.cell? ⟨w.heap.size, 0, none⟩ = some (.int .u8 (k0 : Int)) ∧ w'.cell? ⟨w.heap.size, 1, none⟩ = some (.int .u32 (t0 : Int)) ∧ w'.cell? ⟨w.heap.size, 2, none⟩ = some (.int .u8 (r0 : Int)) ∧ w'.cell? ⟨w.heap.size, 3, none⟩ = some (.slice uo nu uc) ∧ w'.cell? ⟨w.heap.size, 4, none⟩ = some (.int .i64 p0))
    (first | exact SK.out _ (drew1 _) | (go_split_ands; refine SK.out _ ?_; repeat' (first | assumption | (with_reducible refine Below.drew ?_) | (with_reducible refine below_draw ?_ _) | (with_reducible refine alloc_bo ?_ _) | fail)))
    ((first
      | (go_at_call 53; (with_reducible refine (TL3.out _ ?hw).mono ?_)
         case hw => go_split_ands; repeat' (first | assumption | (with_reducible refine Below.drew ?_) | (with_reducible refine below_draw ?_ _) | (with_reducible refine alloc_bo ?_ _) | fail)
         rintro e w9 ⟨G9, rfl, o9, b9⟩)
      | (go_at_call 55; (with_reducible refine (TO3.out _ ?hw).mono ?_)
         case hw => go_split_ands; repeat' (first | assumption | (with_reducible refine Below.drew ?_) | (with_reducible refine below_draw ?_ _) | (with_reducible refine alloc_bo ?_ _) | fail)
         rintro e w10 ⟨a10, c10, rfl, o10, b10, k10⟩)
      | (go_at_call 54; (with_reducible refine (IN3.out w9 w10 G9 a10 c10 o9 ?h1 o10 b10).mono ?_)
         case h1 => repeat' (first | assumption | (with_reducible refine Below.drew ?_) | (with_reducible refine below_draw ?_ _) | fail)
         rintro e w11 ⟨v11, rfl, o11, b11⟩)))
  have O11 : Hid (OwnL w11 w.heap.size v11 RL) := OwnL.base o11 B3.out.size
  have B11 := Lib.hid (bt B3.out b11)
  clear o11 b11 o10 b10 k10 o9 b9
  go_wp2
  go_ret2
  exact ⟨_, rfl, O11.out, B11.out⟩
end Go.Proofs.Ytdgcokknaampdaa.Bags

/- octavo/bag.joined: what it answers. Conditions: the slices' cells are operations, not more than two thousand in all. -/
namespace Go.Proofs.Ytdgcokknaampdaa.Bags
open Go.RowKit Go.WideShapes Stamp Go.Proofs.Ytdgcokknaampdaa.Place Ops Codes
attribute [local go_sem ↓] Go.wp_at_zero Go.wp_at_succ
attribute [local go_sem] yielded_undef

end Go.Proofs.Ytdgcokknaampdaa.Bags

/- octavo/bag.Join: what it answers. Conditions: the slices' cells are operations. -/
namespace Go.Proofs.Ytdgcokknaampdaa.Bags
open Go.RowKit Go.WideShapes Stamp Go.Proofs.Ytdgcokknaampdaa.Place Ops Codes
attribute [local go_sem ↓] Go.wp_at_zero Go.wp_at_succ

end Go.Proofs.Ytdgcokknaampdaa.Bags

/- octavo/clock: Has, Same, Count, Top with the library's ContainsFunc, IndexFunc, EqualFunc: what each answers. Conditions: the slices' cells are replicas' spans. -/
namespace Go.Proofs.Ytdgcokknaampdaa.Clocks
open Go.RowKit Go.Proofs.Ytdgcokknaampdaa.Spans
attribute [local go_sem ↓] Go.wp_at_zero Go.wp_at_succ

/-! ### Has -/
/-! ### Same -/
end Go.Proofs.Ytdgcokknaampdaa.Clocks

/- octavo/bag.Less: what it answers. Conditions: the slices' cells are operations, and replicas' spans. -/
namespace Go.Proofs.Ytdgcokknaampdaa.Bags
open Go.RowKit Go.WideShapes Stamp Go.Proofs.Ytdgcokknaampdaa.Place Ops Codes
attribute [local go_sem ↓] Go.wp_at_zero Go.wp_at_succ

end Go.Proofs.Ytdgcokknaampdaa.Bags

/- octavo/bag.Find: what it answers. Conditions: the slice's cells are operations. -/
namespace Go.Proofs.Ytdgcokknaampdaa.Bags
open Go.RowKit Go.WideShapes Stamp Go.Proofs.Ytdgcokknaampdaa.Place Ops Codes
attribute [local go_sem ↓] Go.wp_at_zero Go.wp_at_succ

theorem pos_has {l : List Opn} {a : Id} {k : Nat} (hp : l.Pairwise lessO) (h : Pos l a k) (hh : hasO l a = true) : ∃ hk : k < l.length, idO (l[k]'hk) = a := by
  by_cases hx : ∃ hk : k < l.length, idO (l[k]'hk) = a
  · exact hx
  · have := pos_none hp h (fun hk e => hx ⟨hk, e⟩)
    rw [hh] at this; cases this

set_option maxRecDepth 100000 in
set_option maxHeartbeats 8000000 in
theorem bFind_any {v : Value} {l : List Opn} (a : Id) {w : World} (hv : OpL w v l) :
    Calls Try.prog 25 #[v, .agg #[.int .u32 (a.t : Int), .int .u8 (a.r : Int)]] w (FoundN (findL l a) w) := by
  have CK : Hid (∀ W : World, Below w.heap.size w W → Calls Try.prog 50 #[v] W fun e w' => e = .returned (.int .i64 (chkL l)) ∧ Below W.heap.size W w') := fun W h => bCheck_any (hv.keeps h)
  have SR : Hid (Bag l → ∀ W : World, Below w.heap.size w W → Calls Try.prog 52 #[v, .agg #[.int .u32 (a.t : Int), .int .u8 (a.r : Int)]] W fun e w' => ∃ k : Nat, e = .returned (.tuple #[.int .i64 (k : Int), .bool (hasO l a)]) ∧ Pos l a k ∧ Below W.heap.size W w') := fun hb W h => bSearch_any a (hv.keeps h) (by have := hb.1; omega) hb.2.2
  obtain ⟨ao, cap, rfl⟩ := hv.shape
  obtain ⟨n, hn⟩ : ∃ n, n = l.length := ⟨_, rfl⟩
  have HV : Hid (∀ W : World, Below w.heap.size w W → OpL W (.slice ao l.length cap) l) := fun W h => hv.keeps h
  have HN := Lib.hid hn
  rw [← hn] at CK SR ⊢
  obtain ⟨R, hR⟩ : ∃ z, findL l a = z := ⟨_, rfl⟩
  have HR := Lib.hid hR
  obtain ⟨P, hP⟩ : ∃ P : Nat → Prop, P = Pos l a := ⟨_, rfl⟩
  have hPk : ∀ k, Pos l a k = P k := fun k => by rw [hP]
  have HF0 : Hid (¬ Bag l → R = none) := fun h => by rw [← hR]; unfold findL; rw [bagB_no h]; rfl
  have HF1 : Hid (Bag l → hasO l a = false → R = none) := fun h h2 => by
    rw [← hR]; unfold findL; rw [(bagB_iff l).2 h, if_pos rfl]
    unfold hasO at h2; cases hf : findO l a with
    | none => rfl
    | some x => rw [hf] at h2; cases h2
  have HF2 : Hid (Bag l → hasO l a = true → ∀ k, P k → ∃ hk : k < l.length, R = some (l[k]'hk)) := fun h h2 k hp => by
    rw [← hPk] at hp
    obtain ⟨hk, he⟩ := pos_has h.2.2 hp h2
    refine ⟨hk, ?_⟩
    rw [← hR]; unfold findL; rw [(bagB_iff l).2 h, if_pos rfl]
    exact pos_find h.2.2 hp hk he
  have HPL : Hid (Bag l → ∀ k (hk : k < l.length), (l[k]'hk).pl.length ≤ 8796093022208) := fun h k hk => (bag_fits h).2 _ (List.getElem_mem hk)
  simp only [hPk] at SR
  rw [hR]
  obtain ⟨q, hq⟩ : ∃ q, hasO l a = q := ⟨_, rfl⟩
  rw [hq] at SR HF1 HF2
  obtain ⟨ta, hta⟩ : ∃ z, a.t = z := ⟨_, rfl⟩
  obtain ⟨ra, hra⟩ : ∃ z, a.r = z := ⟨_, rfl⟩
  rw [hta, hra] at SR ⊢
  have BL : Hid (Below w.heap.size w ((w.alloc (.cells #[.int .u32 (ta : Int), .int .u8 (ra : Int)] 24)).alloc (.cells #[.int .u8 0, .int .u32 0, .int .u8 0, .slice none 0 0, .int .i64 0] 39))) := ((Below.refl _ _).alloc (Nat.le_refl _) _).alloc (by simp) _
  have XO : Hid (((w.alloc (.cells #[.int .u32 (ta : Int), .int .u8 (ra : Int)] 24)).alloc (.cells #[.int .u8 0, .int .u32 0, .int .u8 0, .slice none 0 0, .int .i64 0] 39)).heap[w.heap.size + 1]? = some (.cells #[.int .u8 0, .int .u32 0, .int .u8 0, .slice none 0 0, .int .i64 0] 39)) := blk_new (by simp)
  have XI : Hid (((w.alloc (.cells #[.int .u32 (ta : Int), .int .u8 (ra : Int)] 24)).alloc (.cells #[.int .u8 0, .int .u32 0, .int .u8 0, .slice none 0 0, .int .i64 0] 39)).heap[w.heap.size]? = some (.cells #[.int .u32 (ta : Int), .int .u8 (ra : Int)] 24)) := blk_old (blk_new rfl)
  have SZ : Hid (∀ W : World, Below ((w.alloc (.cells #[.int .u32 (ta : Int), .int .u8 (ra : Int)] 24)).alloc (.cells #[.int .u8 0, .int .u32 0, .int .u8 0, .slice none 0 0, .int .i64 0] 39)).heap.size ((w.alloc (.cells #[.int .u32 (ta : Int), .int .u8 (ra : Int)] 24)).alloc (.cells #[.int .u8 0, .int .u32 0, .int .u8 0, .slice none 0 0, .int .i64 0] 39)) W → w.heap.size + 2 ≤ W.heap.size) := fun W h => by have := h.size; simpa using this
  clear hv hR hq hP hPk hta hra hn
  by_cases hbag : Bag l
  rotate_left
  · rw [chkL_no hbag] at CK
    obtain rfl := HF0.out hbag
    clear HF0 HF1 HF2 SR HPL hbag
    go_enter Try.func25, Try.ntmps25
    go_wp2_with fail
    refine (CK.out _ BL.out).mono ?_
    rintro e w1 ⟨rfl, b1⟩
    have B1 := Lib.hid (bt BL.out b1)
    have X1 := Lib.hid (blk_below b1 XO.out)
    clear b1 BL XO XI CK
    obtain ⟨x0, x1, x2, x3, x4⟩ := cells5 X1.out
    have f0 : ∀ o, w1.frozen? ⟨w.heap.size + 1, o, none⟩ = false := fun o => free5 X1.out o
    go_wp2_with fail
    obtain ⟨WF, hWF⟩ : ∃ WF, WF = put5 w1 (w.heap.size + 1) (.int .u8 0) (.int .u32 0) (.int .u8 0) (.slice none 0 0) (.int .i64 0) := ⟨_, rfl⟩
    have HF := put5_same (.int .u8 0) (.int .u32 0) (.int .u8 0) (.slice none 0 0) (.int .i64 0) X1.out
    have BF := put5_below (.int .u8 0) (.int .u32 0) (.int .u8 0) (.slice none 0 0) (.int .i64 0) (show w.heap.size ≤ w.heap.size + 1 by omega) B1.out
    rw [← hWF] at HF BF
    unfold put5 at hWF
    rw [← hWF]
    obtain ⟨e0, e1, e2, e3, e4⟩ := cells5 HF
    exact bodyPost_ret (v := .tuple #[.agg #[.int .u8 0, .int .u32 0, .int .u8 0, .slice none 0 0, .int .i64 0], .bool false]) (by simp [results, Try.results25, go_sem, e0, e1, e2, e3, e4]) rfl ⟨.slice none 0 0, rfl, World.ownsRow_nil _ _ _ _, BF⟩
  rw [chkL_yes hbag] at CK
  have SR2 := Lib.hid (SR.out hbag)
  have HF3 := Lib.hid (HF1.out hbag)
  have HF4 := Lib.hid (HF2.out hbag)
  have HPL2 := Lib.hid (HPL.out hbag)
  clear HF0 HF1 HF2 SR HPL hbag
  go_enter Try.func25, Try.ntmps25
  go_wp2_with fail
  refine (CK.out _ BL.out).mono ?_
  rintro e w1 ⟨rfl, b1⟩
  have B1 := Lib.hid (bt BL.out b1)
  have X1 := Lib.hid (blk_below b1 XO.out)
  have I1 := Lib.hid (blk_below b1 XI.out)
  have S1 := Lib.hid (SZ.out _ b1)
  clear b1 BL XO XI CK SZ
  obtain ⟨z0, z1⟩ : w1.cell? ⟨w.heap.size, 0, none⟩ = some (.int .u32 (ta : Int)) ∧ w1.cell? ⟨w.heap.size, 1, none⟩ = some (.int .u8 (ra : Int)) := ⟨cell_of_row _ _ 0 _ _ _ I1.out, cell_of_row _ _ 1 _ _ _ I1.out⟩
  go_wp2_with fail
  refine (SR2.out _ B1.out).mono ?_
  rintro e w2 ⟨kk, rfl, hk, b2⟩
  have B2 := Lib.hid (bt B1.out b2)
  have X2 := Lib.hid (blk_below b2 X1.out)
  have HK := Lib.hid hk
  have S2 : Hid (w.heap.size + 2 ≤ w2.heap.size) := Nat.le_trans S1.out b2.size
  clear b2 hk B1 X1 I1 z0 z1 SR2 S1
  cases q
  · obtain rfl := HF3.out rfl
    clear HF3 HF4 HPL2
    obtain ⟨x0, x1, x2, x3, x4⟩ := cells5 X2.out
    have f0 : ∀ o, w2.frozen? ⟨w.heap.size + 1, o, none⟩ = false := fun o => free5 X2.out o
    go_wp2_with fail
    obtain ⟨WF, hWF⟩ : ∃ WF, WF = put5 w2 (w.heap.size + 1) (.int .u8 0) (.int .u32 0) (.int .u8 0) (.slice none 0 0) (.int .i64 0) := ⟨_, rfl⟩
    have HF := put5_same (.int .u8 0) (.int .u32 0) (.int .u8 0) (.slice none 0 0) (.int .i64 0) X2.out
    have BF := put5_below (.int .u8 0) (.int .u32 0) (.int .u8 0) (.slice none 0 0) (.int .i64 0) (show w.heap.size ≤ w.heap.size + 1 by omega) B2.out
    rw [← hWF] at HF BF
    unfold put5 at hWF
    rw [← hWF]
    obtain ⟨e0, e1, e2, e3, e4⟩ := cells5 HF
    exact bodyPost_ret (v := .tuple #[.agg #[.int .u8 0, .int .u32 0, .int .u8 0, .slice none 0 0, .int .i64 0], .bool false]) (by simp [results, Try.results25, go_sem, e0, e1, e2, e3, e4]) rfl ⟨.slice none 0 0, rfl, World.ownsRow_nil _ _ _ _, BF⟩
  obtain ⟨hkl, hRx⟩ := HF4.out rfl kk HK.out
  have HRX := Lib.hid hRx
  have hpx := HPL2.out kk hkl
  have q4 : (0 : Int) ≤ (kk : Int) := by omega
  have q5 : (kk : Int) < (n : Int) := by have := HN.out; omega
  obtain ⟨bb, oo, u, e, hbb, hru, h0, h1, h2, h3, h4⟩ := opl_at (HV.out w2 B2.out) kk hkl
  subst e
  obtain ⟨x, hx⟩ : ∃ x, x = l[kk]'hkl := ⟨_, rfl⟩
  rw [← hx] at hru h0 h1 h2 h4
  have HO : Hid (∀ v : Value, opv x v = .agg #[.int .u8 (x.k : Int), .int .u32 (x.t : Int), .int .u8 (x.r : Int), v, .int .i64 x.p]) := fun v => rfl
  obtain ⟨uo, uc, rfl⟩ := hru.shape
  obtain ⟨nu, hnu⟩ : ∃ n, n = x.pl.length := ⟨_, rfl⟩
  have HNU := Lib.hid hnu
  rw [← hnu] at hru h3
  clear hnu
  rw [← hx] at hRx hpx
  have HRX := Lib.hid hRx
  have TW : Hid (Calls Try.prog 55 #[opv x (.slice uo nu uc)] w2 fun e w' => ∃ ao cap, e = .returned (opv x (.slice ao nu cap)) ∧ w'.ownsRow (w.heap.size + 2) 35 3 (.slice ao nu cap) x.pl.length (runs x.pl) ∧ Below w2.heap.size w2 w') := by
    refine (oTwin_any hru hpx).mono ?_
    rintro e w' ⟨v', rfl, ho, hb⟩
    obtain ⟨ao', cap', rfl⟩ : ∃ ao cap, v' = .slice ao x.pl.length cap := Sees.shape (Sees.own ho)
    rw [← HNU.out] at ho ⊢
    exact ⟨ao', cap', rfl, op_base ho S2.out, hb⟩
  clear hx hru hpx hRx HF3 HF4 HPL2
  obtain ⟨k, hk⟩ : ∃ z, x.k = z := ⟨_, rfl⟩
  obtain ⟨t, ht⟩ : ∃ z, x.t = z := ⟨_, rfl⟩
  obtain ⟨r, hr⟩ : ∃ z, x.r = z := ⟨_, rfl⟩
  obtain ⟨p, hp⟩ : ∃ z, x.p = z := ⟨_, rfl⟩
  rw [hk, ht, hr, hp] at HO
  rw [hk] at h0
  rw [ht] at h1
  rw [hr] at h2
  rw [hp] at h4
  simp only [HO.out] at TW
  clear hk ht hr hp
  go_wp2_with fail
  refine TW.out.mono ?_
  rintro e w5 ⟨a5, c5, rfl, o5, b5⟩
  have B5 := Lib.hid (bt B2.out b5)
  have X5 := Lib.hid (blk_below b5 X2.out)
  have O5 := Lib.hid o5
  clear o5 b5 h0 h1 h2 h3 h4 TW
  obtain ⟨x0, x1, x2, x3, x4⟩ := cells5 X5.out
  have f0 : ∀ o, w5.frozen? ⟨w.heap.size + 1, o, none⟩ = false := fun o => free5 X5.out o
  go_wp2_with fail
  obtain ⟨WF, hWF⟩ : ∃ WF, WF = put5 w5 (w.heap.size + 1) (.int .u8 (k : Int)) (.int .u32 (t : Int)) (.int .u8 (r : Int)) (.slice a5 nu c5) (.int .i64 p) := ⟨_, rfl⟩
  have HF := put5_same (.int .u8 (k : Int)) (.int .u32 (t : Int)) (.int .u8 (r : Int)) (.slice a5 nu c5) (.int .i64 p) X5.out
  have BF := put5_below (.int .u8 (k : Int)) (.int .u32 (t : Int)) (.int .u8 (r : Int)) (.slice a5 nu c5) (.int .i64 p) (show w.heap.size ≤ w.heap.size + 1 by omega) B5.out
  have OW := put5_own (.int .u8 (k : Int)) (.int .u32 (t : Int)) (.int .u8 (r : Int)) (.slice a5 nu c5) (.int .i64 p) O5.out (show w.heap.size + 1 < w.heap.size + 2 by omega)
  rw [← hWF] at HF BF OW
  unfold put5 at hWF
  rw [← hWF]
  obtain ⟨e0, e1, e2, e3, e4⟩ := cells5 HF
  refine bodyPost_ret (v := .tuple #[.agg #[.int .u8 (k : Int), .int .u32 (t : Int), .int .u8 (r : Int), .slice a5 nu c5, .int .i64 p], .bool true]) (by simp [results, Try.results25, go_sem, e0, e1, e2, e3, e4]) rfl ⟨.slice a5 nu c5, ?_, ?_, BF⟩
  · rw [HRX.out]
    show _ = Ending.returned (.tuple #[opv x _, .bool true])
    rw [HO.out]
  · rw [HRX.out]
    show World.ownsRow _ _ _ _ _ x.pl.length (runs x.pl)
    exact op_base OW (by omega)
end Go.Proofs.Ytdgcokknaampdaa.Bags

/- octavo/bag: what each call answers (bCheck_any, bSame_any, bTwin_any, bIds_any, bAdd_any, bJoin_any, bLess_any, bFind_any): gathered. Conditions: none. -/


/- octavolaw11.one, put, alive: what each answers. Conditions: the slices' cells are operations. -/
namespace Go.Proofs.Ytdgcokknaampdaa.Bags
open Go.RowKit Go.WideShapes Stamp Go.Proofs.Ytdgcokknaampdaa.Place Ops Codes
attribute [local go_sem ↓] Go.wp_at_zero Go.wp_at_succ
attribute [local go_sem] yielded_undef

/-- A mark's operation. -/
def oneO (t r : Nat) (h : t < 4294967296 ∧ r < 256) : Opn := ⟨2, t, r, [⟨t, r, 1, h.1, h.2, by decide⟩], 0, by decide, h.1, h.2, by decide⟩
def o30 : Opn := oneO 3 0 (by decide)
def o11 : Opn := oneO 1 1 (by decide)
theorem seq_lit {w : World} {cs : List Value} {l : List Opn} (n : Nat) (hn : n = l.length) (hl : n ≤ 1000) (h : opE.rows w cs l) : OpL (w.alloc (.cells cs.toArray 39)) (.slice (some ⟨w.heap.size, 0, none⟩) n n) l := by
  subst hn
  refine ⟨cs, sees_new w cs 5 l.length (Enc.rows_len h) (by omega) 39 (0, 0), Enc.rows_keep ((Below.refl _ _).alloc (Nat.le_refl _) _) h⟩

theorem rows_one {w : World} {g3 : Nat} (h3 : Runs w (.slice (some ⟨g3, 0, none⟩) 1 1) o30.pl) :
    opE.rows w [.int .u8 2, .int .u32 3, .int .u8 0, .slice (some ⟨g3, 0, none⟩) 1 1, .int .i64 0] [o30] := ⟨[.int .u8 2, .int .u32 3, .int .u8 0, .slice (some ⟨g3, 0, none⟩) 1 1, .int .i64 0], [], rfl, ⟨_, rfl, h3⟩, rfl⟩
end Go.Proofs.Ytdgcokknaampdaa.Bags

/- octavolaw13.two, of, alive: what each answers. Conditions: none. -/
namespace Go.Proofs.Ytdgcokknaampdaa.Homes
open Go.RowKit Go.WideShapes Stamp Go.Proofs.Ytdgcokknaampdaa.Place Ops Codes Bags Marks
attribute [local go_sem ↓] Go.wp_at_zero Go.wp_at_succ

def ru (t r : Nat) (m : Int) (h : t < 4294967296 ∧ r < 256 ∧ -9223372036854775808 ≤ m ∧ m ≤ 9223372036854775807 := by decide) : Run := ⟨t, r, m, h.1, h.2.1, h.2.2⟩
def ma : Opn := ⟨2, 2, 0, [⟨1, 0, 2, by decide, by decide, by decide⟩], 0, by decide, by decide, by decide, by decide⟩
def mb : Opn := ⟨2, 5, 1, [⟨1, 0, 1, by decide, by decide, by decide⟩, ⟨5, 1, 1, by decide, by decide, by decide⟩], 0, by decide, by decide, by decide, by decide⟩
theorem rows_ab {w : World} {g1 g2 : Nat} (h1 : Runs w (.slice (some ⟨g1, 0, none⟩) 1 1) ma.pl) (h2 : Runs w (.slice (some ⟨g2, 0, none⟩) 2 2) mb.pl) : opE.rows w [.int .u8 2, .int .u32 2, .int .u8 0, .slice (some ⟨g1, 0, none⟩) 1 1, .int .i64 0, .int .u8 2, .int .u32 5, .int .u8 1, .slice (some ⟨g2, 0, none⟩) 2 2, .int .i64 0] [ma, mb] := ⟨[.int .u8 2, .int .u32 2, .int .u8 0, .slice (some ⟨g1, 0, none⟩) 1 1, .int .i64 0], [.int .u8 2, .int .u32 5, .int .u8 1, .slice (some ⟨g2, 0, none⟩) 2 2, .int .i64 0], rfl, ⟨_, rfl, h1⟩, [.int .u8 2, .int .u32 5, .int .u8 1, .slice (some ⟨g2, 0, none⟩) 2 2, .int .i64 0], [], rfl, ⟨_, rfl, h2⟩, rfl⟩
set_option maxRecDepth 100000 in
set_option maxHeartbeats 4000000 in
theorem two13_any (w : World) : Calls Try.prog 8 #[] w fun e w' => ∃ v, e = .returned v ∧ OpL w' v [ma, mb] ∧ Below w.heap.size w w' := by
  obtain ⟨W1, e1⟩ : ∃ W, W = w.alloc (.cells #[.int .u32 1, .int .u8 0, .int .i64 2] 35) := ⟨_, rfl⟩
  obtain ⟨W2, e2⟩ : ∃ W, W = W1.alloc (.cells #[.int .u8 2, .int .u32 2, .int .u8 0, .slice (some ⟨w.heap.size, 0, none⟩) 1 1, .int .i64 0] 39) := ⟨_, rfl⟩
  obtain ⟨W3, e3⟩ : ∃ W, W = W2.alloc (.cells #[.int .u32 1, .int .u8 0, .int .i64 1, .int .u32 5, .int .u8 1, .int .i64 1] 35) := ⟨_, rfl⟩
  obtain ⟨W4, e4⟩ : ∃ W, W = W3.alloc (.cells #[.int .u8 2, .int .u32 5, .int .u8 1, .slice (some ⟨w.heap.size + 1 + 1, 0, none⟩) 2 2, .int .i64 0] 39) := ⟨_, rfl⟩
  obtain ⟨W5, e5⟩ : ∃ W, W = W4.alloc (.cells #[.int .u8 2, .int .u32 2, .int .u8 0, .slice (some ⟨w.heap.size, 0, none⟩) 1 1, .int .i64 0, .int .u8 2, .int .u32 5, .int .u8 1, .slice (some ⟨w.heap.size + 1 + 1, 0, none⟩) 2 2, .int .i64 0] 39) := ⟨_, rfl⟩
  have s1 : W1.heap.size = w.heap.size + 1 := by rw [e1]; exact Array.size_push _
  have s2 : W2.heap.size = w.heap.size + 1 + 1 := by rw [← s1, e2]; exact Array.size_push _
  have s3 : W3.heap.size = w.heap.size + 1 + 1 + 1 := by rw [← s2, e3]; exact Array.size_push _
  have s4 : W4.heap.size = w.heap.size + 1 + 1 + 1 + 1 := by rw [← s3, e4]; exact Array.size_push _
  have b1 : Below w.heap.size w W1 := by rw [e1]; exact (Below.refl _ _).alloc (Nat.le_refl _) _
  have b2 : Below W1.heap.size W1 W2 := by rw [e2]; exact (Below.refl _ _).alloc (Nat.le_refl _) _
  have b3 : Below W2.heap.size W2 W3 := by rw [e3]; exact (Below.refl _ _).alloc (Nat.le_refl _) _
  have b4 : Below W3.heap.size W3 W4 := by rw [e4]; exact (Below.refl _ _).alloc (Nat.le_refl _) _
  have b5 : Below W4.heap.size W4 W5 := by rw [e5]; exact (Below.refl _ _).alloc (Nat.le_refl _) _
  have r1 : Runs W1 (.slice (some ⟨w.heap.size, 0, none⟩) 1 1) ma.pl := by rw [e1]; exact runs_new w ma.pl 1 rfl (by decide) 35 (0, 0)
  have r2 : Runs W3 (.slice (some ⟨w.heap.size + 1 + 1, 0, none⟩) 2 2) mb.pl := by rw [e3, ← s2]; exact runs_new W2 mb.pl 2 rfl (by decide) 35 (0, 0)
  have q1 : Runs W4 (.slice (some ⟨w.heap.size, 0, none⟩) 1 1) ma.pl := ((r1.keeps b2).keeps b3).keeps b4
  have q2 : Runs W4 (.slice (some ⟨w.heap.size + 1 + 1, 0, none⟩) 2 2) mb.pl := r2.keeps b4
  have sq := seq_lit (w := W4) 2 rfl (by omega) (rows_ab q1 q2)
  have B : Below w.heap.size w W5 := bt (bt (bt (bt b1 b2) b3) b4) b5
  have R : OpL W5 (.slice (some ⟨w.heap.size + 1 + 1 + 1 + 1, 0, none⟩) 2 2) [ma, mb] := by rw [e5, ← s4]; exact sq
  clear sq q1 q2 r1 r2 b1 b2 b3 b4 b5 s1 s2 s3 s4
  subst e5 e4 e3 e2 e1
  have RH := Lib.hid R
  have BH := Lib.hid B
  clear R B
  go_enter Try.func8, Try.ntmps8
  go_wp2
  exact bodyPost_ret (v := .slice (some ⟨w.heap.size + 1 + 1 + 1 + 1, 0, none⟩) 2 2) (by simp [results, Try.results8, go_sem]) rfl ⟨_, rfl, RH.out, BH.out⟩

set_option maxRecDepth 100000 in
set_option maxHeartbeats 4000000 in
theorem of13_any (a : Id) {u : Value} {p : List Run} {w : World} (hu : Runs w u p) (hL : homeL [ma, mb] p = a) (hE : homeE [ma, mb] p = 0) :
    Calls Try.prog 35 #[.agg #[.int .u32 (a.t : Int), .int .u8 (a.r : Int)], u] w fun e w' => e = .returned (.bool true) ∧ Below w.heap.size w w' := by
  obtain ⟨wl, hwl⟩ : ∃ x, x = w.alloc (.cells #[.int .u32 (a.t : Int), .int .u8 (a.r : Int)] 24) := ⟨_, rfl⟩
  have P0 : Hid (Pair wl w.heap.size (.int .u32 (a.t : Int)) (.int .u8 (a.r : Int))) := by rw [hwl]; exact pair_new _ _ _ _
  have B0 : Hid (Below w.heap.size w wl) := by rw [hwl]; exact (Below.refl _ _).alloc (Nat.le_refl _) _
  have HO : Hid (∀ (W : World) (y : Value), OpL W y [ma, mb] → Below w.heap.size w W → Calls Try.prog 10 #[y, u] W (OneI a 0 W)) := fun W y h h2 => by
    have := hOf_any h (hu.keeps h2)
    rwa [hL, hE] at this
  have HW := Lib.hid hwl
  obtain ⟨T, r, hT, hr⟩ := a
  simp only at P0 B0 HO HW ⊢
  clear hu hL hE hwl
  go_enter Try.func35, Try.ntmps35
  go_wp2_with fail
  rw [← HW.out]
  refine (two13_any _).mono ?_
  rintro e w1 ⟨v, rfl, o1, b1⟩
  have B1 := Lib.hid (bt B0.out b1)
  have P1 := Lib.hid (P0.out.keeps b1)
  have O1 := Lib.hid o1
  clear o1 b1 B0 P0 HW
  go_wp2_with fail
  refine (HO.out _ _ O1.out B1.out).mono ?_
  rintro e w2 ⟨rfl, b2⟩
  have B2 := Lib.hid (bt B1.out b2)
  have P2 := Lib.hid (P1.out.keeps b2)
  clear b2 B1 P1 O1 HO
  obtain ⟨w3, hw3⟩ : ∃ x, x = w2.alloc (.cells #[.int .u32 (T : Int), .int .u8 (r : Int)] 24) := ⟨_, rfl⟩
  have b3 : Below w2.heap.size w2 w3 := by rw [hw3]; exact (Below.refl _ _).alloc (Nat.le_refl _) _
  have B3 := Lib.hid (bt B2.out b3)
  obtain ⟨hlt, f0, f1⟩ := P2.out.keeps b3
  obtain ⟨hlt2, g0, g1⟩ : Pair w3 w2.heap.size (.int .u32 (T : Int)) (.int .u8 (r : Int)) := by rw [hw3]; exact pair_new _ _ _ _
  have BD := B3.out
  rw [hw3] at f0 f1 g0 g1 BD hlt hlt2
  replace BD := Lib.hid BD
  clear hw3 b3 B2 P2 B3
  go_wp2
  go_ret
  exact ⟨rfl, BD.out⟩

def p1 : List Run := [ru 1 0 1]
def p2 : List Run := [ru 1 0 1, ru 5 1 2]
def p3 : List Run := [ru 1 0 3]
theorem all_two : allL [ma, mb] = [zid, idO mb, idO ma] ∧ chkL [ma, mb] = 0 := by decide +kernel
theorem of_p1 : homeL [ma, mb] p1 = zid ∧ homeE [ma, mb] p1 = 0 := by decide +kernel
theorem of_p2 : homeL [ma, mb] p2 = idO mb ∧ homeE [ma, mb] p2 = 0 := by decide +kernel
theorem of_p3 : homeL [ma, mb] p3 = idO ma ∧ homeE [ma, mb] p3 = 0 := by decide +kernel
theorem of_p0 : homeL [ma, mb] [] = zid ∧ homeE [ma, mb] [] = 0 := by decide +kernel
set_option maxRecDepth 100000 in
set_option maxHeartbeats 8000000 in
theorem alive13_any (w : World) : Calls Try.prog 11 #[] w fun e w' => e = .returned (.bool true) ∧ Below w.heap.size w w' := by
  have AL : Hid (∀ (W : World) (v : Value), OpL W v [ma, mb] → Calls Try.prog 15 #[v] W (AllI [zid, idO mb, idO ma] 0 W)) := fun W v h => by
    have := hAll_any h
    rwa [all_two.1, all_two.2] at this
  have SI : Hid (∀ (W : World) (a b : Value), Ids W a [zid, idO mb, idO ma] → Ids W b [zid, idO mb, idO ma] → Calls Try.prog 20 #[a, b] W fun e w' => e = .returned (.bool true) ∧ Below W.heap.size W w') := fun W a b h1 h2 => sameIds_yes h1 h2
  have O1 : Hid (∀ (W : World) (u : Value), Runs W u p1 → Calls Try.prog 35 #[.agg #[.int .u32 0, .int .u8 0], u] W fun e w' => e = .returned (.bool true) ∧ Below W.heap.size W w') := fun W u h => of13_any zid h of_p1.1 of_p1.2
  have O2 : Hid (∀ (W : World) (u : Value), Runs W u p2 → Calls Try.prog 35 #[.agg #[.int .u32 5, .int .u8 1], u] W fun e w' => e = .returned (.bool true) ∧ Below W.heap.size W w') := fun W u h => of13_any (idO mb) h of_p2.1 of_p2.2
  have O3 : Hid (∀ (W : World) (u : Value), Runs W u p3 → Calls Try.prog 35 #[.agg #[.int .u32 2, .int .u8 0], u] W fun e w' => e = .returned (.bool true) ∧ Below W.heap.size W w') := fun W u h => of13_any (idO ma) h of_p3.1 of_p3.2
  have O0 : Hid (∀ (W : World) (u : Value), Runs W u [] → Calls Try.prog 35 #[.agg #[.int .u32 0, .int .u8 0], u] W fun e w' => e = .returned (.bool true) ∧ Below W.heap.size W w') := fun W u h => of13_any zid h of_p0.1 of_p0.2
  go_enter Try.func11, Try.ntmps11
  go_wp2_with fail
  refine (two13_any _).mono ?_
  rintro e w1 ⟨v, rfl, o1, b1⟩
  have B1 := Lib.hid b1
  have L1 := Lib.hid o1
  clear o1 b1
  go_wp2_with fail
  refine (AL.out _ _ L1.out).mono ?_
  rintro e w2 ⟨ao, cap, rfl, o2, b2⟩
  have B2 := Lib.hid (bt B1.out b2)
  have I2 := Lib.hid (Go.Proofs.Ytdgcokknaampdaa.Ids.own o2)
  clear o2 b2 B1 L1 AL
  have bo := (Below.refl w2.heap.size w2).alloc (Nat.le_refl _) (.cells (ids [zid, idO mb, idO ma]).toArray 24)
  have B3 := Lib.hid (bt B2.out bo)
  have J2 := Lib.hid (I2.out.keeps bo)
  have K2 := Lib.hid (ids_new w2 [zid, idO mb, idO ma] 3 rfl (by decide) 24 (0, 0))
  clear bo B2 I2
  go_wp2_with fail
  refine (SI.out _ _ _ J2.out K2.out).mono ?_
  rintro e w3 ⟨rfl, b3⟩
  have B4 := Lib.hid (bt B3.out b3)
  clear b3 B3 J2 K2 SI
  have bo := (Below.refl w3.heap.size w3).alloc (Nat.le_refl _) (.cells (runs p1).toArray 35)
  have r := runs_new w3 p1 1 rfl (by decide) 35 (0, 0)
  go_wp2_with fail
  refine (O1.out _ _ r).mono ?_
  rintro e w4 ⟨rfl, b⟩
  have B5 := Lib.hid (bt (bt B4.out bo) b)
  clear b B4 bo r
  have bo := (Below.refl w4.heap.size w4).alloc (Nat.le_refl _) (.cells (runs p2).toArray 35)
  have r := runs_new w4 p2 2 rfl (by decide) 35 (0, 0)
  go_wp2_with fail
  refine (O2.out _ _ r).mono ?_
  rintro e w5 ⟨rfl, b⟩
  have B6 := Lib.hid (bt (bt B5.out bo) b)
  clear b B5 bo r
  have bo := (Below.refl w5.heap.size w5).alloc (Nat.le_refl _) (.cells (runs p3).toArray 35)
  have r := runs_new w5 p3 1 rfl (by decide) 35 (0, 0)
  go_wp2_with fail
  refine (O3.out _ _ r).mono ?_
  rintro e w6 ⟨rfl, b⟩
  have B7 := Lib.hid (bt (bt B6.out bo) b)
  clear b B6 bo r
  go_wp2_with fail
  refine (O0.out _ _ (Sees.nil _ _)).mono ?_
  rintro e w7 ⟨rfl, b⟩
  have B8 := Lib.hid (bt B7.out b)
  clear b B7
  go_wp2
  go_ret
  exact ⟨rfl, B8.out⟩
end Go.Proofs.Ytdgcokknaampdaa.Homes
