/- octavo/bag.Add: what it answers. Conditions: the slice's cells are operations, the place's are runs. -/
import Derived.Test.YtocjkegkgnbboaaPk14
import Derived.Test.YtocjkegkgnbboaaPk22
import Derived.Test.YtocjkegkgnbboaaPk15
import Derived.Test.YtocjkegkgnbboaaPk13
import Derived.Test.YtocjkegkgnbboaaPk10

namespace Go.Proofs.Ytocjkegkgnbboaa.Bags
open Go.RowKit Go.WideShapes Stamp Go.Proofs.Ytocjkegkgnbboaa.Place Ops Codes
attribute [local go_sem ↓] Go.wp_at_zero Go.wp_at_succ

theorem alloc_bo {wl W : World} (h : Below wl.heap.size wl W) (o : Obj) : Below wl.heap.size wl (W.alloc o) := h.alloc h.size o

set_option maxRecDepth 100000 in
set_option maxHeartbeats 16000000 in
theorem bAdd_any {v u0 : Value} {l : List Opn} {o : Opn} {w : World} (hv : OpL w v l) (hu : Runs w u0 o.pl) :
    Calls Try.prog 13 #[v, opv o u0] w (DoneN (addL l o) (addE l o) w) := by
  have CK : Hid (∀ W : World, Below w.heap.size w W → Calls Try.prog 17 #[v] W fun e w' => e = .returned (.int .i64 (chkL l)) ∧ Below W.heap.size W w') := fun W h => bCheck_any (hv.keeps h)
  have SR : Hid (Bag l → ∀ W : World, Below w.heap.size w W → Calls Try.prog 42 #[v, .agg #[.int .u32 (o.t : Int), .int .u8 (o.r : Int)]] W fun e w' => ∃ k : Nat, e = .returned (.tuple #[.int .i64 (k : Int), .bool (hasO l (idO o))]) ∧ Pos l (idO o) k ∧ Below W.heap.size W w') := fun hb W h => bSearch_any (idO o) (hv.keeps h) (by have := hb.1; omega) hb.2.2
  have TWL : Hid (Bag l → ∀ (WB W : World), WB.heap.size ≤ W.heap.size → Below w.heap.size w W → Calls Try.prog 30 #[v] W fun e w' => ∃ G, e = .returned (.slice (some ⟨G, 0, none⟩) l.length l.length) ∧ OwnL w' WB.heap.size (.slice (some ⟨G, 0, none⟩) l.length l.length) l ∧ Below W.heap.size W w') := fun hb WB W h1 h2 => by
    refine (bTwinX_any (hv.keeps h2) (by have := hb.1; omega) (bag_fits hb).2).mono ?_
    rintro e w' ⟨rfl, ho, hb⟩
    exact ⟨_, rfl, ho.base h1, hb⟩
  obtain ⟨uo, uc, rfl⟩ := hu.shape
  obtain ⟨nu, hnu⟩ : ∃ n, n = o.pl.length := ⟨_, rfl⟩
  have OC : Hid (∀ W : World, Below w.heap.size w W → Calls Try.prog 41 #[opv o (.slice uo o.pl.length uc)] W fun e w' => e = .returned (.int .i64 (chkO o)) ∧ Below W.heap.size W w') := fun W h => oCheck_any (hu.keeps h)
  have TWO : Hid (mayO o = true → ∀ (WB W : World), WB.heap.size ≤ W.heap.size → Below w.heap.size w W → Calls Try.prog 39 #[opv o (.slice uo o.pl.length uc)] W fun e w' => ∃ ao cap, e = .returned (opv o (.slice ao o.pl.length cap)) ∧ w'.ownsRow WB.heap.size 71 3 (.slice ao o.pl.length cap) o.pl.length (runs o.pl) ∧ Below W.heap.size W w') := fun hm WB W h1 h2 => by
    refine (oTwin_any (hu.keeps h2) (by have := mayO_fits hm; omega)).mono ?_
    rintro e w' ⟨v', rfl, ho, hb⟩
    obtain ⟨ao', cap', rfl⟩ : ∃ ao cap, v' = .slice ao o.pl.length cap := Sees.shape (Sees.own ho)
    exact ⟨ao', cap', rfl, op_base ho h1, hb⟩
  obtain ⟨ao, cap, rfl⟩ := hv.shape
  obtain ⟨n, hn⟩ : ∃ n, n = l.length := ⟨_, rfl⟩
  have HN := Lib.hid hn
  have INS : Hid (Bag l → ∀ (WB W9 X : World) (G V k : Nat) (a : Option Addr) (c : Nat), OwnL W9 WB.heap.size (.slice (some ⟨G, 0, none⟩) n n) l → Below W9.heap.size W9 X → X.heap[V]? = some (.cells #[.int .u8 (o.k : Int), .int .u32 (o.t : Int), .int .u8 (o.r : Int), .slice a o.pl.length c, .int .i64 o.p] 30) →
      X.ownsRow WB.heap.size 71 3 (.slice a o.pl.length c) o.pl.length (runs o.pl) → WB.heap.size ≤ X.heap.size → Pos l (idO o) k → hasO l (idO o) = false →
      Calls Try.prog 43 #[.slice (some ⟨G, 0, none⟩) n n, .int .i64 (k : Int), .slice (some ⟨V, 0, none⟩) 1 1] X fun e w' => ∃ v', e = .returned v' ∧ OwnL w' WB.heap.size v' (withO l o) ∧ Below WB.heap.size X w') := fun hb WB W9 X G V k a c h1 h2 h3 h4 h5 h6 h7 => by
    rw [pos_with h6 h7]
    exact bIns_any (h1.keeps h2) (by rw [hn]; exact h6.1) (by rw [hn]; exact hb.1) h3 h4 h5
  rw [← hn] at CK SR TWL ⊢
  rw [← hnu] at OC TWO INS ⊢
  have HO : Hid (∀ v : Value, opv o v = .agg #[.int .u8 (o.k : Int), .int .u32 (o.t : Int), .int .u8 (o.r : Int), v, .int .i64 o.p]) := fun v => rfl
  have AB : Hid (¬ (Bag l ∧ mayO o = true) → addL l o = [] ∧ addE l o = 8) := fun h => by
    have e : addE l o = 8 := by unfold addE; rw [if_pos (by rw [bagB_iff]; exact h)]
    exact ⟨by unfold addL; rw [e]; rfl, e⟩
  have AT : Hid (Bag l → mayO o = true → hasO l (idO o) = true → addL l o = l ∧ addE l o = 0) := fun h1 h2 h3 => by
    have e : addE l o = 0 := by unfold addE; rw [if_neg (by rw [bagB_iff]; exact fun h => h ⟨h1, h2⟩), if_neg (by rw [withO_len, if_pos h3]; have := h1.1; omega)]
    exact ⟨by unfold addL withO; rw [e, if_pos rfl, if_pos h3], e⟩
  have AF : Hid (Bag l → mayO o = true → hasO l (idO o) = false → n = 1024 → addL l o = [] ∧ addE l o = 9) := fun h1 h2 h3 h4 => by
    have e : addE l o = 9 := by unfold addE; rw [if_neg (by rw [bagB_iff]; exact fun h => h ⟨h1, h2⟩), if_pos (by rw [withO_len, if_neg (by rw [h3]; decide)]; omega)]
    exact ⟨by unfold addL; rw [e]; rfl, e⟩
  have AW : Hid (Bag l → mayO o = true → hasO l (idO o) = false → n ≠ 1024 → addL l o = withO l o ∧ addE l o = 0) := fun h1 h2 h3 h4 => by
    have e : addE l o = 0 := by unfold addE; rw [if_neg (by rw [bagB_iff]; exact fun h => h ⟨h1, h2⟩), if_neg (by rw [withO_len, if_neg (by rw [h3]; decide)]; have := h1.1; omega)]
    exact ⟨by unfold addL; rw [e, if_pos rfl], e⟩
  obtain ⟨RL, hRL⟩ : ∃ z, addL l o = z := ⟨_, rfl⟩
  obtain ⟨RE, hRE⟩ : ∃ z, addE l o = z := ⟨_, rfl⟩
  obtain ⟨RW, hRW⟩ : ∃ z, withO l o = z := ⟨_, rfl⟩
  rw [hRL, hRE] at AB AT AF AW ⊢
  rw [hRW] at AW INS
  obtain ⟨P, hP⟩ : ∃ P : Nat → Prop, P = Pos l (idO o) := ⟨_, rfl⟩
  have hPk : ∀ k, Pos l (idO o) k = P k := fun k => by rw [hP]
  simp only [hPk] at SR INS
  obtain ⟨q, hq⟩ : ∃ q, hasO l (idO o) = q := ⟨_, rfl⟩
  rw [hq] at SR INS AT AF AW
  unfold chkO at OC
  obtain ⟨my, hmy⟩ : ∃ b, mayO o = b := ⟨_, rfl⟩
  rw [hmy] at OC TWO AB AT AF AW
  clear hRL hRE hRW hP hPk hq hmy hv hu
  obtain ⟨L, hL⟩ : ∃ L, L = runs o.pl := ⟨_, rfl⟩
  rw [← hL] at TWO INS
  clear hnu hL
  obtain ⟨k0, hk0⟩ : ∃ z, o.k = z := ⟨_, rfl⟩
  obtain ⟨t0, ht0⟩ : ∃ z, o.t = z := ⟨_, rfl⟩
  obtain ⟨r0, hr0⟩ : ∃ z, o.r = z := ⟨_, rfl⟩
  obtain ⟨p0, hp0⟩ : ∃ z, o.p = z := ⟨_, rfl⟩
  rw [hk0, ht0, hr0, hp0] at HO INS
  rw [ht0, hr0] at SR
  simp only [HO.out] at OC TWO ⊢
  have BL : Hid (Below w.heap.size w (w.alloc (.cells #[.int .u8 (k0 : Int), .int .u32 (t0 : Int), .int .u8 (r0 : Int), .slice uo nu uc, .int .i64 p0] 30))) := (Below.refl _ _).alloc (Nat.le_refl _) _
  have CE : Hid (∀ W : World, Below (w.alloc (.cells #[.int .u8 (k0 : Int), .int .u32 (t0 : Int), .int .u8 (r0 : Int), .slice uo nu uc, .int .i64 p0] 30)).heap.size (w.alloc (.cells #[.int .u8 (k0 : Int), .int .u32 (t0 : Int), .int .u8 (r0 : Int), .slice uo nu uc, .int .i64 p0] 30)) W → W.cell? ⟨w.heap.size, 0, none⟩ = some (.int .u8 (k0 : Int)) ∧ W.cell? ⟨w.heap.size, 1, none⟩ = some (.int .u32 (t0 : Int)) ∧ W.cell? ⟨w.heap.size, 2, none⟩ = some (.int .u8 (r0 : Int)) ∧ W.cell? ⟨w.heap.size, 3, none⟩ = some (.slice uo nu uc) ∧ W.cell? ⟨w.heap.size, 4, none⟩ = some (.int .i64 p0)) := fun W h => five_cells h
  clear hn hk0 ht0 hr0 hp0 HO
  by_cases hbag : Bag l
  rotate_left
  · rw [chkL_no hbag] at CK
    obtain ⟨rfl, rfl⟩ := AB.out (fun h => hbag h.1)
    clear AB AT AF AW INS TWO TWL OC SR CE
    go_enter Try.func13, Try.ntmps13
    go_wp2_with fail
    refine (CK.out _ BL.out).mono ?_
    rintro e w1 ⟨rfl, b1⟩
    have B1 := Lib.hid (bt BL.out b1)
    clear b1
    go_wp2
    go_ret2
    exact ⟨_, rfl, OwnL.nil _ _, B1.out⟩
  rw [chkL_yes hbag] at CK
  cases my
  · obtain ⟨rfl, rfl⟩ := AB.out (fun h => by cases h.2)
    rw [if_neg (by simp)] at OC
    clear AB AT AF AW INS TWO TWL SR
    go_enter Try.func13, Try.ntmps13
    go_wp2_with fail
    refine (CK.out _ BL.out).mono ?_
    rintro e w1 ⟨rfl, b1⟩
    have B1 := Lib.hid (bt BL.out b1)
    obtain ⟨g0, g1, g2, g3, g4⟩ := CE.out _ b1
    clear b1 CE
    go_wp2_with fail
    refine (OC.out _ B1.out).mono ?_
    rintro e w2 ⟨rfl, b2⟩
    have B2 := Lib.hid (bt B1.out b2)
    clear b2
    go_wp2
    go_ret2
    exact ⟨_, rfl, OwnL.nil _ _, B2.out⟩
  rw [if_pos rfl] at OC
  have SR2 := Lib.hid (SR.out hbag)
  have TL2 := Lib.hid (TWL.out hbag)
  have TO2 := Lib.hid (TWO.out rfl)
  have IN2 := Lib.hid (INS.out hbag)
  have AT2 := Lib.hid (AT.out hbag rfl)
  have AF2 := Lib.hid (AF.out hbag rfl)
  have AW2 := Lib.hid (AW.out hbag rfl)
  have hnm : n ≤ 1024 := by rw [HN.out]; exact hbag.1
  clear AB AT AF AW INS TWO TWL SR hbag
  go_enter Try.func13, Try.ntmps13
  go_wp2_with fail
  refine (CK.out _ BL.out).mono ?_
  rintro e w1 ⟨rfl, b1⟩
  have B1 := Lib.hid (bt BL.out b1)
  have K1 := Lib.hid b1
  obtain ⟨g0, g1, g2, g3, g4⟩ := CE.out _ b1
  clear b1 CK
  go_wp2_with fail
  refine (OC.out _ B1.out).mono ?_
  rintro e w2 ⟨rfl, b2⟩
  have B2 := Lib.hid (bt B1.out b2)
  have K2 := Lib.hid (bt K1.out b2)
  clear b2 g0 g1 g2 g3 g4 OC K1
  obtain ⟨g0, g1, g2, g3, g4⟩ := CE.out _ K2.out
  go_wp2_with fail
  refine (SR2.out _ B2.out).mono ?_
  rintro e w3 ⟨k, rfl, hk, b3⟩
  have B3 := Lib.hid (bt B2.out b3)
  have K3 := Lib.hid (bt K2.out b3)
  have HK := Lib.hid hk
  clear b3 hk g0 g1 g2 g3 g4 SR2 K2 B2 B1
  cases q
  rotate_left
  · obtain ⟨rfl, rfl⟩ := AT2.out rfl
    clear AF2 AW2 IN2 TO2 CE K3
    go_wp2_with fail
    refine (TL2.out w w3 B3.out.size B3.out).mono ?_
    rintro e w4 ⟨G4, rfl, o4, b4⟩
    have B4 := Lib.hid (bt B3.out b4)
    have O4 := Lib.hid o4
    clear o4 b4
    go_wp2
    go_ret2
    exact ⟨_, rfl, O4.out, B4.out⟩
  by_cases hfull : n = 1024
  · have d1 : decide (n = 1024) = true := decide_eq_true hfull
    have d2 : ((n : Int) == 1024) = true := by simp; omega
    obtain ⟨rfl, rfl⟩ := AF2.out rfl hfull
    clear AT2 AW2 IN2 TO2 TL2 CE K3
    go_wp2
    go_ret2
    exact ⟨_, rfl, OwnL.nil _ _, B3.out⟩
  have d1 : decide (n = 1024) = false := decide_eq_false hfull
  have d2 : ((n : Int) == 1024) = false := by simp; omega
  obtain ⟨rfl, rfl⟩ := AW2.out rfl hfull
  have SK : Hid (∀ w' : World, Below w3.heap.size w3 w' → Below w3.heap.size w3 w' ∧ w'.cell? ⟨w.heap.size, 0, none⟩ = some (.int .u8 (k0 : Int)) ∧ w'.cell? ⟨w.heap.size, 1, none⟩ = some (.int .u32 (t0 : Int)) ∧ w'.cell? ⟨w.heap.size, 2, none⟩ = some (.int .u8 (r0 : Int)) ∧ w'.cell? ⟨w.heap.size, 3, none⟩ = some (.slice uo nu uc) ∧ w'.cell? ⟨w.heap.size, 4, none⟩ = some (.int .i64 p0)) := fun W h => ⟨h, CE.out W (bt K3.out h)⟩
  have TL3 : Hid (∀ W : World, Below w3.heap.size w3 W → Calls Try.prog 30 #[.slice ao n cap] W fun e w' => ∃ G, e = .returned (.slice (some ⟨G, 0, none⟩) n n) ∧ OwnL w' w3.heap.size (.slice (some ⟨G, 0, none⟩) n n) l ∧ Below w3.heap.size w3 w') := fun W h => by
    refine (TL2.out w3 W h.size (bt B3.out h)).mono ?_
    rintro e w' ⟨G, rfl, ho, hb⟩
    exact ⟨G, rfl, ho, bt h hb⟩
  have TO3 : Hid (∀ W : World, Below w3.heap.size w3 W → Calls Try.prog 39 #[.agg #[.int .u8 (k0 : Int), .int .u32 (t0 : Int), .int .u8 (r0 : Int), .slice uo nu uc, .int .i64 p0]] W fun e w' => ∃ ao cap, e = .returned (.agg #[.int .u8 (k0 : Int), .int .u32 (t0 : Int), .int .u8 (r0 : Int), .slice ao nu cap, .int .i64 p0]) ∧ w'.ownsRow w3.heap.size 71 3 (.slice ao nu cap) nu L ∧ Below w3.heap.size w3 w' ∧ Below W.heap.size W w') := fun W h => by
    refine (TO2.out w3 W h.size (bt B3.out h)).mono ?_
    rintro e w' ⟨ao, cap, rfl, ho, hb⟩
    exact ⟨ao, cap, rfl, ho, bt h hb, hb⟩
  have IN3 : Hid (∀ (W9 w10 : World) (G : Nat) (a : Option Addr) (c : Nat), OwnL W9 w3.heap.size (.slice (some ⟨G, 0, none⟩) n n) l → Below W9.heap.size W9 w10 → w10.ownsRow w3.heap.size 71 3 (.slice a nu c) nu L → Below w3.heap.size w3 w10 →
      Calls Try.prog 43 #[.slice (some ⟨G, 0, none⟩) n n, .int .i64 (k : Int), .slice (some ⟨w10.heap.size, 0, none⟩) 1 1] (w10.alloc (.cells #[.int .u8 (k0 : Int), .int .u32 (t0 : Int), .int .u8 (r0 : Int), .slice a nu c, .int .i64 p0] 30)) fun e w' => ∃ v', e = .returned v' ∧ OwnL w' w3.heap.size v' RL ∧ Below w3.heap.size w3 w') := fun W9 w10 G a c h1 h2 h3 h4 => by
    have bA : Below w10.heap.size w10 (w10.alloc (.cells #[.int .u8 (k0 : Int), .int .u32 (t0 : Int), .int .u8 (r0 : Int), .slice a nu c, .int .i64 p0] 30)) := (Below.refl _ _).alloc (Nat.le_refl _) _
    refine (IN2.out w3 W9 _ G w10.heap.size k a c h1 (bt h2 bA) (blk_new rfl) (own_stays h3 bA) (bt h4 bA).size HK.out rfl).mono ?_
    rintro e w' ⟨v', rfl, ho, hb⟩
    exact ⟨v', rfl, ho, (bt h4 bA).trans hb⟩
  clear AT2 AF2 AW2 IN2 TO2 TL2 CE K3
  go_wp2
  go_region_held3 (fun w' => Below w3.heap.size w3 w' ∧ w'.cell? ⟨w.heap.size, 0, none⟩ = some (.int .u8 (k0 : Int)) ∧ w'.cell? ⟨w.heap.size, 1, none⟩ = some (.int .u32 (t0 : Int)) ∧ w'.cell? ⟨w.heap.size, 2, none⟩ = some (.int .u8 (r0 : Int)) ∧ w'.cell? ⟨w.heap.size, 3, none⟩ = some (.slice uo nu uc) ∧ w'.cell? ⟨w.heap.size, 4, none⟩ = some (.int .i64 p0))
    (first | exact SK.out _ (drew1 _) | (go_split_ands; refine SK.out _ ?_; repeat' (first | assumption | (with_reducible refine Below.drew ?_) | (with_reducible refine below_draw ?_ _) | (with_reducible refine alloc_bo ?_ _) | fail)))
    ((first
      | (go_at_call 30; (with_reducible refine (TL3.out _ ?hw).mono ?_)
         case hw => go_split_ands; repeat' (first | assumption | (with_reducible refine Below.drew ?_) | (with_reducible refine below_draw ?_ _) | (with_reducible refine alloc_bo ?_ _) | fail)
         rintro e w9 ⟨G9, rfl, o9, b9⟩)
      | (go_at_call 39; (with_reducible refine (TO3.out _ ?hw).mono ?_)
         case hw => go_split_ands; repeat' (first | assumption | (with_reducible refine Below.drew ?_) | (with_reducible refine below_draw ?_ _) | (with_reducible refine alloc_bo ?_ _) | fail)
         rintro e w10 ⟨a10, c10, rfl, o10, b10, k10⟩)
      | (go_at_call 43; (with_reducible refine (IN3.out w9 w10 G9 a10 c10 o9 ?h1 o10 b10).mono ?_)
         case h1 => repeat' (first | assumption | (with_reducible refine Below.drew ?_) | (with_reducible refine below_draw ?_ _) | fail)
         rintro e w11 ⟨v11, rfl, o11, b11⟩)))
  have O11 : Hid (OwnL w11 w.heap.size v11 RL) := OwnL.base o11 B3.out.size
  have B11 := Lib.hid (bt B3.out b11)
  clear o11 b11 o10 b10 k10 o9 b9
  go_wp2
  go_ret2
  exact ⟨_, rfl, O11.out, B11.out⟩
end Go.Proofs.Ytocjkegkgnbboaa.Bags

/- Slices whose elements hold slices of an elder world; append of a whole part to a row of one's own; what is left behind a cut. Conditions: none. -/
namespace Go.Proofs.Ytocjkegkgnbboaa
open Go.RowKit Go.WideShapes

/-- Elements whose slices lie in an elder world. -/
def fixE {α : Type} (E : Enc α) (w0 : World) : Enc α := ⟨E.sz, E.pos, fun _ cs a => E.inn w0 cs a, E.len, E.one, fun _ h => h⟩
theorem fix_rows {α : Type} {E : Enc α} {w0 w : World} : ∀ {cs : List Value} {l : List α}, (fixE E w0).rows w cs l ↔ E.rows w0 cs l
  | _, [] => Iff.rfl
  | cs, a :: l => ⟨fun ⟨c, d, h1, h2, h3⟩ => ⟨c, d, h1, h2, fix_rows.1 h3⟩, fun ⟨c, d, h1, h2, h3⟩ => ⟨c, d, h1, h2, fix_rows.2 h3⟩⟩
theorem wpList_append_shr {α : Type} {E : Enc α} {ts te : TypeId} (ht : Try.prog.underlying ts = some (.slice te)) {z : Value} {bytes : Nat}
    (hi : (Try.prog.info? te).map (fun i => (i.zero, i.size, i.bytes)) = some (some z, E.sz, bytes)) (hzs : z.cells.size = E.sz)
    {w0 wp : World} {ops : Array Oper} {rest : List Oper} {o : Oper} {a : Act} {Q : Exit → Act → World → Prop} (hgd : o.guard = none) (s x : Operand)
    (ho : o.op = .call { callee := .builtin .append, args := #[s, x], argTypes := #[ts, ts] }) {v u : Value} {L M : List α} (hs : a.eval s = v) (hv : Shr E te w0 wp v L)
    (hx : a.eval x = u) (hu : Seq (fixE E w0) wp u M) {n : Nat} (hn : n = L.length + M.length) (h47 : n * bytes ≤ 140737488355328) (h63 : n ≤ 140737488355328) (hbase : w0.heap.size ≤ wp.heap.size)
    (h : ∀ v' w', Shr E te w0 w' v' (L ++ M) → (∃ ao cap, v' = .slice ao n cap) → Below w0.heap.size wp w' → wpList Try.prog ops Q rest (a.put o.dst v') w') :
    wpList Try.prog ops Q (o :: rest) a wp := by
  subst hn
  obtain ⟨cs, h1, h2⟩ := hv
  obtain ⟨xs, h3, h4⟩ := hu
  refine wpList_append_sees hgd s x ts te ho ht hi hzs E.pos w0.heap.size v L.length cs hs h1 u M.length xs hx h3 (Enc.rows_one (fix_rows.1 h4)) h47 h63 hbase ?_
  intro v' w' o6 _ b6
  exact h v' w' ⟨cs ++ xs, by rw [List.length_append]; exact o6, Enc.rows_append h2 (fix_rows.1 h4)⟩ (Sees.shape (Sees.own o6)) b6
theorem part_drop {α : Type} {E : Enc α} {w : World} {ao : Option Addr} {n cap m : Nat} {l : List α} (h : Seq E w (.slice ao n cap) l) (hm : m ≤ n) (hl : l ≠ []) :
    ∃ b off o', ao = some ⟨b, off, none⟩ ∧ (if cap = m then (some ⟨b, off, none⟩ : Option Addr) else some ⟨b, off + m * E.sz, none⟩) = some ⟨b, o', none⟩ ∧ Seq E w (.slice (some ⟨b, o', none⟩) (n - m) (cap - m)) (l.drop m) := by
  obtain ⟨cs, ⟨h1, ao', cap', he, h2, h3, h4, h5⟩, h6⟩ := h
  obtain ⟨rfl, rfl, rfl⟩ := Value.slice.inj he
  have hp := E.pos
  have hd := Enc.rows_drop m h6
  have hll : (l.drop m).length = l.length - m := by rw [List.length_drop]
  have hcl : (cs.drop (m * E.sz)).length = (l.length - m) * E.sz := by rw [List.length_drop, h1, Nat.sub_mul]
  rcases h5 with h5 | ⟨b, off, rfl, hb, hc⟩
  · exfalso
    rw [h5] at h1
    have h7 : l.length * E.sz = 0 := by simpa using h1.symm
    rcases Nat.mul_eq_zero.1 h7 with h8 | h8
    · exact hl (List.length_eq_zero_iff.1 h8)
    · omega
  · by_cases hcm : cap = m
    · refine ⟨b, off, off, rfl, by rw [if_pos hcm], cs.drop (m * E.sz), ⟨by rw [hcl, hll], some ⟨b, off, none⟩, cap - m, by rw [hll], by rw [hll]; omega, by omega, by simp, ?_⟩, hd⟩
      left
      exact List.length_eq_zero_iff.1 (by rw [hcl, show l.length - m = 0 by omega, Nat.zero_mul])
    · refine ⟨b, off, off + m * E.sz, rfl, by rw [if_neg hcm], cs.drop (m * E.sz), ⟨by rw [hcl, hll], some ⟨b, off + m * E.sz, none⟩, cap - m, by rw [hll], by rw [hll]; omega, by omega, by simp, ?_⟩, hd⟩
      right
      refine ⟨b, off + m * E.sz, rfl, hb, fun j u hj => ?_⟩
      rw [List.getElem?_drop] at hj
      rw [Nat.add_assoc]
      exact hc _ u hj
theorem seq_fix {α : Type} {E : Enc α} {w0 w : World} {v : Value} {l : List α} (h : Seq E w0 v l) (hb : Below w0.heap.size w0 w) : Seq (fixE E w0) w v l := by
  obtain ⟨cs, h1, h2⟩ := h
  exact ⟨cs, h1.keeps hb, fix_rows.2 h2⟩
open Go.Proofs.Ytocjkegkgnbboaa.Place Ops Codes Bags
end Go.Proofs.Ytocjkegkgnbboaa
