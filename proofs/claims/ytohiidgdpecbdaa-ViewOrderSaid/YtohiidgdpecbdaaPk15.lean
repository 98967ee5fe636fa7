/- octavo/view.Text, Offset, At: what each answers. Conditions: the slice's cells are operations. -/
import Derived.IntWalk
import Derived.Shelf.Abstract
import Derived.Laws.CopyOwn
import Derived.Deep.AppendSrc
import Derived.Lib.AppendZeros
import Derived.Laws.MakeOwn
import Derived.Deep.DrawnRows
import Derived.Deep.RegionHeld3
import Derived.Lib.AppendZerosOnto
import Derived.Laws.NewBlocks
import Derived.Deep.RegionLaw
import Derived.Test.YtohiidgdpecbdaaPk14
import Derived.Test.YtohiidgdpecbdaaPk03
import Derived.Test.YtohiidgdpecbdaaPk06
import Derived.Test.YtohiidgdpecbdaaPk01
import Derived.Test.YtohiidgdpecbdaaPk05
import Derived.Test.YtohiidgdpecbdaaPk02
import Derived.Test.YtohiidgdpecbdaaPk12

namespace Go.Proofs.Ytohiidgdpecbdaa.Views
open Go.RowKit Go.WideShapes Stamp Go.Proofs.Ytohiidgdpecbdaa.Place Ops Codes Bags Marks Homes Covers
attribute [local go_sem ↓] Go.wp_at_zero Go.wp_at_succ
attribute [local go_sem] yielded_undef

/-! ### Text -/
theorem is_below {B b : Nat} {l : List UInt8} {W W' : World} (h : Strb.Is B b l W) (hb : Below W.heap.size W W') : Strb.Is B b l W' := by
  have one : ∀ {p : Value}, Lib.BuilderAtF 62 5 B b p (Lib.byteCells l) W → Lib.BuilderAtF 62 5 B b p (Lib.byteCells l) W' := by
    intro p h
    have hlt := h.lt
    obtain ⟨h1, v, h2, h3, h4⟩ := h
    have hg : W.grownBy W' none := ⟨hb.os, hb.tape, hb.output, hb.size, fun k hk _ => hb.block k hk⟩
    exact ⟨h1, v, (hb.block b hlt).trans h2, h3.kept hg (Classical.em _), h4⟩
  rcases h with h | h
  · exact .inl (one h)
  · exact .inr (one h)
set_option maxRecDepth 1000000 in
set_option maxHeartbeats 8000000 in
theorem vText_any {v : Value} {l : List Opn} (s : Id) {w : World} (hv : OpL w v l) : Calls Try.prog 9 #[v, .agg #[.int .u32 (s.t : Int), .int .u8 (s.r : Int)]] w fun e w' => e = .returned (.tuple #[.string (str (textL l s)), .int .i64 (spanE l s)]) ∧ Below w.heap.size w w' := by
  obtain ⟨wl, hwl⟩ : ∃ x, x = w.alloc (.cells #[.int .u32 (s.t : Int), .int .u8 (s.r : Int)] 29) := ⟨_, rfl⟩
  have B0 : Hid (Below w.heap.size w wl) := by rw [hwl]; exact (Below.refl _ _).alloc (Nat.le_refl _) _
  have Y0 : Hid (wl.heap[w.heap.size]? = some (.cells #[.int .u32 (s.t : Int), .int .u8 (s.r : Int)] 29)) := by rw [hwl]; exact blk_new rfl
  have HW := Lib.hid hwl
  have EL : Hid (Calls Try.prog 13 #[v, .agg #[.int .u32 (s.t : Int), .int .u8 (s.r : Int)]] wl (DoneOE (elmL l s) (spanE l s) wl)) := vElements_any s (hv.keeps B0.out)
  have HT : Hid (spanE l s ≠ 0 → textL l s = []) := fun h => by unfold textL; rw [elm_no h]; rfl
  have HP : Hid (∀ o ∈ elmL l s, Point.IsPt o.p) := fun o ho => ins_pt (mem_elm_l ho).2.2.2.2.1 (mem_elm_l ho).2.2.2.2.2
  have hlen := (elm_fits l s).1
  have hT0 : textL l s = wordM (elmL l s) := rfl
  rw [hT0] at HT ⊢
  unfold DoneOE at EL
  obtain ⟨L, hL⟩ : ∃ L, elmL l s = L := ⟨_, rfl⟩
  obtain ⟨x, hx⟩ : ∃ x, spanE l s = x := ⟨_, rfl⟩
  rw [hL, hx] at EL
  rw [hL] at HP hlen
  rw [hL, hx] at HT ⊢
  clear hv hwl hL hx hT0
  obtain ⟨ts, rs, hts, hrs⟩ := s
  simp only at Y0 HW EL ⊢
  by_cases h0 : x = 0
  rotate_left
  · have q0 : (x != 0) = true := by simpa using h0
    have q1 : decide (x = 0) = false := decide_eq_false h0
    have e0 : (str (wordM L) : ByteArray) = { data := #[] } := by rw [HT.out h0]; rfl
    rw [e0]
    clear e0 HT HP
    have d0 := cell_of_row _ _ 0 _ _ _ Y0.out
    have d1 := cell_of_row _ _ 1 _ _ _ Y0.out
    go_enter Try.func9, Try.ntmps9
    go_wp2_with fail
    rw [← HW.out]
    refine EL.out.mono ?_
    rintro e w1 ⟨v1, rfl, o1, b1⟩
    have B1 := Lib.hid (bt B0.out b1)
    clear b1 o1 Y0 B0 HW EL d0 d1
    go_wp2
    exact bodyPost_ret (v := .tuple #[.string { data := #[] }, .int .i64 x]) (by simp [results, Try.results9, go_sem]) rfl ⟨rfl, B1.out⟩
  subst h0
  clear HT
  obtain ⟨n, hn⟩ : ∃ n, L.length = n := ⟨_, rfl⟩
  have HN := Lib.hid hn
  rw [hn] at hlen
  have d0 := cell_of_row _ _ 0 _ _ _ Y0.out
  have d1 := cell_of_row _ _ 1 _ _ _ Y0.out
  go_enter Try.func9, Try.ntmps9
  go_wp2_with fail
  rw [← HW.out]
  refine EL.out.mono ?_
  rintro e w1 ⟨v1, rfl, o1, b1⟩
  obtain ⟨ea, ec, rfl⟩ := o1.el.shape
  have HV : Hid (∀ W : World, Below w1.heap.size w1 W → ElL W (.slice ea L.length ec) L) := fun W h => o1.el.keeps h
  have B1 := Lib.hid (bt B0.out b1)
  rw [hn] at HV ⊢
  have hB1 : Hid (w.heap.size ≤ w1.heap.size) := B1.out.size
  clear b1 o1 Y0 B0 HW EL d0 d1 hn
  have Z0 : Hid (Strb.Is w1.heap.size w1.heap.size (wordM (L.take 0)) (w1.alloc (.cells #[.pointer none, .slice none 0 0] 62))) := Lib.IsBuilderF.of (Lib.fresh_isBuilder _ _ w1)
  have Z1 : Hid (Below w1.heap.size w1 (w1.alloc (.cells #[.pointer none, .slice none 0 0] 62))) := (Below.refl _ _).alloc (Nat.le_refl _) _
  go_wp2
  go_loopw [22] (fun i wr => ∃ j : Nat, j ≤ n ∧ i = .int .i64 (j : Int) ∧ Hid (Strb.Is w1.heap.size w1.heap.size (wordM (L.take j)) wr) ∧ Hid (Below w1.heap.size w1 wr)) (fun i _ => n - (intOf i).toNat)
  case atStart => exact ⟨0, by omega, rfl, Z0, Z1⟩
  case round =>
    clear Z0 Z1
    obtain ⟨j, hj, rfl, hbu, hbm⟩ := hrel
    have hsz : w1.heap.size ≤ wr.heap.size := hbm.out.size
    by_cases hjn : j < n
    rotate_left
    · have q3 : decide (j < n) = false := by simpa using hjn
      have hkk : L.take j = L := List.take_of_length_le (by have := HN.out; omega)
      rw [hkk] at hbu
      clear hkk HV HP
      go_wp2_with fail
      refine (Try.Builder_String_any_k w1.heap.size w1.heap.size (wordM L) _ hbu.out hsz).mono ?_
      rintro e w3 ⟨rfl, _, g2, _⟩
      have G2 : Hid (Below w.heap.size w w3) := B1.out.trans ((hbm.out.trans g2).mono hB1.out)
      clear g2
      go_wp2
      exact bodyPost_ret (v := .tuple #[.string (str (wordM L)), .int .i64 0]) (by simp [results, Try.results9, go_sem]; rfl) rfl ⟨rfl, G2.out⟩
    have q3 : decide (j < n) = true := by simpa using hjn
    have q4 : (0 : Int) ≤ (j : Int) := by omega
    have q5 : (j : Int) < (n : Int) := by omega
    have hjl : j < L.length := by rw [HN.out]; exact hjn
    obtain ⟨bb, oo, u, e, hbb, hru, h0, h1, h2, h3⟩ := el_at (ao := ea) (m := n) (cap := ec) (HV.out wr hbm.out) j hjl
    subst e
    have hpt := HP.out _ (List.getElem_mem hjl)
    have HWS := Lib.hid (wordM_snoc hjl)
    have hwl := wordM_len (L.take j)
    rw [List.length_take] at hwl
    have hfl : (wordM (L.take j)).length ≤ 4096 := by omega
    obtain ⟨uo, uc, rfl⟩ := hru.shape
    obtain ⟨nu, hnu⟩ : ∃ z, (L[j]'hjl).pl.length = z := ⟨_, rfl⟩
    obtain ⟨t, ht⟩ : ∃ z, (L[j]'hjl).t = z := ⟨_, rfl⟩
    obtain ⟨r, hr⟩ : ∃ z, (L[j]'hjl).r = z := ⟨_, rfl⟩
    obtain ⟨p, hp⟩ : ∃ p, (L[j]'hjl).p = p := ⟨_, rfl⟩
    rw [hnu] at h2
    rw [ht] at h0
    rw [hr] at h1
    rw [hp] at h3 hpt HWS
    have x1 : -2147483648 ≤ p := by have := hpt.1; omega
    have x2 : p ≤ 2147483647 := by have := hpt.2.1; omega
    have w1' : IntKind.i32.wrap p = p := IntWalk.i32_in _ (by omega)
    have BL : Hid (Below wr.heap.size wr (wr.alloc (.cells #[.int .u32 (t : Int), .int .u8 (r : Int), .slice uo nu uc, .int .i64 p] 34))) := (Below.refl _ _).alloc (Nat.le_refl _) _
    have BU := Lib.hid (is_below hbu.out BL.out)
    have BW := Lib.hid (bt hbm.out BL.out)
    have hs2 : Hid (w1.heap.size ≤ (wr.alloc (.cells #[.int .u32 (t : Int), .int .u8 (r : Int), .slice uo nu uc, .int .i64 p] 34)).heap.size) := BW.out.size
    clear hru hnu ht hr hp hwl hbb hbu HV HP hpt BL
    go_wp2_with fail
    refine (Strb.writeRune_any w1.heap.size w1.heap.size _ p x1 x2 _ BU.out (by omega) hs2.out).mono ?_
    rintro e w3 ⟨⟨y, rfl⟩, g1, g2, g3⟩
    have G1 : Hid (Strb.Is w1.heap.size w1.heap.size (wordM (L.take (j + 1))) w3) := by
      unfold Hid
      rw [HWS.out]
      exact g1
    have G2 : Hid (Below w1.heap.size w1 w3) := BW.out.trans g2
    clear g1 g2 g3 BU BW hs2 HWS h0 h1 h2 h3
    go_wp2
    go_roundw
    case rel => exact ⟨j + 1, by omega, by go_num, G1, G2⟩
    case measure => simp [intOf]; omega

/-! ### Offset -/
set_option maxRecDepth 100000 in
set_option maxHeartbeats 8000000 in
theorem vOffset_any {v u : Value} {l : List Opn} {p : List Run} (s : Id) {w : World} (hv : OpL w v l) (hu : Runs w u p) : Calls Try.prog 7 #[v, .agg #[.int .u32 (s.t : Int), .int .u8 (s.r : Int)], u] w fun e w' => e = .returned (.tuple #[.int .i64 ((offN l s p : Nat) : Int), .int .i64 (offE l s p)]) ∧ Below w.heap.size w w' := by
  obtain ⟨wl, hwl⟩ : ∃ x, x = w.alloc (.cells #[.int .u32 (s.t : Int), .int .u8 (s.r : Int)] 29) := ⟨_, rfl⟩
  have B0 : Hid (Below w.heap.size w wl) := by rw [hwl]; exact (Below.refl _ _).alloc (Nat.le_refl _) _
  have Y0 : Hid (wl.heap[w.heap.size]? = some (.cells #[.int .u32 (s.t : Int), .int .u8 (s.r : Int)] 29)) := by rw [hwl]; exact blk_new rfl
  have HW := Lib.hid hwl
  have EL : Hid (Calls Try.prog 13 #[v, .agg #[.int .u32 (s.t : Int), .int .u8 (s.r : Int)]] wl (DoneOE (elmL l s) (spanE l s) wl)) := vElements_any s (hv.keeps B0.out)
  have CK : Hid (∀ W : World, Below w.heap.size w W → Calls Try.prog 18 #[u] W fun e w' => e = .returned (.int .i64 (Go.Proofs.Ytohiidgdpecbdaa.Place.chk p)) ∧ Below W.heap.size W w') := fun W h => Go.Proofs.Ytohiidgdpecbdaa.Place.check_any (hu.keeps h)
  have BN : Hid (anyB p = true → ∀ (W : World) (y : Value), OwnE W w.heap.size y (elmL l s) → Below w.heap.size w W → Calls Try.prog 19 #[y, u, .func (.func 20) #[] #[]] W fun e w' => (∃ q : Bool, e = .returned (.tuple #[.int .i64 (befM (elmL l s) p : Int), .bool q])) ∧ Below W.heap.size W w') := fun hp W y h h2 => vBin_any h.el (hu.keeps h2) (by have := (elm_fits l s).1; omega) (elm_fits l s).2 (elm_sorted l s) hp
  unfold DoneOE at EL
  obtain ⟨L, hL⟩ : ∃ L, elmL l s = L := ⟨_, rfl⟩
  have eN : offN l s p = if spanE l s = 0 ∧ anyB p = true then befM L p else 0 := by unfold offN; rw [hL]
  have eE : offE l s p = if spanE l s = 0 then (if anyB p = true then 0 else 8) else spanE l s := rfl
  rw [hL] at EL BN
  rw [eN, eE]
  obtain ⟨x, hx⟩ : ∃ x, spanE l s = x := ⟨_, rfl⟩
  rw [hx] at EL ⊢
  obtain ⟨uo, uc, rfl⟩ := hu.shape
  have hum := hu.max
  clear hv hu hwl hL eN eE hx
  obtain ⟨ts, rs, hts, hrs⟩ := s
  simp only at Y0 HW EL ⊢
  by_cases h0 : x = 0
  rotate_left
  · rw [if_neg (fun h => h0 h.1), if_neg h0]
    have q0 : (x != 0) = true := by simpa using h0
    have q1 : decide (x = 0) = false := decide_eq_false h0
    generalize p.length = np at *
    have d0 := cell_of_row _ _ 0 _ _ _ Y0.out
    have d1 := cell_of_row _ _ 1 _ _ _ Y0.out
    clear CK BN
    go_enter Try.func7, Try.ntmps7
    go_wp2_with fail
    rw [← HW.out]
    refine EL.out.mono ?_
    rintro e w1 ⟨v1, rfl, o1, b1⟩
    have B1 := Lib.hid (bt B0.out b1)
    clear b1 o1 Y0 B0 HW EL d0 d1
    go_wp2
    exact bodyPost_ret (v := .tuple #[.int .i64 0, .int .i64 x]) (by simp [results, Try.results7, go_sem]) rfl ⟨rfl, B1.out⟩
  subst h0
  have HPA : Hid (anyB p = (decide (p.length = 0) || mayB p)) := rfl
  by_cases hp : anyB p = true
  rotate_left
  · have hp' : anyB p = false := by simpa using hp
    rw [if_neg (fun h => hp h.2), if_pos rfl, if_neg hp]
    have hA := HPA.out
    rw [hp'] at hA
    have hn0 : ¬ p.length = 0 := by
      intro h
      rw [h] at hA
      simp at hA
    have hmb : mayB p = false := by
      rw [decide_eq_false hn0, Bool.false_or] at hA
      exact hA.symm
    have hck : Go.Proofs.Ytohiidgdpecbdaa.Place.chk p = 8 := by unfold Go.Proofs.Ytohiidgdpecbdaa.Place.chk; rw [hmb]; rfl
    rw [hck] at CK
    obtain ⟨np, hnp⟩ : ∃ np, p.length = np := ⟨_, rfl⟩
    rw [hnp] at hn0 hum CK ⊢
    have t1 : decide ((0 : Int) < (np : Int)) = true := decide_eq_true (by omega)
    have t2 : decide (0 < np) = true := decide_eq_true (by omega)
    have d0 := cell_of_row _ _ 0 _ _ _ Y0.out
    have d1 := cell_of_row _ _ 1 _ _ _ Y0.out
    clear BN HPA hp hp' hA hmb hck hnp
    go_enter Try.func7, Try.ntmps7
    go_wp2_with fail
    rw [← HW.out]
    refine EL.out.mono ?_
    rintro e w1 ⟨v1, rfl, o1, b1⟩
    have B1 := Lib.hid (bt B0.out b1)
    clear b1 o1 Y0 B0 HW EL d0 d1
    go_wp2_with fail
    refine (CK.out _ B1.out).mono ?_
    rintro e w2 ⟨rfl, b2⟩
    have B2 := Lib.hid (bt B1.out b2)
    clear b2 CK B1 t1 t2
    go_wp2
    exact bodyPost_ret (v := .tuple #[.int .i64 0, .int .i64 8]) (by simp [results, Try.results7, go_sem]) rfl ⟨rfl, B2.out⟩
  rw [if_pos ⟨rfl, hp⟩, if_pos rfl, if_pos hp]
  have BN2 := Lib.hid (BN.out hp)
  have hk0 : ¬ p.length = 0 → Go.Proofs.Ytohiidgdpecbdaa.Place.chk p = 0 := fun h => by
    have hA := HPA.out
    rw [hp, decide_eq_false h, Bool.false_or] at hA
    unfold Go.Proofs.Ytohiidgdpecbdaa.Place.chk
    rw [← hA]
    rfl
  obtain ⟨c, hc⟩ : ∃ c, Go.Proofs.Ytohiidgdpecbdaa.Place.chk p = c := ⟨_, rfl⟩
  rw [hc] at CK hk0
  obtain ⟨K, hK⟩ : ∃ K, befM L p = K := ⟨_, rfl⟩
  rw [hK] at BN2 ⊢
  obtain ⟨np, hnp⟩ : ∃ np, p.length = np := ⟨_, rfl⟩
  rw [hnp] at hum CK BN2 hk0 ⊢
  clear BN HPA hp hc hK hnp
  have d0 := cell_of_row _ _ 0 _ _ _ Y0.out
  have d1 := cell_of_row _ _ 1 _ _ _ Y0.out
  by_cases hz : np = 0
  · subst hz
    clear CK hk0
    go_enter Try.func7, Try.ntmps7
    go_wp2_with fail
    rw [← HW.out]
    refine EL.out.mono ?_
    rintro e w1 ⟨v1, rfl, o1, b1⟩
    have B1 := Lib.hid (bt B0.out b1)
    have O1 := Lib.hid (o1.base (b' := w.heap.size) B0.out.size)
    clear b1 o1 Y0 B0 HW EL d0 d1
    go_wp2_with fail
    refine (BN2.out _ _ O1.out B1.out).mono ?_
    rintro e w2 ⟨⟨q, rfl⟩, b2⟩
    have B2 := Lib.hid (bt B1.out b2)
    clear b2 B1 O1 BN2
    go_wp2
    exact bodyPost_ret (v := .tuple #[.int .i64 (K : Int), .int .i64 0]) (by simp [results, Try.results7, go_sem]) rfl ⟨rfl, B2.out⟩
  · obtain rfl := hk0 hz
    have t1 : decide ((0 : Int) < (np : Int)) = true := decide_eq_true (by omega)
    have t2 : decide (0 < np) = true := decide_eq_true (by omega)
    clear hk0
    go_enter Try.func7, Try.ntmps7
    go_wp2_with fail
    rw [← HW.out]
    refine EL.out.mono ?_
    rintro e w1 ⟨v1, rfl, o1, b1⟩
    have B1 := Lib.hid (bt B0.out b1)
    have O1 := Lib.hid (o1.base (b' := w.heap.size) B0.out.size)
    clear b1 o1 Y0 B0 HW EL d0 d1
    go_wp2_with fail
    refine (CK.out _ B1.out).mono ?_
    rintro e w2 ⟨rfl, b2⟩
    have B2 := Lib.hid (bt B1.out b2)
    have O2 := Lib.hid (O1.out.keeps b2)
    clear b2 B1 O1 CK t1 t2
    go_wp2_with fail
    refine (BN2.out _ _ O2.out B2.out).mono ?_
    rintro e w3 ⟨⟨q, rfl⟩, b3⟩
    have B3 := Lib.hid (bt B2.out b3)
    clear b3 B2 O2 BN2
    go_wp2
    exact bodyPost_ret (v := .tuple #[.int .i64 (K : Int), .int .i64 0]) (by simp [results, Try.results7, go_sem]) rfl ⟨rfl, B3.out⟩

/-! ### At -/
theorem holdE_at {w : World} {base : Nat} : ∀ {cs : List Value} {l : List Opn}, HoldE w base cs l → ∀ (k : Nat) (h : k < l.length), ∃ y, cs[k * 4 + 2]? = some y ∧ w.ownsRow base 31 3 y (l[k]'h).pl.length (runs (l[k]'h).pl)
  | _, [], _, k, h => by simp at h
  | _, x :: l, ⟨v, d, h1, h2, h3⟩, 0, _ => ⟨v, by rw [h1]; rfl, h2⟩
  | _, x :: l, ⟨v, d, h1, h2, h3⟩, k + 1, h => by
    obtain ⟨y, e1, e2⟩ := holdE_at h3 k (by simpa using h)
    refine ⟨y, ?_, e2⟩
    rw [h1, show (k + 1) * 4 + 2 = k * 4 + 2 + 4 by omega]
    simpa using e1
theorem ownE_place {w : World} {base n cap bb oo : Nat} {v u : Value} {l : List Opn} (hv : OwnE w base v l) (k : Nat) (h : k < l.length) (e : v = .slice (some ⟨bb, oo, none⟩) n cap) (hc : w.cell? ⟨bb, oo + k * 4 + 2, none⟩ = some u) : w.ownsRow base 31 3 u (l[k]'h).pl.length (runs (l[k]'h).pl) := by
  obtain ⟨cs, h1, h2⟩ := hv
  obtain ⟨y, e1, e2⟩ := holdE_at h2 k h
  rcases h1.2 with ⟨_, h0⟩ | ⟨g, c2, cur, rfl, _⟩
  · omega
  · injection e with e _ _
    injection e with e
    injection e with e3 e4 _
    subst e3 e4
    rw [Nat.zero_add, h1.cellAt (k * 4 + 2) (by omega), e1] at hc
    injection hc with hc
    subst hc
    exact e2
theorem own_put4 {X : World} {g base n : Nat} {u : Value} {rs : List Value} {cs : Array Value} (d0 d1 d2 d3 : Value) (h : X.ownsRow base 31 3 u n rs) (hg : X.heap[g]? = some (.cells cs 34)) : (put4 X g d0 d1 d2 d3).ownsRow base 31 3 u n rs := by
  refine ⟨h.1, ?_⟩
  rcases h.2 with h | ⟨b, cap, c, e1, e2, e3, e4⟩
  · exact .inl h
  · refine .inr ⟨b, cap, c, e1, e2, put4_other d0 d1 d2 d3 ?_ e3, e4⟩
    rintro rfl
    rw [hg] at e3
    injection e3 with e3
    injection e3 with _ e3 _
    exact absurd e3 (by decide)
set_option maxRecDepth 100000 in
set_option maxHeartbeats 8000000 in
theorem vAt_any {v : Value} {l : List Opn} (s : Id) (k : Int) {w : World} (hv : OpL w v l) : Calls Try.prog 8 #[v, .agg #[.int .u32 (s.t : Int), .int .u8 (s.r : Int)], .int .i64 k] w (OneE (atL l s k) (atE l s k) w) := by
  obtain ⟨wb, hwb⟩ : ∃ x, x = w.alloc (.cells #[.int .u32 (s.t : Int), .int .u8 (s.r : Int)] 29) := ⟨_, rfl⟩
  obtain ⟨wl, hwl⟩ : ∃ x, x = wb.alloc (.cells #[.int .u32 0, .int .u8 0, .slice none 0 0, .int .i64 0] 34) := ⟨_, rfl⟩
  have hsz : wb.heap.size = w.heap.size + 1 := by rw [hwb]; exact Array.size_push _
  have X0 : Hid (wl.heap[w.heap.size + 1]? = some (.cells #[.int .u32 0, .int .u8 0, .slice none 0 0, .int .i64 0] 34)) := by rw [hwl, ← hsz]; exact blk_new rfl
  have Bb : Below w.heap.size w wb := by rw [hwb]; exact (Below.refl _ _).alloc (Nat.le_refl _) _
  have Y0 : Hid (wl.heap[w.heap.size]? = some (.cells #[.int .u32 (s.t : Int), .int .u8 (s.r : Int)] 29)) := by
    have h1 : wb.heap[w.heap.size]? = some (.cells #[.int .u32 (s.t : Int), .int .u8 (s.r : Int)] 29) := by rw [hwb]; exact blk_new rfl
    rw [hwl]
    exact blk_below ((Below.refl _ _).alloc (Nat.le_refl _) _) h1
  have B0 : Hid (Below w.heap.size w wl) := by rw [hwl]; exact Bb.alloc (by omega) _
  have HW : Hid (wl = (w.alloc (.cells #[.int .u32 (s.t : Int), .int .u8 (s.r : Int)] 29)).alloc (.cells #[.int .u32 0, .int .u8 0, .slice none 0 0, .int .i64 0] 34)) := by rw [hwl, hwb]; rfl
  have EL : Hid (Calls Try.prog 13 #[v, .agg #[.int .u32 (s.t : Int), .int .u8 (s.r : Int)]] wl (DoneOE (elmL l s) (spanE l s) wl)) := vElements_any s (hv.keeps B0.out)
  have hlen := (elm_fits l s).1
  unfold DoneOE at EL
  have eE : atE l s k = if spanE l s = 0 then (if 0 ≤ k ∧ k < ((elmL l s).length : Int) then 0 else 2) else spanE l s := rfl
  have eL : atL l s k = if spanE l s = 0 ∧ 0 ≤ k ∧ k < ((elmL l s).length : Int) then (elmL l s).getD k.toNat Codes.zop else Codes.zop := rfl
  rw [eE, eL]
  obtain ⟨L, hL⟩ : ∃ L, elmL l s = L := ⟨_, rfl⟩
  rw [hL] at EL hlen ⊢
  obtain ⟨x, hx⟩ : ∃ x, spanE l s = x := ⟨_, rfl⟩
  rw [hx] at EL ⊢
  clear hv hwl hwb hsz Bb hL hx eE eL
  obtain ⟨ts, rs, hts, hrs⟩ := s
  simp only at Y0 HW EL ⊢
  by_cases h0 : x = 0
  rotate_left
  · rw [if_neg (fun h => h0 h.1), if_neg h0]
    have q0 : (x != 0) = true := by simpa using h0
    have q1 : decide (x = 0) = false := decide_eq_false h0
    have d0 := cell_of_row _ _ 0 _ _ _ Y0.out
    have d1 := cell_of_row _ _ 1 _ _ _ Y0.out
    go_enter Try.func8, Try.ntmps8
    go_wp2_with fail
    rw [← HW.out]
    refine EL.out.mono ?_
    rintro e w1 ⟨v1, rfl, o1, b1⟩
    obtain ⟨ea, ec, rfl⟩ := o1.el.shape
    have O1 : Hid (OwnE w1 w.heap.size (.slice ea _ ec) L) := o1.base B0.out.size
    have B1 := Lib.hid (bt B0.out b1)
    have X1 := Lib.hid (blk_below b1 X0.out)
    clear b1 o1 Y0 X0 B0 HW EL d0 d1
    obtain ⟨c0, c1, c2, c3⟩ := cells4 X1.out
    have f0 : ∀ o, w1.frozen? ⟨w.heap.size + 1, o, none⟩ = false := fun o => free4 X1.out o
    have HF := Lib.hid (put4_same (.int .u32 0) (.int .u8 0) (.slice none 0 0) (.int .i64 0) X1.out)
    have BF := Lib.hid (put4_below (.int .u32 0) (.int .u8 0) (.slice none 0 0) (.int .i64 0) (Nat.le_add_right w.heap.size 1) B1.out)
    obtain ⟨WF, hWF⟩ : ∃ WF, put4 w1 (w.heap.size + 1) (.int .u32 0) (.int .u8 0) (.slice none 0 0) (.int .i64 0) = WF := ⟨_, rfl⟩
    rw [hWF] at HF BF
    unfold put4 at hWF
    have HX := Lib.hid hWF
    clear hWF X1 B1 O1
    go_wp2
    rw [HX.out]
    obtain ⟨e0, e1, e2, e3⟩ := cells4 HF.out
    exact bodyPost_ret (v := .tuple #[.agg #[.int .u32 0, .int .u8 0, .slice none 0 0, .int .i64 0], .int .i64 x]) (by simp [results, Try.results8, go_sem, e0, e1, e2, e3]) rfl ⟨_, rfl, World.ownsRow_nil _ _ _ _, BF.out⟩
  subst h0
  obtain ⟨n, hn⟩ : ∃ n, L.length = n := ⟨_, rfl⟩
  have HN := Lib.hid hn
  by_cases hk : 0 ≤ k ∧ k < (L.length : Int)
  rotate_left
  · rw [if_neg (fun h => hk h.2), if_pos rfl, if_neg hk]
    rw [hn] at hk hlen
    by_cases hneg : k < 0
    · have q2 : decide (k < 0) = true := decide_eq_true hneg
      have d0 := cell_of_row _ _ 0 _ _ _ Y0.out
      have d1 := cell_of_row _ _ 1 _ _ _ Y0.out
      go_enter Try.func8, Try.ntmps8
      go_wp2_with fail
      rw [← HW.out]
      refine EL.out.mono ?_
      rintro e w1 ⟨v1, rfl, o1, b1⟩
      obtain ⟨ea, ec, rfl⟩ := o1.el.shape
      have O1 : Hid (OwnE w1 w.heap.size (.slice ea _ ec) L) := o1.base B0.out.size
      have B1 := Lib.hid (bt B0.out b1)
      have X1 := Lib.hid (blk_below b1 X0.out)
      clear b1 o1 Y0 X0 B0 HW EL d0 d1
      rw [HN.out]
      obtain ⟨c0, c1, c2, c3⟩ := cells4 X1.out
      have f0 : ∀ o, w1.frozen? ⟨w.heap.size + 1, o, none⟩ = false := fun o => free4 X1.out o
      have HF := Lib.hid (put4_same (.int .u32 0) (.int .u8 0) (.slice none 0 0) (.int .i64 0) X1.out)
      have BF := Lib.hid (put4_below (.int .u32 0) (.int .u8 0) (.slice none 0 0) (.int .i64 0) (Nat.le_add_right w.heap.size 1) B1.out)
      obtain ⟨WF, hWF⟩ : ∃ WF, put4 w1 (w.heap.size + 1) (.int .u32 0) (.int .u8 0) (.slice none 0 0) (.int .i64 0) = WF := ⟨_, rfl⟩
      rw [hWF] at HF BF
      unfold put4 at hWF
      have HX := Lib.hid hWF
      clear hWF X1 B1 O1
      go_wp2
      rw [HX.out]
      obtain ⟨e0, e1, e2, e3⟩ := cells4 HF.out
      exact bodyPost_ret (v := .tuple #[.agg #[.int .u32 0, .int .u8 0, .slice none 0 0, .int .i64 0], .int .i64 2]) (by simp [results, Try.results8, go_sem, e0, e1, e2, e3]) rfl ⟨_, rfl, World.ownsRow_nil _ _ _ _, BF.out⟩
    · have q2 : decide (k < 0) = false := decide_eq_false hneg
      have q3 : decide ((n : Int) ≤ k) = true := decide_eq_true (by omega)
      have d0 := cell_of_row _ _ 0 _ _ _ Y0.out
      have d1 := cell_of_row _ _ 1 _ _ _ Y0.out
      go_enter Try.func8, Try.ntmps8
      go_wp2_with fail
      rw [← HW.out]
      refine EL.out.mono ?_
      rintro e w1 ⟨v1, rfl, o1, b1⟩
      obtain ⟨ea, ec, rfl⟩ := o1.el.shape
      have O1 : Hid (OwnE w1 w.heap.size (.slice ea _ ec) L) := o1.base B0.out.size
      have B1 := Lib.hid (bt B0.out b1)
      have X1 := Lib.hid (blk_below b1 X0.out)
      clear b1 o1 Y0 X0 B0 HW EL d0 d1
      rw [HN.out]
      obtain ⟨c0, c1, c2, c3⟩ := cells4 X1.out
      have f0 : ∀ o, w1.frozen? ⟨w.heap.size + 1, o, none⟩ = false := fun o => free4 X1.out o
      have HF := Lib.hid (put4_same (.int .u32 0) (.int .u8 0) (.slice none 0 0) (.int .i64 0) X1.out)
      have BF := Lib.hid (put4_below (.int .u32 0) (.int .u8 0) (.slice none 0 0) (.int .i64 0) (Nat.le_add_right w.heap.size 1) B1.out)
      obtain ⟨WF, hWF⟩ : ∃ WF, put4 w1 (w.heap.size + 1) (.int .u32 0) (.int .u8 0) (.slice none 0 0) (.int .i64 0) = WF := ⟨_, rfl⟩
      rw [hWF] at HF BF
      unfold put4 at hWF
      have HX := Lib.hid hWF
      clear hWF X1 B1 O1
      go_wp2
      rw [HX.out]
      obtain ⟨e0, e1, e2, e3⟩ := cells4 HF.out
      exact bodyPost_ret (v := .tuple #[.agg #[.int .u32 0, .int .u8 0, .slice none 0 0, .int .i64 0], .int .i64 2]) (by simp [results, Try.results8, go_sem, e0, e1, e2, e3]) rfl ⟨_, rfl, World.ownsRow_nil _ _ _ _, BF.out⟩
  rw [if_pos ⟨rfl, hk⟩, if_pos rfl, if_pos hk]
  obtain ⟨j, rfl⟩ : ∃ j : Nat, k = (j : Int) := ⟨k.toNat, by omega⟩
  rw [Int.toNat_natCast]
  have hjl : j < L.length := by omega
  have hg : L.getD j Codes.zop = L[j]'hjl := by rw [List.getD_eq_getElem?_getD, List.getElem?_eq_getElem hjl]; rfl
  rw [hg]
  obtain ⟨y, hy⟩ : ∃ y, L[j]'hjl = y := ⟨_, rfl⟩
  rw [hn] at hk hlen
  rw [hy]
  have HY := Lib.hid hy
  clear hy
  obtain ⟨yk, t, r, yl, p, hyk, ht, hr, hp⟩ := y
  unfold OneE elv
  simp only
  have q2 : decide ((j : Int) < 0) = false := decide_eq_false (by omega)
  have q3 : decide ((n : Int) ≤ (j : Int)) = false := decide_eq_false (by omega)
  have q3' : decide (n ≤ j) = false := decide_eq_false (by omega)
  have q4 : (0 : Int) ≤ (j : Int) := by omega
  have q5 : (j : Int) < (n : Int) := by omega
  clear hg hn
  have d0 := cell_of_row _ _ 0 _ _ _ Y0.out
  have d1 := cell_of_row _ _ 1 _ _ _ Y0.out
  go_enter Try.func8, Try.ntmps8
  go_wp2_with fail
  rw [← HW.out]
  refine EL.out.mono ?_
  rintro e w1 ⟨v1, rfl, o1, b1⟩
  obtain ⟨ea, ec, rfl⟩ := o1.el.shape
  have O1 : Hid (OwnE w1 w.heap.size (.slice ea _ ec) L) := o1.base B0.out.size
  have B1 := Lib.hid (bt B0.out b1)
  have X1 := Lib.hid (blk_below b1 X0.out)
  clear b1 o1 Y0 X0 B0 HW EL d0 d1
  obtain ⟨bb, oo, u, e, hbb, hru, h0, h1, h2, h3⟩ := el_at O1.out.el j hjl
  have hrow := ownE_place O1.out j hjl (by rw [e]) h2
  cases e
  rw [HY.out] at hru h0 h1 h3 hrow
  simp only at hru h0 h1 h3 hrow
  obtain ⟨uo, uc, rfl⟩ := hru.shape
  have RU := Lib.hid hrow
  rw [HN.out]
  obtain ⟨ny, hny⟩ : ∃ z, yl.length = z := ⟨_, rfl⟩
  have HNY := Lib.hid hny
  rw [hny] at RU h2
  clear hru hrow hny HY hbb
  obtain ⟨c0, c1, c2, c3⟩ := cells4 X1.out
  have f0 : ∀ o, w1.frozen? ⟨w.heap.size + 1, o, none⟩ = false := fun o => free4 X1.out o
  have HF := Lib.hid (put4_same (.int .u32 (t : Int)) (.int .u8 (r : Int)) (.slice uo ny uc) (.int .i64 p) X1.out)
  have BF := Lib.hid (put4_below (.int .u32 (t : Int)) (.int .u8 (r : Int)) (.slice uo ny uc) (.int .i64 p) (Nat.le_add_right w.heap.size 1) B1.out)
  have RF := Lib.hid (own_put4 (.int .u32 (t : Int)) (.int .u8 (r : Int)) (.slice uo ny uc) (.int .i64 p) RU.out X1.out)
  obtain ⟨WF, hWF⟩ : ∃ WF, put4 w1 (w.heap.size + 1) (.int .u32 (t : Int)) (.int .u8 (r : Int)) (.slice uo ny uc) (.int .i64 p) = WF := ⟨_, rfl⟩
  rw [hWF] at HF BF RF
  unfold put4 at hWF
  have HX := Lib.hid hWF
  clear hWF X1 B1 O1
  go_wp2
  rw [HX.out]
  obtain ⟨e0, e1, e2, e3⟩ := cells4 HF.out
  exact bodyPost_ret (v := .tuple #[.agg #[.int .u32 (t : Int), .int .u8 (r : Int), .slice uo ny uc, .int .i64 p], .int .i64 0]) (by simp [results, Try.results8, go_sem, e0, e1, e2, e3]) rfl ⟨_, rfl, by rw [HNY.out]; exact RF.out, BF.out⟩
end Go.Proofs.Ytohiidgdpecbdaa.Views

/- octavo/bag.Same: what it answers. Conditions: the slices' cells are operations. -/
namespace Go.Proofs.Ytohiidgdpecbdaa.Bags
open Go.RowKit Go.WideShapes Stamp Go.Proofs.Ytohiidgdpecbdaa.Place Ops Codes
attribute [local go_sem ↓] Go.wp_at_zero Go.wp_at_succ

end Go.Proofs.Ytohiidgdpecbdaa.Bags

/- 'copy' between slices whose elements have several cells, the target a row known whole; 'append' of a make onto a part without room. Conditions: none. -/
namespace Go.Proofs.Ytohiidgdpecbdaa
open Go.RowKit Go.WideShapes

theorem run_copy_sz {P : Program} (w : World) (dT sT ty elem : TypeId) (g o dLen dCap n sz : Nat) (a : Addr) (sLen sCap : Nat) (cur : Array Value) (t : TypeId) (cs : List Value)
    (hu : P.underlying dT = some (.slice elem)) (hs : (P.info? elem).map (·.size) = some sz)
    (hg : w.heap[g]? = some (.cells cur t (0, 0))) (hn : Nat.min sLen dLen = n) (hl : cs.length = n * sz)
    (hsrc : ∀ j v, cs[j]? = some v → w.cell? (a.add j) = some v) (hfit : o + cs.length ≤ cur.size) (h1 : ∀ v ∈ cs, v.oneCell' = true) :
    (Builtin.copy_ #[dT, sT] ty #[.slice (some ⟨g, o, none⟩) dLen dCap, .slice (some a) sLen sCap]).run P w =
      .ok (goInt n) (w.setRow g (cur.toList.take o ++ cs ++ cur.toList.drop (o + cs.length)).toArray) := by
  have hld := run_loadCells_list (P := P) w a cs hsrc
  have hst := run_storeCells_at P g o t cs 0 cur w hg (by simpa using hfit) h1
  cases hq : P.info? elem with
  | none => simp [hq] at hs
  | some i =>
    have hi : i.size = sz := by simpa [hq] using hs
    simp [Builtin.copy_, run_underlying hu, Builtin.lenOf, Builtin.firstCells, sizeOf, typeInfo, hq, hi, hn, ← hl, hld, hst]
theorem run_copy_sz_none {P : Program} (w : World) (dT sT ty elem : TypeId) (d a : Option Addr) (dLen dCap sLen sCap sz : Nat) (hu : P.underlying dT = some (.slice elem)) (hs : (P.info? elem).map (·.size) = some sz) (hn : Nat.min sLen dLen = 0) :
    (Builtin.copy_ #[dT, sT] ty #[.slice d dLen dCap, .slice a sLen sCap]).run P w = .ok (goInt 0) w := by
  cases hq : P.info? elem with
  | none => simp [hq] at hs
  | some i =>
    have hl : ∀ (x : Addr), (loadCells x 0).run P w = .ok #[] w := fun x => by simpa using run_loadCells_list (P := P) w x [] (by simp)
    cases d <;> cases a <;> simp [Builtin.copy_, run_underlying hu, Builtin.lenOf, Builtin.firstCells, sizeOf, typeInfo, hq, hn, storeCells, hl]

/-- What a copy of n elements does: the row behind it, all else as it was. -/
def Copied (w : World) (g : Nat) (cur : List Value) (off : Nat) (cs : List Value) (t : TypeId) (w' : World) : Prop :=
  w'.heap[g]? = some (.cells (splice cur off cs).toArray t (0, 0)) ∧ (∀ k, k ≠ g → w'.heap[k]? = w.heap[k]?) ∧ w'.heap.size = w.heap.size ∧ ∀ B, B ≤ g → Below B w w'
theorem copied_none {w : World} {g : Nat} {cur : List Value} {off : Nat} {t : TypeId} (hg : w.heap[g]? = some (.cells cur.toArray t (0, 0))) : Copied w g cur off [] t w :=
  ⟨by simpa [splice] using hg, fun _ _ => rfl, rfl, fun _ _ => Below.refl _ _⟩
theorem copied_row {w : World} {g : Nat} {cur : List Value} {off : Nat} {cs : List Value} {t : TypeId} (hg : w.heap[g]? = some (.cells cur.toArray t (0, 0))) :
    Copied w g cur off cs t (w.setRow g (cur.toArray.toList.take off ++ cs ++ cur.toArray.toList.drop (off + cs.length)).toArray) :=
  ⟨by simpa [splice] using setRow_heap w g _ _ t _ hg, fun k hk => setRow_other w g k _ (fun h => hk h), by simp [World.setRow], fun _ hB => below_setRow (Below.refl _ _) hB _⟩

theorem run_copy_any {P : Program} (w : World) (dT sT ty elem : TypeId) (hu : P.underlying dT = some (.slice elem)) {sz : Nat} (hsz : (P.info? elem).map (·.size) = some sz) (dp sp : Option Addr) (dLen dCap sLen sCap n : Nat)
    (g off : Nat) (cur : List Value) (t : TypeId) (hg : w.heap[g]? = some (.cells cur.toArray t (0, 0))) (hn : Nat.min sLen dLen = n) (cs : List Value) (hl : cs.length = n * sz)
    (hpos : 0 < n → dp = some ⟨g, off, none⟩ ∧ ∃ ad, sp = some ad ∧ ∀ j v, cs[j]? = some v → w.cell? (ad.add j) = some v)
    (hfit : off + cs.length ≤ cur.length) (h1 : ∀ v ∈ cs, v.oneCell' = true) :
    ∃ w', (Builtin.copy_ #[dT, sT] ty #[.slice dp dLen dCap, .slice sp sLen sCap]).run P w = .ok (goInt n) w' ∧ Copied w g cur off cs t w' := by
  by_cases h0 : n = 0
  · subst h0
    obtain rfl : cs = [] := List.eq_nil_of_length_eq_zero (by omega)
    exact ⟨w, run_copy_sz_none w dT sT ty elem dp sp dLen dCap sLen sCap sz hu hsz hn, copied_none hg⟩
  · obtain ⟨rfl, ad, rfl, hsrc⟩ := hpos (by omega)
    exact ⟨_, run_copy_sz w dT sT ty elem g off dLen dCap n sz ad sLen sCap cur.toArray t cs hu hsz hg hn hl hsrc (by simpa using hfit) h1, copied_row hg⟩
theorem wpList_copy_any {P : Program} {w : World} {ops : Array Oper} {rest : List Oper} {o : Oper} {a : Act} {Q : Exit → Act → World → Prop} (hgd : o.guard = none) (d s : Operand) (dT sT : TypeId)
    (ho : o.op = .call { callee := .builtin .copy, args := #[d, s], argTypes := #[dT, sT] }) (elem : TypeId) (hu : P.underlying dT = some (.slice elem)) {sz : Nat} (hsz : (P.info? elem).map (·.size) = some sz)
    (dp sp : Option Addr) (dLen dCap sLen sCap n : Nat) (hd : a.eval d = .slice dp dLen dCap) (hs : a.eval s = .slice sp sLen sCap)
    (g off : Nat) (cur : List Value) (t : TypeId) (hg : w.heap[g]? = some (.cells cur.toArray t (0, 0))) (hn : Nat.min sLen dLen = n) (cs : List Value) (hl : cs.length = n * sz)
    (hpos : 0 < n → dp = some ⟨g, off, none⟩ ∧ ∃ ad, sp = some ad ∧ ∀ j v, cs[j]? = some v → w.cell? (ad.add j) = some v)
    (hfit : off + cs.length ≤ cur.length) (h1 : ∀ v ∈ cs, v.oneCell' = true)
    (h : ∀ w', Hid (Copied w g cur off cs t w') → wpList P ops Q rest (a.put o.dst (goInt n)) w') : wpList P ops Q (o :: rest) a w := by
  refine wpList_plain hgd fun K hK => ?_
  obtain ⟨w', hrun, hc⟩ := run_copy_any (P := P) w dT sT o.type elem hu hsz dp sp dLen dCap sLen sCap n g off cur t hg hn cs hl hpos hfit h1
  unfold Oper.wp
  simp [execOp, ho, resolve, invoke, builtin, hd, hs, hrun, Result.andThen]
  exact hK _ _ (h w' hc)
end Go.Proofs.Ytohiidgdpecbdaa

/- Five cells stored in a row that is known whole; rows of another kind stay; lists of operations in such a row. Conditions: none. -/
namespace Go.Proofs.Ytohiidgdpecbdaa.Codes
open Go.RowKit Go.WideShapes Go.Proofs.Ytohiidgdpecbdaa.Place Ops

theorem splice_nil {α : Type} (L : List α) (o : Nat) : splice L o [] = L := by simp [splice]
theorem splice_cons {α : Type} (L : List α) (o : Nat) (v : α) (vs : List α) (h : o + (vs.length + 1) ≤ L.length) : splice L o (v :: vs) = splice (L.set o v) (o + 1) vs := by
  unfold splice
  have h1 : (L.set o v).take (o + 1) = L.take o ++ [v] := by
    rw [List.take_succ_eq_append_getElem (by simp; omega), List.take_set_of_le (Nat.le_refl _), List.getElem_set_self]
  have h2 : (L.set o v).drop (o + 1 + vs.length) = L.drop (o + (v :: vs).length) := by
    rw [List.drop_set_of_lt (by omega)]
    congr 1
    simp; omega
  rw [h1, h2]
  simp
theorem put_step {X : World} {g o : Nat} {cur : List Value} {t : TypeId} (d : Value) (h : X.heap[g]? = some (.cells cur.toArray t (0, 0))) :
    (X.setCell ⟨g, o, none⟩ d).heap[g]? = some (.cells (cur.set o d).toArray t (0, 0)) := by
  have := heap_setCell_same X g o _ _ d h
  simpa using this
theorem put5_copied {X : World} {g o : Nat} {cur : List Value} {t : TypeId} (d0 d1 d2 d3 d4 : Value) (h : X.heap[g]? = some (.cells cur.toArray t (0, 0))) (hl : o + 5 ≤ cur.length) :
    Copied X g cur o [d0, d1, d2, d3, d4] t (((((X.setCell ⟨g, o, none⟩ d0).setCell ⟨g, o + 1, none⟩ d1).setCell ⟨g, o + 2, none⟩ d2).setCell ⟨g, o + 3, none⟩ d3).setCell ⟨g, o + 4, none⟩ d4) := by
  refine ⟨?_, ?_, ?_, ?_⟩
  · have h5 := put_step d4 (o := o + 4) (put_step d3 (o := o + 3) (put_step d2 (o := o + 2) (put_step d1 (o := o + 1) (put_step d0 (o := o) h))))
    rw [h5, splice_cons _ _ _ _ (by simpa using hl), splice_cons _ _ _ _ (by simp; omega), splice_cons _ _ _ _ (by simp; omega), splice_cons _ _ _ _ (by simp; omega), splice_cons _ _ _ _ (by simp; omega), splice_nil]
  · intro k hk
    rw [heap_setCell_other _ _ _ _ hk, heap_setCell_other _ _ _ _ hk, heap_setCell_other _ _ _ _ hk, heap_setCell_other _ _ _ _ hk, heap_setCell_other _ _ _ _ hk]
  · simp
  · intro B hB
    exact (((((Below.refl B X).setCell (p := ⟨g, o, none⟩) hB _).setCell (p := ⟨g, o + 1, none⟩) hB _).setCell (p := ⟨g, o + 2, none⟩) hB _).setCell (p := ⟨g, o + 3, none⟩) hB _).setCell (p := ⟨g, o + 4, none⟩) hB _
/-- A row of another kind stays. -/
theorem own_copied {w w' : World} {base g sz n : Nat} {e t : TypeId} {v : Value} {cs cur cs' : List Value} {o : Nat} (h : w.ownsRow base e sz v n cs) (hg : w.heap[g]? = some (.cells cur.toArray t (0, 0))) (hne : t ≠ e) (hc : Copied w g cur o cs' t w') : w'.ownsRow base e sz v n cs := by
  refine ⟨h.1, h.2.imp id ?_⟩
  rintro ⟨b, cap, c2, e1, e2, e3, e4⟩
  refine ⟨b, cap, c2, e1, e2, ?_, e4⟩
  rw [hc.2.1 b (fun e => by
    subst e
    rw [hg] at e3
    injection e3 with e3
    injection e3 with e5 e6
    exact hne e6)]
  exact e3
theorem HoldP.copied {w w' : World} {base g : Nat} {cur cs' : List Value} {o : Nat} (hg : w.heap[g]? = some (.cells cur.toArray 54 (0, 0))) (hc : Copied w g cur o cs' 54 w') : ∀ {cs : List Value} {l : List Opn}, HoldP w base cs l → HoldP w' base cs l
  | _, [], h => h
  | _, _ :: _, ⟨v, d, h1, h2, h3⟩ => ⟨v, d, h1, own_copied h2 hg (by decide) hc, HoldP.copied hg hc h3⟩
theorem HoldP.len {w : World} {base : Nat} {cs : List Value} {l : List Opn} (h : HoldP w base cs l) : cs.length = l.length * 5 := Enc.rows_len (E := opE) h.rows
/-- A list in a row that is known whole. -/
theorem ownl_row {w : World} {base g cap : Nat} {cs d : List Value} {l : List Opn} {n : Nat} (hg : w.heap[g]? = some (.cells (cs ++ d).toArray 54 (0, 0))) (hb : base ≤ g) (h : HoldP w base cs l) (hn : n = l.length) (hc : (cs ++ d).length = cap * 5) (hm : cap ≤ maxLen) : OwnL w base (.slice (some ⟨g, 0, none⟩) n cap) l := by
  have hl := h.len
  subst hn
  refine ⟨cs, ⟨hl, .inr ⟨g, cap, _, rfl, hb, hg, ?_, hm, by simpa using hc, ?_⟩⟩, h⟩
  · rw [List.length_append, hl] at hc; omega
  · rw [← hl]; simp

/-! ### A list copied, its places made anew one by one -/
def TwR (w wr : World) (l : List Opn) (c0 : List Value) (j : Nat) : Prop :=
  ∃ A, HoldP wr w.heap.size A (l.take j) ∧ wr.heap[w.heap.size]? = some (.cells (A ++ c0.drop (j * 5)).toArray 54 (0, 0))
theorem twr_len {w wr : World} {l : List Opn} {j : Nat} {A : List Value} (h : HoldP wr w.heap.size A (l.take j)) (hj : j ≤ l.length) : A.length = j * 5 := by
  rw [h.len, List.length_take, Nat.min_eq_left hj]
theorem twr_at {w wr : World} {l : List Opn} {c0 : List Value} {j : Nat} (hc : opE.rows w c0 l) (h : TwR w wr l c0 j) (hj : j < l.length) :
    ∃ v, Runs w v (l[j]'hj).pl ∧ wr.cell? ⟨w.heap.size, j * 5, none⟩ = some (.int .u8 ((l[j]'hj).k : Int)) ∧ wr.cell? ⟨w.heap.size, j * 5 + 1, none⟩ = some (.int .u32 ((l[j]'hj).t : Int)) ∧ wr.cell? ⟨w.heap.size, j * 5 + 2, none⟩ = some (.int .u8 ((l[j]'hj).r : Int)) ∧
      wr.cell? ⟨w.heap.size, j * 5 + 3, none⟩ = some v ∧ wr.cell? ⟨w.heap.size, j * 5 + 4, none⟩ = some (.int .i64 (l[j]'hj).p) := by
  obtain ⟨A, h1, h2⟩ := h
  have hl := twr_len h1 (Nat.le_of_lt hj)
  obtain ⟨c, ⟨v, rfl, hr⟩, hcs⟩ := Enc.rows_at j hj hc
  have hcell : ∀ i u, i < 5 → ([Value.int .u8 ((l[j]'hj).k : Int), .int .u32 ((l[j]'hj).t : Int), .int .u8 ((l[j]'hj).r : Int), v, .int .i64 (l[j]'hj).p][i]? = some u) → wr.cell? ⟨w.heap.size, j * 5 + i, none⟩ = some u := fun i u hi hu => by
    rw [cell_of_row wr w.heap.size (j * 5 + i) _ _ _ h2]
    have h3 := hcs i hi
    rw [show opE.sz = 5 from rfl, hu] at h3
    rw [List.getElem?_toArray, List.getElem?_append_right (by omega), hl, List.getElem?_drop, show j * 5 + (j * 5 + i - j * 5) = j * 5 + i by omega]
    exact h3
  exact ⟨v, hr, hcell 0 _ (by decide) rfl, hcell 1 _ (by decide) rfl, hcell 2 _ (by decide) rfl, hcell 3 _ (by decide) rfl, hcell 4 _ (by decide) rfl⟩
theorem twr_step {w wr W8 X : World} {l : List Opn} {c0 : List Value} {j : Nat} {x : Opn} {u : Value} (hc : opE.rows w c0 l) (h : TwR w wr l c0 j) (hj : j < l.length) (hx : x = l[j]'hj) (hb : Below wr.heap.size wr W8)
    (ho : W8.ownsRow w.heap.size 31 3 u x.pl.length (runs x.pl))
    (hX : X = (((((W8.setCell ⟨w.heap.size, j * 5, none⟩ (.int .u8 (x.k : Int))).setCell ⟨w.heap.size, j * 5 + 1, none⟩ (.int .u32 (x.t : Int))).setCell ⟨w.heap.size, j * 5 + 2, none⟩ (.int .u8 (x.r : Int))).setCell ⟨w.heap.size, j * 5 + 3, none⟩ u).setCell ⟨w.heap.size, j * 5 + 4, none⟩ (.int .i64 x.p))) :
    TwR w X l c0 (j + 1) ∧ ∀ B, B ≤ w.heap.size → Below B W8 X := by
  obtain ⟨A, h1, h2⟩ := h
  have hl := twr_len h1 (Nat.le_of_lt hj)
  have h3 := blk_below hb h2
  have hcl : c0.length = l.length * 5 := Enc.rows_len hc
  have hc8 := put5_copied (o := j * 5) (.int .u8 (x.k : Int)) (.int .u32 (x.t : Int)) (.int .u8 (x.r : Int)) u (.int .i64 x.p) h3 (by rw [List.length_append, List.length_drop, hcl, hl]; omega)
  rw [← hX] at hc8
  refine ⟨⟨A ++ [.int .u8 (x.k : Int), .int .u32 (x.t : Int), .int .u8 (x.r : Int), u, .int .i64 x.p], ?_, ?_⟩, hc8.2.2.2⟩
  · rw [List.take_succ_eq_append_getElem hj, ← hx]
    exact HoldP.append (HoldP.copied h3 hc8 (h1.keeps hb)) ⟨u, [], rfl, own_copied ho h3 (by decide) hc8, rfl⟩
  · rw [hc8.1]
    congr 3
    unfold splice
    rw [List.take_append_of_le_length (by omega), List.take_of_length_le (by omega), List.append_assoc]
    congr 2
    rw [List.drop_append, List.drop_eq_nil_of_le (by simp; omega), List.nil_append, List.drop_drop]
    congr 1
    simp; omega
end Go.Proofs.Ytohiidgdpecbdaa.Codes

/- octavo/bag.Twin: what it answers. Conditions: the slice's cells are operations, not more than memory holds. -/
namespace Go.Proofs.Ytohiidgdpecbdaa.Bags
open Go.RowKit Go.WideShapes Stamp Go.Proofs.Ytohiidgdpecbdaa.Place Ops Codes
attribute [local go_sem ↓] Go.wp_at_zero Go.wp_at_succ

theorem made_opsN (n : Nat) (hn : n ≤ 1000000000) : ∃ Z : List Value, Z.length = n * 5 ∧ ∀ w : World, (Instr.makeSlice 22 (.int .i64 (n : Int)) (.int .i64 (n : Int))).run Try.prog w = .ok (.slice (some ⟨w.heap.size, 0, none⟩) n n) (w.alloc (.cells Z.toArray 54)) := by
  obtain ⟨i, hi, hz0, hz1, hz2⟩ := info_parts op_info
  refine ⟨(madeCells (Value.agg #[.int .u8 0, .int .u32 0, .int .u8 0, .slice none 0 0, .int .i64 0]).cells (n * 5)).toList, by simp [size_madeCells], fun w => ?_⟩
  have h := run_make (P := Try.prog) w 22 54 i _ Try.underlying22 hi hz0 .i64 .i64 (n : Int) (n : Int) (by omega) (by omega) (by rw [hz2]; omega) (by omega)
  rw [hz1] at h
  simpa using h

set_option maxRecDepth 100000 in
set_option maxHeartbeats 8000000 in
theorem bTwinX_any {v : Value} {l : List Opn} {w : World} (hv : OpL w v l) (hl : l.length ≤ 1000000000) (hp : ∀ o ∈ l, o.pl.length ≤ 8796093022208) :
    Calls Try.prog 38 #[v] w fun e w' => e = .returned (.slice (some ⟨w.heap.size, 0, none⟩) l.length l.length) ∧ OwnL w' w.heap.size (.slice (some ⟨w.heap.size, 0, none⟩) l.length l.length) l ∧ Below w.heap.size w w' := by
  obtain ⟨ao, cap, rfl⟩ := hv.shape
  obtain ⟨c0, hs0, hr0⟩ := hv
  obtain ⟨n, hn⟩ : ∃ n, n = l.length := ⟨_, rfl⟩
  have HN := Lib.hid hn
  have HP := Lib.hid hp
  have HR := Lib.hid hr0
  have hcl : c0.length = n * 5 := by rw [hn]; exact Enc.rows_len hr0
  obtain ⟨Z, hZ, MK⟩ := made_opsN n (by omega)
  have HC : Hid (∀ W : World, Below w.heap.size w W → 0 < n → ∃ ad, ao = some ad ∧ ∀ j v, c0[j]? = some v → W.cell? (ad.add j) = some v) := fun W hW h0 => by
    rcases (hs0.keeps hW).2 with ⟨ao', cap', he, _, _, _, h5⟩
    obtain ⟨rfl, -, rfl⟩ := Value.slice.inj he
    rcases h5 with h5 | ⟨b, off, rfl, hb, hc⟩
    · rw [h5] at hcl; simp at hcl; omega
    · exact ⟨_, rfl, fun j v hj => by rw [add_plain]; exact hc j v hj⟩
  have HON : Hid (∀ v ∈ c0, v.oneCell' = true) := Enc.rows_one hr0
  have HCL := Lib.hid hcl
  have HZ := Lib.hid hZ
  rw [← hn]
  rw [← hn] at hl
  have B0 : Hid (Below w.heap.size w (w.alloc (.cells Z.toArray 54))) := (Below.refl _ _).alloc (Nat.le_refl _) _
  have G0 : Hid ((w.alloc (.cells Z.toArray 54)).heap[w.heap.size]? = some (.cells Z.toArray 54)) := blk_new rfl
  clear hn hp hr0 hs0 hcl hZ
  go_enter Try.func38, Try.ntmps38
  go_wp2_with (refine wpList_copy_any rfl (.tmp 9) (.tmp 10) 22 22 rfl 54 Try.underlying22 (sz := 5) (by kernel_rfl) (some ⟨w.heap.size, 0, none⟩) ao n n n cap n rfl rfl w.heap.size 0 Z 54 G0.out (Nat.min_self n) c0 HCL.out (fun h0 => ⟨rfl, HC.out _ B0.out h0⟩) (by rw [HCL.out, HZ.out]; omega) HON.out ?_)
  rintro w2 hc2
  have T0 : Hid (TwR w w2 l c0 0) := ⟨[], rfl, by
    rw [hc2.out.1]
    congr 3
    simp [splice, HCL.out, ← HZ.out]⟩
  have B2 : Hid (Below w.heap.size w w2) := B0.out.trans (hc2.out.2.2.2 _ (Nat.le_refl _))
  clear hc2 B0 G0 MK
  go_wp2
  go_loopw [14] (fun i wr => ∃ j : Nat, j ≤ n ∧ i = .int .i64 (j : Int) ∧ Hid (TwR w wr l c0 j) ∧ Hid (Below w.heap.size w wr)) (fun i _ => n - (intOf i).toNat)
  case atStart => exact ⟨0, by omega, rfl, T0, B2⟩
  case round =>
    clear T0 B2
    obtain ⟨j, hj, rfl, htw, hbel⟩ := hrel
    by_cases hjn : j < n
    rotate_left
    · have q3 : decide (j < n) = false := by simpa using hjn
      have R1 : Hid (OwnL wr w.heap.size (.slice (some ⟨w.heap.size, 0, none⟩) n n) l) := by
        obtain ⟨A, h1, h2⟩ := htw.out
        obtain rfl : j = n := by omega
        rw [List.take_of_length_le (by rw [← HN.out]; omega)] at h1
        exact ownl_row h2 (Nat.le_refl _) h1 HN.out (by rw [List.length_append, List.length_drop, HCL.out, h1.len, ← HN.out]; omega) (by unfold maxLen; omega)
      clear htw
      go_wp2
      go_ret
      exact ⟨rfl, R1.out, hbel.out⟩
    have q3 : decide (j < n) = true := by simpa using hjn
    have q4 : (0 : Int) ≤ (j : Int) := by omega
    have q5 : (j : Int) < (n : Int) := by omega
    have hjl : j < l.length := by rw [← HN.out]; exact hjn
    obtain ⟨u, hru, h0, h1, h2, h3, h4⟩ := twr_at HR.out htw.out hjl
    obtain ⟨x, hx⟩ : ∃ x, x = l[j]'hjl := ⟨_, rfl⟩
    have hpx : x.pl.length ≤ 8796093022208 := HP.out x (by rw [hx]; exact List.getElem_mem hjl)
    rw [← hx] at hru h0 h1 h2 h4
    obtain ⟨uo, uc, rfl⟩ := hru.shape
    obtain ⟨nu, hnu⟩ : ∃ n, n = x.pl.length := ⟨_, rfl⟩
    rw [← hnu] at hru h3
    have ST : Hid (∀ (W8 X : World) (u : Value), Below wr.heap.size wr W8 → W8.ownsRow w.heap.size 31 3 u x.pl.length (runs x.pl) → X = (((((W8.setCell ⟨w.heap.size, j * 5, none⟩ (.int .u8 (x.k : Int))).setCell ⟨w.heap.size, j * 5 + 1, none⟩ (.int .u32 (x.t : Int))).setCell ⟨w.heap.size, j * 5 + 2, none⟩ (.int .u8 (x.r : Int))).setCell ⟨w.heap.size, j * 5 + 3, none⟩ u).setCell ⟨w.heap.size, j * 5 + 4, none⟩ (.int .i64 x.p)) →
        TwR w X l c0 (j + 1) ∧ ∀ B, B ≤ w.heap.size → Below B W8 X) := fun W8 X u hb ho hX => twr_step HR.out htw.out hjl hx hb ho hX
    have HSZ : Hid (w.heap.size ≤ wr.heap.size) := hbel.out.size
    have HGB : Hid (w.heap.size < wr.heap.size) := by
      obtain ⟨A, _, g2⟩ := htw.out
      exact (Array.getElem?_eq_some_iff.1 g2).1
    have HFR : Hid (∀ (W : World) (o : Nat), Below wr.heap.size wr W → W.frozen? ⟨w.heap.size, o, none⟩ = false) := fun W o hW => by
      obtain ⟨A, _, g2⟩ := htw.out
      exact free5 (blk_below hW g2) o
    have TW : Hid (∀ W : World, Below wr.heap.size wr W → Calls Try.prog 45 #[opv x (.slice uo nu uc)] W fun e w' => ∃ ao cap, e = .returned (opv x (.slice ao nu cap)) ∧ w'.ownsRow w.heap.size 31 3 (.slice ao nu cap) x.pl.length (runs x.pl) ∧ Below W.heap.size W w') := fun W hW => by
      refine (oTwin_any ((hru.keeps hbel.out).keeps hW) hpx).mono ?_
      rintro e w' ⟨v', rfl, ho, hb⟩
      obtain ⟨ao', cap', rfl⟩ : ∃ ao cap, v' = .slice ao x.pl.length cap := Sees.shape (Sees.own ho)
      rw [← hnu] at ho ⊢
      exact ⟨ao', cap', rfl, op_base ho (Nat.le_trans HSZ.out hW.size), hb⟩
    have HO : Hid (∀ v : Value, opv x v = .agg #[.int .u8 (x.k : Int), .int .u32 (x.t : Int), .int .u8 (x.r : Int), v, .int .i64 x.p]) := fun v => rfl
    obtain ⟨k, hk⟩ : ∃ k, x.k = k := ⟨_, rfl⟩
    obtain ⟨t, ht⟩ : ∃ k, x.t = k := ⟨_, rfl⟩
    obtain ⟨r, hr⟩ : ∃ k, x.r = k := ⟨_, rfl⟩
    obtain ⟨p, hp⟩ : ∃ k, x.p = k := ⟨_, rfl⟩
    rw [hk, ht, hr, hp] at HO ST
    rw [hk] at h0
    rw [ht] at h1
    rw [hr] at h2
    rw [hp] at h4
    simp only [HO.out] at TW
    have BL : Hid (Below wr.heap.size wr (wr.alloc (.cells #[.int .u8 (k : Int), .int .u32 (t : Int), .int .u8 (r : Int), .slice uo nu uc, .int .i64 p] 54))) := (Below.refl _ _).alloc (Nat.le_refl _) _
    have F0 : Hid (FiveAt wr w.heap.size (j * 5) (.int .u8 (k : Int)) (.int .u32 (t : Int)) (.int .u8 (r : Int)) (.slice uo nu uc) (.int .i64 p)) := ⟨HGB.out, h0, h1, h2, h3, h4⟩
    clear hru hx hk ht hr hp hnu htw hpx
    go_wp2_with fail
    refine (TW.out _ BL.out).mono ?_
    rintro e w5 ⟨a5, c5, rfl, o5, b5⟩
    have B5 := Lib.hid (bt BL.out b5)
    have O5 := Lib.hid o5
    have hf := fun o => HFR.out w5 o B5.out
    obtain ⟨_, g0, g1, g2, g3, g4⟩ := F0.out.keeps B5.out
    clear o5 b5 h0 h1 h2 h3 h4
    go_wp2
    obtain ⟨X, hX⟩ : ∃ X, X = (((((w5.setCell ⟨w.heap.size, j * 5, none⟩ (.int .u8 (k : Int))).setCell ⟨w.heap.size, j * 5 + 1, none⟩ (.int .u32 (t : Int))).setCell ⟨w.heap.size, j * 5 + 2, none⟩ (.int .u8 (r : Int))).setCell ⟨w.heap.size, j * 5 + 3, none⟩ (.slice a5 nu c5)).setCell ⟨w.heap.size, j * 5 + 4, none⟩ (.int .i64 p)) := ⟨_, rfl⟩
    have SX := ST.out w5 X _ B5.out O5.out hX
    rw [← hX]
    have TX := Lib.hid SX.1
    have BX := Lib.hid ((bt hbel.out B5.out).trans (SX.2 _ (Nat.le_refl _)))
    clear SX hX
    go_roundw
    case rel => exact ⟨j + 1, by omega, by go_num, TX, BX⟩
    case measure => simp [intOf]; omega
theorem bTwin_any {v : Value} {l : List Opn} {w : World} (hv : OpL w v l) (hl : l.length ≤ 1000000000) (hp : ∀ o ∈ l, o.pl.length ≤ 8796093022208) :
    Calls Try.prog 38 #[v] w fun e w' => ∃ v', e = .returned v' ∧ OwnL w' w.heap.size v' l ∧ Below w.heap.size w w' :=
  (bTwinX_any hv hl hp).mono fun _ _ ⟨h1, h2, h3⟩ => ⟨_, h1, h2, h3⟩
end Go.Proofs.Ytohiidgdpecbdaa.Bags

/- What the landed bag's walks come to: two bags gone through side by side, where a stamp stands or would. Conditions: none. -/
namespace Go.Proofs.Ytohiidgdpecbdaa.Bags
open Ops Stamp

theorem hasO_cons (x : Opn) (l : List Opn) (a : Id) : hasO (x :: l) a = (decide (idO x = a) || hasO l a) := by
  unfold hasO
  rw [findO]
  by_cases e : idO x = a
  · rw [if_pos e]; simp [e]
  · rw [if_neg e]; simp [e]

/-! ### Two side by side -/
def mrgO : List Opn → List Opn → List Opn
  | [], b => b
  | x :: a, [] => x :: a
  | x :: a, y :: b => if lessO x y then x :: mrgO a (y :: b) else if lessO y x then y :: mrgO (x :: a) b else x :: mrgO a b
termination_by a b => a.length + b.length
theorem mrgO_left (b : List Opn) : mrgO [] b = b := by rw [mrgO]
theorem mrgO_right (a : List Opn) : mrgO a [] = a := by cases a <;> rw [mrgO]
theorem mrgO_less {x y : Opn} {a b : List Opn} (h : lessO x y) : mrgO (x :: a) (y :: b) = x :: mrgO a (y :: b) := by rw [mrgO, if_pos h]
theorem mrgO_more {x y : Opn} {a b : List Opn} (h : lessO y x) : mrgO (x :: a) (y :: b) = y :: mrgO (x :: a) b := by rw [mrgO, if_neg (lessO_asymm h), if_pos h]
theorem mrgO_same {x y : Opn} {a b : List Opn} (h : ¬ lessO x y) (h2 : ¬ lessO y x) : mrgO (x :: a) (y :: b) = x :: mrgO a b := by rw [mrgO, if_neg h, if_neg h2]

theorem mrgO_all : ∀ (n : Nat) {a b : List Opn}, a.length + b.length ≤ n → a.Pairwise lessO → b.Pairwise lessO →
    (mrgO a b).Pairwise lessO ∧ (mrgO a b).length ≤ a.length + b.length ∧ ∀ z, z ∈ mrgO a b ↔ z ∈ a ∨ z ∈ b ∧ hasO a (idO z) = false
  | _, [], b, _, _, hb => by
    rw [mrgO_left]
    refine ⟨hb, by simp, fun z => ?_⟩
    have : hasO [] (idO z) = false := rfl
    simp [this]
  | _, x :: a, [], _, ha, _ => by
    rw [mrgO_right]
    exact ⟨ha, by simp, fun z => by simp⟩
  | 0, x :: a, y :: b, hn, _, _ => by simp at hn
  | n + 1, x :: a, y :: b, hn, ha, hb => by
    have hn1 : a.length + (b.length + 1) ≤ n := by simp at hn; omega
    have hn2 : (a.length + 1) + b.length ≤ n := by simp at hn; omega
    have ha' := List.pairwise_cons.1 ha
    have hb' := List.pairwise_cons.1 hb
    by_cases h : lessO x y
    · rw [mrgO_less h]
      obtain ⟨p, q, m⟩ := mrgO_all n (a := a) (b := y :: b) (by simpa using hn1) ha'.2 hb
      have hxb : ∀ z ∈ y :: b, lessO x z := fun z hz => by
        rcases List.mem_cons.1 hz with rfl | hz
        · exact h
        · exact lessO_trans h (hb'.1 z hz)
      refine ⟨List.Pairwise.cons (fun z hz => ?_) p, by simp at q ⊢; omega, fun z => ?_⟩
      · rcases (m z).1 hz with hz | ⟨hz, _⟩
        · exact ha'.1 z hz
        · exact hxb z hz
      · rw [List.mem_cons, m z, hasO_cons, List.mem_cons (a := z) (b := x)]
        constructor
        · rintro (h1 | h1 | ⟨h1, h2⟩)
          · exact .inl (.inl h1)
          · exact .inl (.inr h1)
          · exact .inr ⟨h1, by rw [h2, decide_eq_false (lessO_ne (hxb z h1))]; rfl⟩
        · rintro ((h1 | h1) | ⟨h1, h2⟩)
          · exact .inl h1
          · exact .inr (.inl h1)
          · exact .inr (.inr ⟨h1, by simpa using (Bool.or_eq_false_iff.1 h2).2⟩)
    · by_cases h2 : lessO y x
      · rw [mrgO_more h2]
        obtain ⟨p, q, m⟩ := mrgO_all n (a := x :: a) (b := b) (by simpa using hn2) ha hb'.2
        have hya : ∀ z ∈ x :: a, lessO y z := fun z hz => by
          rcases List.mem_cons.1 hz with rfl | hz
          · exact h2
          · exact lessO_trans h2 (ha'.1 z hz)
        have hno : hasO (x :: a) (idO y) = false := hasO_no.2 (fun z hz e => lessO_ne (hya z hz) e.symm)
        refine ⟨List.Pairwise.cons (fun z hz => ?_) p, by simp at q ⊢; omega, fun z => ?_⟩
        · rcases (m z).1 hz with hz | ⟨hz, _⟩
          · exact hya z hz
          · exact hb'.1 z hz
        · rw [List.mem_cons, m z, List.mem_cons (a := z) (b := y)]
          constructor
          · rintro (h1 | h1 | ⟨h1, h3⟩)
            · exact .inr ⟨.inl h1, by rw [h1]; exact hno⟩
            · exact .inl h1
            · exact .inr ⟨.inr h1, h3⟩
          · rintro (h1 | ⟨h1 | h1, h3⟩)
            · exact .inr (.inl h1)
            · exact .inl h1
            · exact .inr (.inr ⟨h1, h3⟩)
      · rw [mrgO_same h h2]
        have e : idO x = idO y := by rcases lessO_three x y with h3 | h3 | h3; exact absurd h3 h; exact h3; exact absurd h3 h2
        obtain ⟨p, q, m⟩ := mrgO_all n (a := a) (b := b) (by omega) ha'.2 hb'.2
        have hxb : ∀ z ∈ b, lessO x z := fun z hz => (lessO_id' e).2 (hb'.1 z hz)
        refine ⟨List.Pairwise.cons (fun z hz => ?_) p, by simp at q ⊢; omega, fun z => ?_⟩
        · rcases (m z).1 hz with hz | ⟨hz, _⟩
          · exact ha'.1 z hz
          · exact hxb z hz
        · rw [List.mem_cons, m z, hasO_cons, List.mem_cons (a := z) (b := x), List.mem_cons (a := z) (b := y)]
          constructor
          · rintro (h1 | h1 | ⟨h1, h3⟩)
            · exact .inl (.inl h1)
            · exact .inl (.inr h1)
            · exact .inr ⟨.inr h1, by rw [h3, decide_eq_false (lessO_ne (hxb z h1))]; rfl⟩
          · rintro ((h1 | h1) | ⟨h1 | h1, h3⟩)
            · exact .inl h1
            · exact .inr (.inl h1)
            · rw [h1, decide_eq_true e] at h3; cases h3
            · exact .inr (.inr ⟨h1, (Bool.or_eq_false_iff.1 h3).2⟩)
theorem mrgO_both {a b : List Opn} (ha : a.Pairwise lessO) (hb : b.Pairwise lessO) : mrgO a b = bothO a b := by
  obtain ⟨p, _, m⟩ := mrgO_all _ (Nat.le_refl _) ha hb
  exact pw_ext p (pw_bothO ha) (fun z => (m z).trans (mem_bothO ha hb).symm)

/-! ### Where a stamp stands, or would -/
def lessI (x : Opn) (a : Id) : Prop := x.t < a.t ∨ x.t = a.t ∧ x.r < a.r
instance (x : Opn) (a : Id) : Decidable (lessI x a) := inferInstanceAs (Decidable (_ ∨ _))
def moreI (x : Opn) (a : Id) : Prop := a.t < x.t ∨ a.t = x.t ∧ a.r < x.r
instance (x : Opn) (a : Id) : Decidable (moreI x a) := inferInstanceAs (Decidable (_ ∨ _))
end Go.Proofs.Ytohiidgdpecbdaa.Bags

/- octavo/bag.search: what it answers. Conditions: the slice's cells are operations whose stamps rise, not more than a million. -/
namespace Go.Proofs.Ytohiidgdpecbdaa.Bags
open Go.RowKit Go.WideShapes Stamp Go.Proofs.Ytohiidgdpecbdaa.Place Ops Codes
attribute [local go_sem ↓] Go.wp_at_zero Go.wp_at_succ
attribute [local go_sem] yielded_undef

end Go.Proofs.Ytohiidgdpecbdaa.Bags

/- slices.Insert of one operation into a list of the call's own without room: what it answers. Conditions: at most 1024 operations. -/
namespace Go.Proofs.Ytohiidgdpecbdaa.Bags
open Go.RowKit Go.WideShapes Stamp Go.Proofs.Ytohiidgdpecbdaa.Place Ops Codes
attribute [local go_sem ↓] Go.wp_at_zero Go.wp_at_succ

theorem sees_blk5 {X : World} {g : Nat} {c0 c1 c2 c3 c4 : Value} {e : TypeId} (h : X.heap[g]? = some (.cells #[c0, c1, c2, c3, c4] e)) : Sees X (.slice (some ⟨g, 0, none⟩) 1 1) 5 1 [c0, c1, c2, c3, c4] := by
  refine ⟨rfl, _, _, rfl, Nat.le_refl _, by decide, by simp, .inr ⟨g, 0, rfl, (Array.getElem?_eq_some_iff.1 h).1, fun j u hj => ?_⟩⟩
  rw [cell_of_row X g (0 + j) _ e _ h, Nat.zero_add]
  simpa using hj
end Go.Proofs.Ytohiidgdpecbdaa.Bags

/- octavo/bag.Add: what it answers. Conditions: the slice's cells are operations, the place's are runs. -/
namespace Go.Proofs.Ytohiidgdpecbdaa.Bags
open Go.RowKit Go.WideShapes Stamp Go.Proofs.Ytohiidgdpecbdaa.Place Ops Codes
attribute [local go_sem ↓] Go.wp_at_zero Go.wp_at_succ

end Go.Proofs.Ytohiidgdpecbdaa.Bags
