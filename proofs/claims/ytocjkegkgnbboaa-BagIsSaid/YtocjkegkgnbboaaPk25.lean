/- octavo/clock: Has, Same, Count, Top with the library's ContainsFunc, IndexFunc, EqualFunc: what each answers. Conditions: the slices' cells are replicas' spans. -/
import Derived.Test.YtocjkegkgnbboaaPk15
import Derived.Test.YtocjkegkgnbboaaPk14
import Derived.Test.YtocjkegkgnbboaaPk13
import Derived.Test.YtocjkegkgnbboaaPk22
import Derived.Test.YtocjkegkgnbboaaPk21
import Derived.Test.YtocjkegkgnbboaaPk23
import Derived.Test.YtocjkegkgnbboaaPk24

namespace Go.Proofs.Ytocjkegkgnbboaa.Clocks
open Go.RowKit Go.Proofs.Ytocjkegkgnbboaa.Spans
attribute [local go_sem ↓] Go.wp_at_zero Go.wp_at_succ

/-! ### Has -/
def hit (a : Id) (x : Tm) : Bool := decide (x.1 = a.r) && has x.2 a.t
theorem hits_is (a : Id) : ∀ {c : List Tm} {lo : Nat}, Up lo c → c.any (hit a) = inB (spn c a.r) a.t
  | [], _, _ => rfl
  | x :: c, lo, h => by
    have h2 : Up (x.1 + 1) c := by
      unfold Up at h
      exact h.2.2.2.2
    have hm := (up_all h x (by simp)).2.2.2
    rw [List.any_cons, spn_cons]
    unfold hit
    by_cases e : x.1 = a.r
    · rw [if_pos e, decide_eq_true e, Bool.true_and]
      have hno : c.any (hit a) = false := by
        rw [List.any_eq_false]
        intro y hy
        have := (up_all h2 y hy).1
        unfold hit
        rw [decide_eq_false (by omega)]
        simp
      unfold hit at hno
      rw [hno, Bool.or_false]
      unfold has
      rw [hm, Bool.true_and]
    · rw [if_neg e, decide_eq_false e, Bool.false_and, Bool.false_or]
      exact hits_is a h2

set_option maxHeartbeats 2000000 in
theorem cHasOne_any (x : Tm) (u : Value) (a : Id) (B : Nat) {w : World} (hu : Sps w u x.2) (hc : w.cell? ⟨B, 0, none⟩ = some (.int .u32 (a.t : Int)) ∧ w.cell? ⟨B, 1, none⟩ = some (.int .u8 (a.r : Int))) (hB : B < w.heap.size) :
    Calls Try.prog 61 #[.agg #[.int .u8 (x.1 : Int), u], .pointer (some ⟨B, 0, none⟩)] w fun e w' => e = .returned (.bool (hit a x)) ∧ Below w.heap.size w w' := by
  obtain ⟨xr, xs⟩ := x
  obtain ⟨t, r, ht, hr⟩ := a
  simp only at hu hc
  unfold hit
  simp only
  have BX := Lib.hid (fun o : Obj => (Below.refl w.heap.size w).alloc (Nat.le_refl _) o)
  have c0 : Hid (∀ o : Obj, (w.alloc o).cell? ⟨B, 0, none⟩ = some (.int .u32 (t : Int)) ∧ (w.alloc o).cell? ⟨B, 1, none⟩ = some (.int .u8 (r : Int))) := fun o => ⟨((BX.out o).cell (p := ⟨B, 0, none⟩) hB).trans hc.1, ((BX.out o).cell (p := ⟨B, 1, none⟩) hB).trans hc.2⟩
  have HP : Hid (∀ o : Obj, Calls Try.prog 62 #[u, .int .u32 (t : Int)] (w.alloc o) fun e w' => e = .returned (.bool (has xs t)) ∧ Below (w.alloc o).heap.size (w.alloc o) w') := fun o => pHas_any t (hu.keeps (BX.out o))
  obtain ⟨so, sc, rfl⟩ := hu.shape
  obtain ⟨d0, d1⟩ := c0.out (.cells #[.int .u8 (xr : Int), .slice so xs.length sc] 36)
  obtain ⟨sl, hsl⟩ : ∃ sl, sl = xs.length := ⟨_, rfl⟩
  rw [← hsl] at d0 d1 HP ⊢
  obtain ⟨b, hb⟩ : ∃ b, has xs t = b := ⟨_, rfl⟩
  rw [hb] at HP ⊢
  clear hu hc c0 hsl hb
  by_cases h1 : xr = r
  · subst h1
    have s1 : ((xr : Int) == (xr : Int)) = true := by simp
    rw [decide_eq_true rfl, Bool.true_and]
    go_enter Try.func61, Try.ntmps61
    go_wp2_with fail
    refine (HP.out _).mono ?_
    rintro e w1 ⟨rfl, b1⟩
    have B1 := Lib.hid (bt (BX.out _) b1)
    clear b1
    go_wp2
    go_ret
    exact ⟨rfl, B1.out⟩
  · have s1 : ((xr : Int) == (r : Int)) = false := by simp; omega
    have s2 : decide (xr = r) = false := decide_eq_false h1
    rw [s2, Bool.false_and]
    go_enter Try.func61, Try.ntmps61
    go_wp2
    go_ret
    exact ⟨rfl, BX.out _⟩

theorem any_snoc (p : Tm → Bool) (c : List Tm) (k : Nat) (h : k < c.length) : (c.take (k + 1)).any p = ((c.take k).any p || p (c.getD k ztm)) := by
  rw [tm_take_snoc c k h, List.any_append]
  simp
set_option maxRecDepth 100000 in
set_option maxHeartbeats 2000000 in
theorem cIdx_any {v : Value} {c : List Tm} (a : Id) (B : Nat) {w : World} (hv : Tms w v c) (hc : w.cell? ⟨B, 0, none⟩ = some (.int .u32 (a.t : Int)) ∧ w.cell? ⟨B, 1, none⟩ = some (.int .u8 (a.r : Int))) (hB : B < w.heap.size) :
    Calls Try.prog 95 #[v, .func (.func 61) #[] #[.pointer (some ⟨B, 0, none⟩)]] w fun e w' => (∃ q : Int, e = .returned (.int .i64 q) ∧ decide (0 ≤ q) = c.any (hit a)) ∧ Below w.heap.size w w' := by
  obtain ⟨ao, cap, rfl⟩ := hv.shape
  obtain ⟨n, hn⟩ : ∃ n, n = c.length := ⟨_, rfl⟩
  have hm : n ≤ 9223372036854775807 := by rw [hn]; exact Tms.max hv
  have HV := Lib.hid hv
  have HN := Lib.hid hn
  have HC := Lib.hid hc
  obtain ⟨b0, hb0⟩ : ∃ b, c.any (hit a) = b := ⟨_, rfl⟩
  have HB0 := Lib.hid hb0
  rw [← hn, hb0]
  have B0 := Lib.hid (Below.refl w.heap.size w)
  clear hv hn hb0 hc
  have eg := enters_of Try.func61 (by kernel_rfl) rfl
  go_enter Try.func95, Try.ntmps95
  go_wp2
  go_loopw [8] (fun i wr => ∃ k : Nat, k ≤ n ∧ i = .int .i64 (k : Int) ∧ Hid ((c.take k).any (hit a) = false) ∧ Hid (Below w.heap.size w wr)) (fun i _ => n - (intOf i).toNat)
  case atStart => exact ⟨0, by omega, rfl, Lib.hid rfl, B0⟩
  case round =>
    obtain ⟨k, hk, rfl, hno, hbel⟩ := hrel
    by_cases hkn : k < n
    · have q1 : decide (k < n) = true := by simpa using hkn
      have q2 : (0 : Int) ≤ (k : Int) := by omega
      have q3 : (k : Int) < (n : Int) := by omega
      have hkl : k < c.length := by rw [← HN.out]; exact hkn
      obtain ⟨b1, o1, u, rfl, hb1, ha0, ha1, -, hsp⟩ := (HV.out.keeps hbel.out).at k hkl
      have hsn := any_snoc (hit a) c k hkl
      rw [hno.out, Bool.false_or] at hsn
      have hall : hit a (c.getD k ztm) = true → b0 = true := fun h => by
        rw [← HB0.out, List.any_eq_true]
        exact ⟨_, tm_mem hkl, h⟩
      obtain ⟨x, hx⟩ : ∃ x, x = c.getD k ztm := ⟨_, rfl⟩
      have hx' : c.getD k (0, []) = x := hx.symm
      rw [hx'] at ha0 hsp
      rw [← hx] at hsn hall
      have C := Lib.hid (cHasOne_any x u a B (w := wr) hsp ⟨(hbel.out.cell (p := ⟨B, 0, none⟩) hB).trans HC.out.1, (hbel.out.cell (p := ⟨B, 1, none⟩) hB).trans HC.out.2⟩ (Nat.lt_of_lt_of_le hB hbel.out.size))
      obtain ⟨q, hq⟩ : ∃ q, hit a x = q := ⟨_, rfl⟩
      rw [hq] at C hsn hall
      have HIn := Lib.hid hall
      have HSn := Lib.hid hsn
      obtain ⟨so, sc, rfl⟩ := hsp.shape
      obtain ⟨xr, xs⟩ := x
      simp only at ha0 ha1 C
      obtain ⟨sl, hsl⟩ : ∃ sl, sl = xs.length := ⟨_, rfl⟩
      rw [← hsl] at ha1 C
      clear hx hx' hsn hall hq hsp hsl
      cases q
      · go_wp2_with fail
        refine C.out.mono ?_
        rintro e w1 ⟨rfl, b1⟩
        have B1 := Lib.hid (bt hbel.out b1)
        clear b1
        go_wp2
        go_roundw
        case rel => exact ⟨k + 1, by omega, by go_num, HSn, B1⟩
        case measure => simp [intOf]; omega
      · obtain rfl : b0 = true := HIn.out rfl
        go_wp2_with fail
        refine C.out.mono ?_
        rintro e w1 ⟨rfl, b1⟩
        have B1 := Lib.hid (bt hbel.out b1)
        clear b1
        go_wp2
        go_ret
        exact ⟨⟨_, rfl, decide_eq_true q2⟩, B1.out⟩
    · have q1 : decide (k < n) = false := by simpa using hkn
      have hkk : c.take k = c := List.take_of_length_le (by have := HN.out; omega)
      have hf : b0 = false := by rw [← HB0.out, ← hkk]; exact hno.out
      subst hf
      clear hkk
      go_wp2
      go_ret
      exact ⟨⟨_, rfl, rfl⟩, hbel.out⟩
theorem cContains_any {v : Value} {c : List Tm} (a : Id) (B : Nat) {w : World} (hv : Tms w v c) (hc : w.cell? ⟨B, 0, none⟩ = some (.int .u32 (a.t : Int)) ∧ w.cell? ⟨B, 1, none⟩ = some (.int .u8 (a.r : Int))) (hB : B < w.heap.size) :
    Calls Try.prog 60 #[v, .func (.func 61) #[] #[.pointer (some ⟨B, 0, none⟩)]] w fun e w' => e = .returned (.bool (c.any (hit a))) ∧ Below w.heap.size w w' := by
  have C := Lib.hid (cIdx_any a B hv hc hB)
  obtain ⟨b0, hb0⟩ : ∃ b, c.any (hit a) = b := ⟨_, rfl⟩
  rw [hb0] at C ⊢
  clear hv hc hb0
  go_enter Try.func60, Try.ntmps60
  go_wp2_with fail
  refine C.out.mono ?_
  rintro e w1 ⟨⟨q, rfl, hq⟩, b1⟩
  go_wp2
  go_ret
  exact ⟨rfl, b1⟩
set_option maxRecDepth 100000 in
set_option maxHeartbeats 2000000 in
theorem cHas_any {v : Value} {c : List Tm} (a : Id) {w : World} (hv : Tms w v c) :
    Calls Try.prog 36 #[v, .agg #[.int .u32 (a.t : Int), .int .u8 (a.r : Int)]] w fun e w' => e = .returned (.bool (hasC c a)) ∧ Below w.heap.size w w' := by
  have X0 := Lib.hid ((Below.refl w.heap.size w).alloc (Nat.le_refl _) (.cells #[.int .u32 (a.t : Int), .int .u8 (a.r : Int)] 27))
  have C0 := Lib.hid (two_blk (heap_alloc_new w (.cells #[.int .u32 (a.t : Int), .int .u8 (a.r : Int)] 27)))
  have M := Lib.hid (cCheck_any (hv.keeps X0.out))
  have HV := Lib.hid hv
  unfold hasC
  unfold chkC at M
  cases hb : mayC c
  · rw [hb, if_neg (by simp)] at M
    rw [Bool.false_and]
    clear hb hv
    go_enter Try.func36, Try.ntmps36
    go_wp2_with fail
    refine M.out.mono ?_
    rintro e w1 ⟨rfl, b1⟩
    have B1 := Lib.hid (bt X0.out b1)
    clear b1
    go_wp2
    go_ret
    exact ⟨rfl, B1.out⟩
  · rw [hb, if_pos rfl] at M
    rw [Bool.true_and, ← hits_is a ((mayC_iff c).1 hb)]
    obtain ⟨b0, hb0⟩ : ∃ b, c.any (hit a) = b := ⟨_, rfl⟩
    have HB0 := Lib.hid hb0
    rw [hb0]
    clear hb hv hb0
    go_enter Try.func36, Try.ntmps36
    go_wp2_with fail
    refine M.out.mono ?_
    rintro e w1 ⟨rfl, b1⟩
    have B1 := Lib.hid (bt X0.out b1)
    have K := cContains_any a w.heap.size (w := w1) ((HV.out.keeps X0.out).keeps b1) ⟨(b1.cell (p := ⟨w.heap.size, 0, none⟩) (by simp)).trans C0.out.1, (b1.cell (p := ⟨w.heap.size, 1, none⟩) (by simp)).trans C0.out.2⟩ (by have := b1.size; simp at this; omega)
    rw [HB0.out] at K
    have K := Lib.hid K
    clear b1
    go_wp2_with fail
    refine K.out.mono ?_
    rintro e w2 ⟨rfl, b2⟩
    have B2 := Lib.hid (bt B1.out b2)
    clear b2
    go_wp2
    go_ret
    exact ⟨rfl, B2.out⟩

/-! ### Same -/
end Go.Proofs.Ytocjkegkgnbboaa.Clocks

/- octavo/bag.Less: what it answers. Conditions: the slices' cells are operations, and replicas' spans. -/
namespace Go.Proofs.Ytocjkegkgnbboaa.Bags
open Go.RowKit Go.WideShapes Stamp Go.Proofs.Ytocjkegkgnbboaa.Place Ops Codes
attribute [local go_sem ↓] Go.wp_at_zero Go.wp_at_succ

set_option maxRecDepth 100000 in
set_option maxHeartbeats 8000000 in
theorem bLess_any {v0 u0 : Value} {l : List Opn} {c : List Clocks.Tm} {w : World} (hv : OpL w v0 l) (hc : Tms w u0 c) :
    Calls Try.prog 11 #[v0, u0] w (DoneN (lessL l c) (lessE l c) w) := by
  have CK := Lib.hid (bCheck_any hv)
  obtain ⟨ao, cap, rfl⟩ := hv.shape
  obtain ⟨bo, cab, rfl⟩ := hc.shape
  obtain ⟨n, hn⟩ : ∃ n, n = l.length := ⟨_, rfl⟩
  obtain ⟨n2, hn2⟩ : ∃ n, n = c.length := ⟨_, rfl⟩
  have HV : Hid (∀ W : World, Below w.heap.size w W → OpL W (.slice ao l.length cap) l) := fun W h => hv.keeps h
  have CC : Hid (∀ W : World, Below w.heap.size w W → Calls Try.prog 38 #[.slice bo c.length cab] W fun e w' => e = .returned (.int .i64 (Clocks.chkC c)) ∧ Below W.heap.size W w') := fun W h => Clocks.cCheck_any (hc.keeps h)
  have HS : Hid (Clocks.mayC c = true → ∀ (a : Id) (W : World), Below w.heap.size w W → Calls Try.prog 36 #[.slice bo c.length cab, .agg #[.int .u32 (a.t : Int), .int .u8 (a.r : Int)]] W fun e w' => e = .returned (.bool (inC c a)) ∧ Below W.heap.size W w') := fun hm a W h => by
    have := Clocks.cHas_any a (hc.keeps h)
    rwa [Clocks.hasC_may hm] at this
  have HN := Lib.hid hn
  have B0 : Hid (Below w.heap.size w w) := Below.refl _ _
  rw [← hn] at CK
  rw [← hn2] at CC HS
  rw [← hn, ← hn2]
  by_cases hbag : Bag l
  rotate_left
  · have e1 : chkL l = 8 := chkL_no hbag
    have e2 : lessL l c = [] := by unfold lessL; rw [bagB_no hbag]; rfl
    have e3 : lessE l c = 8 := by unfold lessE; rw [bagB_no hbag]; rfl
    rw [e1] at CK
    rw [e2, e3]
    clear hv hc hn hn2 e1 e2 e3
    go_enter Try.func11, Try.ntmps11
    go_wp2_with fail
    refine CK.out.mono ?_
    rintro e w1 ⟨rfl, b1⟩
    have B1 := Lib.hid b1
    clear b1
    go_wp2
    go_ret2
    exact ⟨_, rfl, OwnL.nil _ _, B1.out⟩
  have e1 : chkL l = 0 := chkL_yes hbag
  rw [e1] at CK
  unfold Clocks.chkC at CC
  cases hm : Clocks.mayC c
  · have e2 : lessL l c = [] := by unfold lessL; rw [hm]; simp
    have e3 : lessE l c = 8 := by unfold lessE; rw [hm]; simp
    rw [hm, if_neg (by simp)] at CC
    rw [e2, e3]
    clear hv hc hn hn2 e1 e2 e3 hm HS
    go_enter Try.func11, Try.ntmps11
    go_wp2_with fail
    refine CK.out.mono ?_
    rintro e w1 ⟨rfl, b1⟩
    have B1 := Lib.hid b1
    clear b1
    go_wp2_with fail
    refine (CC.out _ B1.out).mono ?_
    rintro e w2 ⟨rfl, b2⟩
    have B2 := Lib.hid (bt B1.out b2)
    clear b2
    go_wp2
    go_ret2
    exact ⟨_, rfl, OwnL.nil _ _, B2.out⟩
  have e2 : lessL l c = l.filter (fun o => !inC c (idO o)) := by unfold lessL; rw [if_pos ⟨(bagB_iff l).2 hbag, hm⟩]; rfl
  have e3 : lessE l c = 0 := by unfold lessE; rw [if_pos ⟨(bagB_iff l).2 hbag, hm⟩]
  rw [hm, if_pos rfl] at CC
  rw [e2, e3]
  have HS2 := Lib.hid (HS.out hm)
  have hnm : n ≤ 1024 := by rw [hn]; exact hbag.1
  have HP : Hid (∀ o ∈ l, o.pl.length ≤ 8796093022208) := (bag_fits hbag).2
  clear hv hc hn hn2 e1 e2 e3 hm HS hbag
  go_enter Try.func11, Try.ntmps11
  go_wp2_with fail
  refine CK.out.mono ?_
  rintro e w1 ⟨rfl, b1⟩
  have B1 := Lib.hid b1
  clear b1
  go_wp2_with fail
  refine (CC.out _ B1.out).mono ?_
  rintro e w2 ⟨rfl, b2⟩
  have B2 := Lib.hid (bt B1.out b2)
  have L2 : Hid (OwnL w2 w.heap.size (.slice none 0 0) ((l.take 0).filter (fun o => !inC c (idO o)))) := OwnL.nil _ _
  have M2 : Hid (0 = ((l.take 0).filter (fun o => !inC c (idO o))).length) := rfl
  clear b2 B0 B1 CK CC
  go_wp2
  go_loopw [8, 23] (fun v i wr => ∃ j m : Nat, j ≤ n ∧ i = .int .i64 (j : Int) ∧ m ≤ j ∧ (∃ ao cap, v = .slice ao m cap) ∧ Hid (m = ((l.take j).filter (fun o => !inC c (idO o))).length) ∧ Hid (OwnL wr w.heap.size v ((l.take j).filter (fun o => !inC c (idO o)))) ∧ Hid (Below w.heap.size w wr)) (fun _ i _ => n - (intOf i).toNat)
  case atStart => exact ⟨0, 0, by omega, rfl, by omega, ⟨none, 0, rfl⟩, M2, L2, B2⟩
  case round =>
    clear M2 L2 B2
    obtain ⟨j, m, hj, rfl, hmj, ⟨aoL, capL, rfl⟩, HM, hown, hbel⟩ := hrel
    by_cases hjn : j < n
    rotate_left
    · have q3 : decide (j < n) = false := by simpa using hjn
      have hkk : l.take j = l := List.take_of_length_le (by have := HN.out; omega)
      rw [hkk] at hown
      clear hkk
      go_wp2
      go_ret2
      exact ⟨_, rfl, hown.out, hbel.out⟩
    have q3 : decide (j < n) = true := by simpa using hjn
    have q4 : (0 : Int) ≤ (j : Int) := by omega
    have q5 : (j : Int) < (n : Int) := by omega
    have hjl : j < l.length := by rw [← HN.out]; exact hjn
    obtain ⟨bb, oo, u, e, hbb, hru, h0, h1, h2, h3, h4⟩ := opl_at (HV.out wr hbel.out) j hjl
    subst e
    obtain ⟨x, hx⟩ : ∃ x, x = l[j]'hjl := ⟨_, rfl⟩
    rw [← hx] at hru h0 h1 h2 h4
    have HO : Hid (∀ v : Value, opv x v = .agg #[.int .u8 (x.k : Int), .int .u32 (x.t : Int), .int .u8 (x.r : Int), v, .int .i64 x.p]) := fun v => rfl
    obtain ⟨uo, uc, rfl⟩ := hru.shape
    obtain ⟨nu, hnu⟩ : ∃ n, n = x.pl.length := ⟨_, rfl⟩
    have HNU := Lib.hid hnu
    rw [← hnu] at hru h3
    clear hnu
    have hpx : x.pl.length ≤ 8796093022208 := HP.out x (by rw [hx]; exact List.getElem_mem hjl)
    have FT : Hid ((l.take (j + 1)).filter (fun o => !inC c (idO o)) = (l.take j).filter (fun o => !inC c (idO o)) ++ (if (!inC c (idO x)) = true then [x] else [])) := by
      unfold Hid
      rw [List.take_succ_eq_append_getElem hjl, List.filter_append, hx]
      congr 1
      simp [List.filter_cons]
    obtain ⟨L, hL⟩ : ∃ z, (l.take j).filter (fun o => !inC c (idO o)) = z := ⟨_, rfl⟩
    rw [hL] at HM hown FT
    have HA : Hid (∀ W : World, Below wr.heap.size wr W → Calls Try.prog 36 #[.slice bo n2 cab, .agg #[.int .u32 (x.t : Int), .int .u8 (x.r : Int)]] W fun e w' => e = .returned (.bool (inC c (idO x))) ∧ Below W.heap.size W w') := fun W h => HS2.out (idO x) W (bt hbel.out h)
    have TW : Hid (∀ W : World, Below wr.heap.size wr W → Calls Try.prog 39 #[opv x (.slice uo nu uc)] W fun e w' => ∃ ao cap, e = .returned (opv x (.slice ao nu cap)) ∧ w'.ownsRow w.heap.size 71 3 (.slice ao nu cap) x.pl.length (runs x.pl) ∧ Below W.heap.size W w') := fun W hW => by
      refine (oTwin_any (hru.keeps hW) hpx).mono ?_
      rintro e w' ⟨v', rfl, ho, hb⟩
      obtain ⟨ao', cap', rfl⟩ : ∃ ao cap, v' = .slice ao x.pl.length cap := Sees.shape (Sees.own ho)
      rw [← HNU.out] at ho ⊢
      exact ⟨ao', cap', rfl, op_base ho (Nat.le_trans hbel.out.size hW.size), hb⟩
    clear hx hru hpx hL
    obtain ⟨k, hk⟩ : ∃ z, x.k = z := ⟨_, rfl⟩
    obtain ⟨t, ht⟩ : ∃ z, x.t = z := ⟨_, rfl⟩
    obtain ⟨r, hr⟩ : ∃ z, x.r = z := ⟨_, rfl⟩
    obtain ⟨p, hp⟩ : ∃ z, x.p = z := ⟨_, rfl⟩
    rw [hk, ht, hr, hp] at HO
    rw [hk] at h0
    rw [ht] at h1
    rw [hr] at h2
    rw [hp] at h4
    simp only [HO.out] at TW
    have HFV : Hid (∀ v : Value, [.int .u8 (k : Int), .int .u32 (t : Int), .int .u8 (r : Int), v, .int .i64 p] = [Value.int .u8 (x.k : Int), .int .u32 (x.t : Int), .int .u8 (x.r : Int), v, .int .i64 x.p]) := fun v => by rw [hk, ht, hr, hp]
    rw [ht, hr] at HA
    obtain ⟨q, hq⟩ : ∃ q, inC c (idO x) = q := ⟨_, rfl⟩
    rw [hq] at HA FT
    have BL : Hid (Below wr.heap.size wr (wr.alloc (.cells #[.int .u8 (k : Int), .int .u32 (t : Int), .int .u8 (r : Int), .slice uo nu uc, .int .i64 p] 30))) := (Below.refl _ _).alloc (Nat.le_refl _) _
    have SK : Hid (∀ W : World, Below (wr.alloc (.cells #[.int .u8 (k : Int), .int .u32 (t : Int), .int .u8 (r : Int), .slice uo nu uc, .int .i64 p] 30)).heap.size (wr.alloc (.cells #[.int .u8 (k : Int), .int .u32 (t : Int), .int .u8 (r : Int), .slice uo nu uc, .int .i64 p] 30)) W → W.cell? ⟨wr.heap.size, 0, none⟩ = some (.int .u8 (k : Int)) ∧ W.cell? ⟨wr.heap.size, 1, none⟩ = some (.int .u32 (t : Int)) ∧ W.cell? ⟨wr.heap.size, 2, none⟩ = some (.int .u8 (r : Int)) ∧ W.cell? ⟨wr.heap.size, 3, none⟩ = some (.slice uo nu uc) ∧ W.cell? ⟨wr.heap.size, 4, none⟩ = some (.int .i64 p)) := fun W h => five_cells h
    clear hk ht hr hp HO hq
    cases q
    rotate_left
    · have FT2 : Hid ((l.take (j + 1)).filter (fun o => !inC c (idO o)) = L) := by unfold Hid; rw [FT.out]; simp
      clear FT TW HFV SK
      go_wp2_with fail
      refine (HA.out _ BL.out).mono ?_
      rintro e w5 ⟨rfl, b5⟩
      have B5 := Lib.hid (bt BL.out b5)
      have L5 := Lib.hid (hown.out.keeps B5.out)
      have B6 := Lib.hid (bt hbel.out B5.out)
      rw [← FT2.out] at L5 HM
      clear b5 hown
      go_wp2
      go_roundw
      case rel => exact ⟨j + 1, m, by omega, by go_num, by omega, ⟨aoL, capL, rfl⟩, HM, L5, B6⟩
      case measure => simp [intOf]; omega
    have FT2 : Hid ((l.take (j + 1)).filter (fun o => !inC c (idO o)) = L ++ [x]) := by unfold Hid; rw [FT.out]; simp
    clear FT
    go_wp2_with fail
    refine (HA.out _ BL.out).mono ?_
    rintro e w4 ⟨rfl, b4⟩
    have B4 := Lib.hid (bt BL.out b4)
    obtain ⟨g0, g1, g2, g3, g4⟩ := SK.out _ b4
    clear b4 SK h0 h1 h2 h3 h4
    go_wp2_with fail
    refine (TW.out _ B4.out).mono ?_
    rintro e w5 ⟨aoO, capO, rfl, o5, b5⟩
    have B5 := Lib.hid (bt B4.out b5)
    have BW5 := Lib.hid (bt hbel.out B5.out)
    have LL := Lib.hid (hown.out.keeps B5.out)
    obtain ⟨cs, lo, lh⟩ := LL.out
    rw [← HM.out] at lo
    have LO := Lib.hid lo
    have LH := Lib.hid lh
    have PO : Hid (w5.ownsRow w.heap.size 71 3 (.slice aoO nu capO) x.pl.length (runs x.pl)) := o5
    have SE : Hid (Sees (w5.alloc (.cells #[.int .u8 (k : Int), .int .u32 (t : Int), .int .u8 (r : Int), .slice aoO nu capO, .int .i64 p] 30)) (.slice (some ⟨w5.heap.size, 0, none⟩) 1 1) 5 1 [.int .u8 (k : Int), .int .u32 (t : Int), .int .u8 (r : Int), .slice aoO nu capO, .int .i64 p]) := sees_new w5 [.int .u8 (k : Int), .int .u32 (t : Int), .int .u8 (r : Int), .slice aoO nu capO, .int .i64 p] 5 1 rfl (by omega) 30 (0, 0)
    have OA : Hid ((w5.alloc (.cells #[.int .u8 (k : Int), .int .u32 (t : Int), .int .u8 (r : Int), .slice aoO nu capO, .int .i64 p] 30)).ownsRow w.heap.size 30 5 (.slice aoL m capL) m cs) := own_stays LO.out ((Below.refl _ _).alloc (Nat.le_refl _) _)
    have FO2 : Hid (∀ z ∈ ([.int .u8 (k : Int), .int .u32 (t : Int), .int .u8 (r : Int), .slice aoO nu capO, .int .i64 p] : List Value), z.oneCell' = true) := by unfold Hid; rw [HFV.out]; exact five_one x _ ⟨_, _, _, rfl⟩
    have bz : Hid (w.heap.size ≤ (w5.alloc (.cells #[.int .u8 (k : Int), .int .u32 (t : Int), .int .u8 (r : Int), .slice aoO nu capO, .int .i64 p] 30)).heap.size) := by have := BW5.out.size; unfold Hid; simp; omega
    clear o5 b5 lo lh hown hbel LL g0 g1 g2 g3 g4
    go_wp2_with (at_builtin; refine wpList_append_sees rfl (.tmp 32) (.tmp 35) 22 30 rfl Try.underlying22 op_info rfl (by decide) w.heap.size _ m cs rfl OA.out _ 1 [.int .u8 (k : Int), .int .u32 (t : Int), .int .u8 (r : Int), .slice aoO nu capO, .int .i64 p] rfl SE.out FO2.out ?k1 ?k2 ?k3 ?_)
    case k1 => omega
    case k2 => omega
    case k3 => exact bz.out
    rintro v6 w6 o6 g6 b6
    have L6 : Hid (OwnL w6 w.heap.size v6 ((l.take (j + 1)).filter (fun o => !inC c (idO o)))) := by
      have lo2 := LO.out
      have o7 := o6
      rw [HFV.out] at o7
      have po := own_stays PO.out ((Below.refl _ _).alloc (Nat.le_refl _) (.cells #[.int .u8 (k : Int), .int .u32 (t : Int), .int .u8 (r : Int), .slice aoO nu capO, .int .i64 p] 30))
      have gx := g6
      unfold Hid
      rw [FT2.out]
      rw [HM.out] at lo2 gx
      refine OwnL.snoc (W := w5) (W8 := w5.alloc (.cells #[.int .u8 (k : Int), .int .u32 (t : Int), .int .u8 (r : Int), .slice aoO nu capO, .int .i64 p] 30)) (m := m + 1) lo2 LH.out ((Below.refl _ _).alloc (Nat.le_refl _) _) po gx o7 (by rw [HM.out])
    have M6 : Hid (m + 1 = ((l.take (j + 1)).filter (fun o => !inC c (idO o))).length) := by unfold Hid; rw [FT2.out, List.length_append, ← HM.out]; rfl
    have B6 : Hid (Below w.heap.size w w6) := (BW5.out.alloc BW5.out.size _).trans b6
    obtain ⟨va, vc, rfl⟩ : ∃ ao cap, v6 = .slice ao (m + 1) cap := Sees.shape (Sees.own o6)
    clear o6 g6 b6 OA SE LO LH PO bz
    go_wp2
    go_roundw
    case rel => exact ⟨j + 1, m + 1, by omega, by go_num, by omega, ⟨va, vc, rfl⟩, M6, L6, B6⟩
    case measure => simp [intOf]; omega
end Go.Proofs.Ytocjkegkgnbboaa.Bags

/- octavo/bag.Find: what it answers. Conditions: the slice's cells are operations. -/
namespace Go.Proofs.Ytocjkegkgnbboaa.Bags
open Go.RowKit Go.WideShapes Stamp Go.Proofs.Ytocjkegkgnbboaa.Place Ops Codes
attribute [local go_sem ↓] Go.wp_at_zero Go.wp_at_succ

theorem pos_has {l : List Opn} {a : Id} {k : Nat} (hp : l.Pairwise lessO) (h : Pos l a k) (hh : hasO l a = true) : ∃ hk : k < l.length, idO (l[k]'hk) = a := by
  by_cases hx : ∃ hk : k < l.length, idO (l[k]'hk) = a
  · exact hx
  · have := pos_none hp h (fun hk e => hx ⟨hk, e⟩)
    rw [hh] at this; cases this

set_option maxRecDepth 100000 in
set_option maxHeartbeats 8000000 in
theorem bFind_any {v : Value} {l : List Opn} (a : Id) {w : World} (hv : OpL w v l) :
    Calls Try.prog 27 #[v, .agg #[.int .u32 (a.t : Int), .int .u8 (a.r : Int)]] w (FoundN (findL l a) w) := by
  have CK : Hid (∀ W : World, Below w.heap.size w W → Calls Try.prog 17 #[v] W fun e w' => e = .returned (.int .i64 (chkL l)) ∧ Below W.heap.size W w') := fun W h => bCheck_any (hv.keeps h)
  have SR : Hid (Bag l → ∀ W : World, Below w.heap.size w W → Calls Try.prog 42 #[v, .agg #[.int .u32 (a.t : Int), .int .u8 (a.r : Int)]] W fun e w' => ∃ k : Nat, e = .returned (.tuple #[.int .i64 (k : Int), .bool (hasO l a)]) ∧ Pos l a k ∧ Below W.heap.size W w') := fun hb W h => bSearch_any a (hv.keeps h) (by have := hb.1; omega) hb.2.2
  obtain ⟨ao, cap, rfl⟩ := hv.shape
  obtain ⟨n, hn⟩ : ∃ n, n = l.length := ⟨_, rfl⟩
  have HV : Hid (∀ W : World, Below w.heap.size w W → OpL W (.slice ao l.length cap) l) := fun W h => hv.keeps h
  have HN := Lib.hid hn
  rw [← hn] at CK SR ⊢
  obtain ⟨R, hR⟩ : ∃ z, findL l a = z := ⟨_, rfl⟩
  have HR := Lib.hid hR
  obtain ⟨P, hP⟩ : ∃ P : Nat → Prop, P = Pos l a := ⟨_, rfl⟩
  have hPk : ∀ k, Pos l a k = P k := fun k => by rw [hP]
  have HF0 : Hid (¬ Bag l → R = none) := fun h => by rw [← hR]; unfold findL; rw [bagB_no h]; rfl
  have HF1 : Hid (Bag l → hasO l a = false → R = none) := fun h h2 => by
    rw [← hR]; unfold findL; rw [(bagB_iff l).2 h, if_pos rfl]
    unfold hasO at h2; cases hf : findO l a with
    | none => rfl
    | some x => rw [hf] at h2; cases h2
  have HF2 : Hid (Bag l → hasO l a = true → ∀ k, P k → ∃ hk : k < l.length, R = some (l[k]'hk)) := fun h h2 k hp => by
    rw [← hPk] at hp
    obtain ⟨hk, he⟩ := pos_has h.2.2 hp h2
    refine ⟨hk, ?_⟩
    rw [← hR]; unfold findL; rw [(bagB_iff l).2 h, if_pos rfl]
    exact pos_find h.2.2 hp hk he
  have HPL : Hid (Bag l → ∀ k (hk : k < l.length), (l[k]'hk).pl.length ≤ 8796093022208) := fun h k hk => (bag_fits h).2 _ (List.getElem_mem hk)
  simp only [hPk] at SR
  rw [hR]
  obtain ⟨q, hq⟩ : ∃ q, hasO l a = q := ⟨_, rfl⟩
  rw [hq] at SR HF1 HF2
  obtain ⟨ta, hta⟩ : ∃ z, a.t = z := ⟨_, rfl⟩
  obtain ⟨ra, hra⟩ : ∃ z, a.r = z := ⟨_, rfl⟩
  rw [hta, hra] at SR ⊢
  have BL : Hid (Below w.heap.size w ((w.alloc (.cells #[.int .u32 (ta : Int), .int .u8 (ra : Int)] 27)).alloc (.cells #[.int .u8 0, .int .u32 0, .int .u8 0, .slice none 0 0, .int .i64 0] 30))) := ((Below.refl _ _).alloc (Nat.le_refl _) _).alloc (by simp) _
  have XO : Hid (((w.alloc (.cells #[.int .u32 (ta : Int), .int .u8 (ra : Int)] 27)).alloc (.cells #[.int .u8 0, .int .u32 0, .int .u8 0, .slice none 0 0, .int .i64 0] 30)).heap[w.heap.size + 1]? = some (.cells #[.int .u8 0, .int .u32 0, .int .u8 0, .slice none 0 0, .int .i64 0] 30)) := blk_new (by simp)
  have XI : Hid (((w.alloc (.cells #[.int .u32 (ta : Int), .int .u8 (ra : Int)] 27)).alloc (.cells #[.int .u8 0, .int .u32 0, .int .u8 0, .slice none 0 0, .int .i64 0] 30)).heap[w.heap.size]? = some (.cells #[.int .u32 (ta : Int), .int .u8 (ra : Int)] 27)) := blk_old (blk_new rfl)
  have SZ : Hid (∀ W : World, Below ((w.alloc (.cells #[.int .u32 (ta : Int), .int .u8 (ra : Int)] 27)).alloc (.cells #[.int .u8 0, .int .u32 0, .int .u8 0, .slice none 0 0, .int .i64 0] 30)).heap.size ((w.alloc (.cells #[.int .u32 (ta : Int), .int .u8 (ra : Int)] 27)).alloc (.cells #[.int .u8 0, .int .u32 0, .int .u8 0, .slice none 0 0, .int .i64 0] 30)) W → w.heap.size + 2 ≤ W.heap.size) := fun W h => by have := h.size; simpa using this
  clear hv hR hq hP hPk hta hra hn
  by_cases hbag : Bag l
  rotate_left
  · rw [chkL_no hbag] at CK
    obtain rfl := HF0.out hbag
    clear HF0 HF1 HF2 SR HPL hbag
    go_enter Try.func27, Try.ntmps27
    go_wp2_with fail
    refine (CK.out _ BL.out).mono ?_
    rintro e w1 ⟨rfl, b1⟩
    have B1 := Lib.hid (bt BL.out b1)
    have X1 := Lib.hid (blk_below b1 XO.out)
    clear b1 BL XO XI CK
    obtain ⟨x0, x1, x2, x3, x4⟩ := cells5 X1.out
    have f0 : ∀ o, w1.frozen? ⟨w.heap.size + 1, o, none⟩ = false := fun o => free5 X1.out o
    go_wp2_with fail
    obtain ⟨WF, hWF⟩ : ∃ WF, WF = put5 w1 (w.heap.size + 1) (.int .u8 0) (.int .u32 0) (.int .u8 0) (.slice none 0 0) (.int .i64 0) := ⟨_, rfl⟩
    have HF := put5_same (.int .u8 0) (.int .u32 0) (.int .u8 0) (.slice none 0 0) (.int .i64 0) X1.out
    have BF := put5_below (.int .u8 0) (.int .u32 0) (.int .u8 0) (.slice none 0 0) (.int .i64 0) (show w.heap.size ≤ w.heap.size + 1 by omega) B1.out
    rw [← hWF] at HF BF
    unfold put5 at hWF
    rw [← hWF]
    obtain ⟨e0, e1, e2, e3, e4⟩ := cells5 HF
    exact bodyPost_ret (v := .tuple #[.agg #[.int .u8 0, .int .u32 0, .int .u8 0, .slice none 0 0, .int .i64 0], .bool false]) (by simp [results, Try.results27, go_sem, e0, e1, e2, e3, e4]) rfl ⟨.slice none 0 0, rfl, World.ownsRow_nil _ _ _ _, BF⟩
  rw [chkL_yes hbag] at CK
  have SR2 := Lib.hid (SR.out hbag)
  have HF3 := Lib.hid (HF1.out hbag)
  have HF4 := Lib.hid (HF2.out hbag)
  have HPL2 := Lib.hid (HPL.out hbag)
  clear HF0 HF1 HF2 SR HPL hbag
  go_enter Try.func27, Try.ntmps27
  go_wp2_with fail
  refine (CK.out _ BL.out).mono ?_
  rintro e w1 ⟨rfl, b1⟩
  have B1 := Lib.hid (bt BL.out b1)
  have X1 := Lib.hid (blk_below b1 XO.out)
  have I1 := Lib.hid (blk_below b1 XI.out)
  have S1 := Lib.hid (SZ.out _ b1)
  clear b1 BL XO XI CK SZ
  obtain ⟨z0, z1⟩ : w1.cell? ⟨w.heap.size, 0, none⟩ = some (.int .u32 (ta : Int)) ∧ w1.cell? ⟨w.heap.size, 1, none⟩ = some (.int .u8 (ra : Int)) := ⟨cell_of_row _ _ 0 _ _ _ I1.out, cell_of_row _ _ 1 _ _ _ I1.out⟩
  go_wp2_with fail
  refine (SR2.out _ B1.out).mono ?_
  rintro e w2 ⟨kk, rfl, hk, b2⟩
  have B2 := Lib.hid (bt B1.out b2)
  have X2 := Lib.hid (blk_below b2 X1.out)
  have HK := Lib.hid hk
  have S2 : Hid (w.heap.size + 2 ≤ w2.heap.size) := Nat.le_trans S1.out b2.size
  clear b2 hk B1 X1 I1 z0 z1 SR2 S1
  cases q
  · obtain rfl := HF3.out rfl
    clear HF3 HF4 HPL2
    obtain ⟨x0, x1, x2, x3, x4⟩ := cells5 X2.out
    have f0 : ∀ o, w2.frozen? ⟨w.heap.size + 1, o, none⟩ = false := fun o => free5 X2.out o
    go_wp2_with fail
    obtain ⟨WF, hWF⟩ : ∃ WF, WF = put5 w2 (w.heap.size + 1) (.int .u8 0) (.int .u32 0) (.int .u8 0) (.slice none 0 0) (.int .i64 0) := ⟨_, rfl⟩
    have HF := put5_same (.int .u8 0) (.int .u32 0) (.int .u8 0) (.slice none 0 0) (.int .i64 0) X2.out
    have BF := put5_below (.int .u8 0) (.int .u32 0) (.int .u8 0) (.slice none 0 0) (.int .i64 0) (show w.heap.size ≤ w.heap.size + 1 by omega) B2.out
    rw [← hWF] at HF BF
    unfold put5 at hWF
    rw [← hWF]
    obtain ⟨e0, e1, e2, e3, e4⟩ := cells5 HF
    exact bodyPost_ret (v := .tuple #[.agg #[.int .u8 0, .int .u32 0, .int .u8 0, .slice none 0 0, .int .i64 0], .bool false]) (by simp [results, Try.results27, go_sem, e0, e1, e2, e3, e4]) rfl ⟨.slice none 0 0, rfl, World.ownsRow_nil _ _ _ _, BF⟩
  obtain ⟨hkl, hRx⟩ := HF4.out rfl kk HK.out
  have HRX := Lib.hid hRx
  have hpx := HPL2.out kk hkl
  have q4 : (0 : Int) ≤ (kk : Int) := by omega
  have q5 : (kk : Int) < (n : Int) := by have := HN.out; omega
  obtain ⟨bb, oo, u, e, hbb, hru, h0, h1, h2, h3, h4⟩ := opl_at (HV.out w2 B2.out) kk hkl
  subst e
  obtain ⟨x, hx⟩ : ∃ x, x = l[kk]'hkl := ⟨_, rfl⟩
  rw [← hx] at hru h0 h1 h2 h4
  have HO : Hid (∀ v : Value, opv x v = .agg #[.int .u8 (x.k : Int), .int .u32 (x.t : Int), .int .u8 (x.r : Int), v, .int .i64 x.p]) := fun v => rfl
  obtain ⟨uo, uc, rfl⟩ := hru.shape
  obtain ⟨nu, hnu⟩ : ∃ n, n = x.pl.length := ⟨_, rfl⟩
  have HNU := Lib.hid hnu
  rw [← hnu] at hru h3
  clear hnu
  rw [← hx] at hRx hpx
  have HRX := Lib.hid hRx
  have TW : Hid (Calls Try.prog 39 #[opv x (.slice uo nu uc)] w2 fun e w' => ∃ ao cap, e = .returned (opv x (.slice ao nu cap)) ∧ w'.ownsRow (w.heap.size + 2) 71 3 (.slice ao nu cap) x.pl.length (runs x.pl) ∧ Below w2.heap.size w2 w') := by
    refine (oTwin_any hru hpx).mono ?_
    rintro e w' ⟨v', rfl, ho, hb⟩
    obtain ⟨ao', cap', rfl⟩ : ∃ ao cap, v' = .slice ao x.pl.length cap := Sees.shape (Sees.own ho)
    rw [← HNU.out] at ho ⊢
    exact ⟨ao', cap', rfl, op_base ho S2.out, hb⟩
  clear hx hru hpx hRx HF3 HF4 HPL2
  obtain ⟨k, hk⟩ : ∃ z, x.k = z := ⟨_, rfl⟩
  obtain ⟨t, ht⟩ : ∃ z, x.t = z := ⟨_, rfl⟩
  obtain ⟨r, hr⟩ : ∃ z, x.r = z := ⟨_, rfl⟩
  obtain ⟨p, hp⟩ : ∃ z, x.p = z := ⟨_, rfl⟩
  rw [hk, ht, hr, hp] at HO
  rw [hk] at h0
  rw [ht] at h1
  rw [hr] at h2
  rw [hp] at h4
  simp only [HO.out] at TW
  clear hk ht hr hp
  go_wp2_with fail
  refine TW.out.mono ?_
  rintro e w5 ⟨a5, c5, rfl, o5, b5⟩
  have B5 := Lib.hid (bt B2.out b5)
  have X5 := Lib.hid (blk_below b5 X2.out)
  have O5 := Lib.hid o5
  clear o5 b5 h0 h1 h2 h3 h4 TW
  obtain ⟨x0, x1, x2, x3, x4⟩ := cells5 X5.out
  have f0 : ∀ o, w5.frozen? ⟨w.heap.size + 1, o, none⟩ = false := fun o => free5 X5.out o
  go_wp2_with fail
  obtain ⟨WF, hWF⟩ : ∃ WF, WF = put5 w5 (w.heap.size + 1) (.int .u8 (k : Int)) (.int .u32 (t : Int)) (.int .u8 (r : Int)) (.slice a5 nu c5) (.int .i64 p) := ⟨_, rfl⟩
  have HF := put5_same (.int .u8 (k : Int)) (.int .u32 (t : Int)) (.int .u8 (r : Int)) (.slice a5 nu c5) (.int .i64 p) X5.out
  have BF := put5_below (.int .u8 (k : Int)) (.int .u32 (t : Int)) (.int .u8 (r : Int)) (.slice a5 nu c5) (.int .i64 p) (show w.heap.size ≤ w.heap.size + 1 by omega) B5.out
  have OW := put5_own (.int .u8 (k : Int)) (.int .u32 (t : Int)) (.int .u8 (r : Int)) (.slice a5 nu c5) (.int .i64 p) O5.out (show w.heap.size + 1 < w.heap.size + 2 by omega)
  rw [← hWF] at HF BF OW
  unfold put5 at hWF
  rw [← hWF]
  obtain ⟨e0, e1, e2, e3, e4⟩ := cells5 HF
  refine bodyPost_ret (v := .tuple #[.agg #[.int .u8 (k : Int), .int .u32 (t : Int), .int .u8 (r : Int), .slice a5 nu c5, .int .i64 p], .bool true]) (by simp [results, Try.results27, go_sem, e0, e1, e2, e3, e4]) rfl ⟨.slice a5 nu c5, ?_, ?_, BF⟩
  · rw [HRX.out]
    show _ = Ending.returned (.tuple #[opv x _, .bool true])
    rw [HO.out]
  · rw [HRX.out]
    show World.ownsRow _ _ _ _ _ x.pl.length (runs x.pl)
    exact op_base OW (by omega)
end Go.Proofs.Ytocjkegkgnbboaa.Bags

/- octavo/bag: what each call answers (bCheck_any, bSame_any, bTwin_any, bIds_any, bAdd_any, bJoin_any, bLess_any, bFind_any): gathered. Conditions: none. -/


/- octavolaw11.one, put, alive: what each answers. Conditions: the slices' cells are operations. -/
namespace Go.Proofs.Ytocjkegkgnbboaa.Bags
open Go.RowKit Go.WideShapes Stamp Go.Proofs.Ytocjkegkgnbboaa.Place Ops Codes
attribute [local go_sem ↓] Go.wp_at_zero Go.wp_at_succ
attribute [local go_sem] yielded_undef

/-- A mark's operation. -/
def oneO (t r : Nat) (h : t < 4294967296 ∧ r < 256) : Opn := ⟨2, t, r, [⟨t, r, 1, h.1, h.2, by decide⟩], 0, by decide, h.1, h.2, by decide⟩
set_option maxRecDepth 100000 in
theorem one11_any {t r : Nat} (h : t < 4294967296 ∧ r < 256) (w : World) : Calls Try.prog 10 #[.int .u32 (t : Int), .int .u8 (r : Int)] w fun e w' => ∃ g, e = .returned (.agg #[.int .u8 2, .int .u32 (t : Int), .int .u8 (r : Int), .slice (some ⟨g, 0, none⟩) 1 1, .int .i64 0]) ∧ Runs w' (.slice (some ⟨g, 0, none⟩) 1 1) (oneO t r h).pl ∧ Below w.heap.size w w' := by
  go_enter Try.func10, Try.ntmps10
  go_wp2_with fail
  refine bodyPost_ret (v := .agg #[.int .u8 2, .int .u32 (t : Int), .int .u8 (r : Int), .slice (some ⟨w.heap.size + 1, 0, none⟩) 1 1, .int .i64 0]) (by simp [results, Try.results10, go_sem]) rfl ⟨w.heap.size + 1, rfl, ?_, ((Below.refl _ _).alloc (Nat.le_refl _) _).alloc (by simp) _⟩
  have h := runs_new (w.alloc (.cells #[.int .u8 2, .int .u32 (t : Int), .int .u8 (r : Int), .slice (some ⟨w.heap.size + 1, 0, none⟩) 1 1, .int .i64 0] 30)) (oneO t r h).pl 1 rfl (by simp [oneO]) 71 (0, 0)
  rw [show (w.alloc (.cells #[.int .u8 2, .int .u32 (t : Int), .int .u8 (r : Int), .slice (some ⟨w.heap.size + 1, 0, none⟩) 1 1, .int .i64 0] 30)).heap.size = w.heap.size + 1 by simp] at h
  exact h

/-- Operations put one behind the other. -/
def putS (s : List Opn × Bool) (o : Opn) : List Opn × Bool := (addL s.1 o, s.2 && decide (addE s.1 o = 0))
def putL (l m : List Opn) : List Opn × Bool := m.foldl putS (l, true)
theorem putL_snoc (l m : List Opn) (o : Opn) : putL l (m ++ [o]) = putS (putL l m) o := by unfold putL; rw [List.foldl_append]; rfl
set_option maxRecDepth 100000 in
set_option maxHeartbeats 4000000 in
theorem put_any {v0 u0 : Value} {l more : List Opn} {w : World} (hv : OpL w v0 l) (hm : OpL w u0 more) :
    Calls Try.prog 9 #[v0, u0] w fun e w' => ∃ v, e = .returned (.tuple #[v, .bool (putL l more).2]) ∧ OpL w' v (putL l more).1 ∧ Below w.heap.size w w' := by
  obtain ⟨ao, cap, rfl⟩ := hm.shape
  obtain ⟨n, hn⟩ : ∃ n, n = more.length := ⟨_, rfl⟩
  have hmx : n ≤ 9223372036854775807 := by rw [hn]; exact hm.max
  have HV : Hid (∀ W : World, Below w.heap.size w W → OpL W (.slice ao more.length cap) more) := fun W h => hm.keeps h
  have HN := Lib.hid hn
  rw [← hn]
  have S0 : Hid (OpL w v0 (putL l (more.take 0)).1) := hv
  have K0 : Hid (true = (putL l (more.take 0)).2) := rfl
  have B0 : Hid (Below w.heap.size w w) := Below.refl _ _
  clear hv hm hn
  go_enter Try.func9, Try.ntmps9
  go_wp2
  go_loopw [0, 6, 7, 8, 9] (fun v ok i x e wr => ∃ (j : Nat) (q : Bool), j ≤ n ∧ i = .int .i64 (j : Int) ∧ ok = .bool q ∧ Hid (q = (putL l (more.take j)).2) ∧ Hid (OpL wr v (putL l (more.take j)).1) ∧ Hid (Below w.heap.size w wr)) (fun _ _ i _ _ _ => n - (intOf i).toNat)
  case atStart => exact ⟨0, true, by omega, rfl, rfl, K0, S0, B0⟩
  case round =>
    clear S0 B0 K0
    obtain ⟨j, q, hj, rfl, rfl, HQ, hown, hbel⟩ := hrel
    by_cases hjn : j < n
    rotate_left
    · have q3 : decide (j < n) = false := by simpa using hjn
      have hkk : more.take j = more := List.take_of_length_le (by have := HN.out; omega)
      rw [hkk] at hown HQ
      clear hkk
      go_wp2
      go_ret2
      exact ⟨_, by rw [← HQ.out]; rfl, hown.out, hbel.out⟩
    have q3 : decide (j < n) = true := by simpa using hjn
    have q4 : (0 : Int) ≤ (j : Int) := by omega
    have q5 : (j : Int) < (n : Int) := by omega
    have hjl : j < more.length := by rw [← HN.out]; exact hjn
    obtain ⟨bb, oo, u, e, hbb, hru, h0, h1, h2, h3, h4⟩ := opl_at (HV.out wr hbel.out) j hjl
    subst e
    obtain ⟨x, hx⟩ : ∃ x, x = more[j]'hjl := ⟨_, rfl⟩
    rw [← hx] at hru h0 h1 h2 h4
    have HO : Hid (∀ v : Value, opv x v = .agg #[.int .u8 (x.k : Int), .int .u32 (x.t : Int), .int .u8 (x.r : Int), v, .int .i64 x.p]) := fun v => rfl
    have FT : Hid (putL l (more.take (j + 1)) = putS (putL l (more.take j)) x) := by unfold Hid; rw [List.take_succ_eq_append_getElem hjl, putL_snoc, hx]
    have WI := bAdd_any hown.out hru
    obtain ⟨E, hE⟩ : ∃ E, addE (putL l (more.take j)).1 x = E := ⟨_, rfl⟩
    rw [hE] at WI
    have FE := Lib.hid hE
    have WJ := Lib.hid WI
    clear WI hx hru hE
    obtain ⟨k, hk⟩ : ∃ z, x.k = z := ⟨_, rfl⟩
    obtain ⟨t, ht⟩ : ∃ z, x.t = z := ⟨_, rfl⟩
    obtain ⟨r, hr⟩ : ∃ z, x.r = z := ⟨_, rfl⟩
    obtain ⟨p, hp⟩ : ∃ z, x.p = z := ⟨_, rfl⟩
    rw [hk, ht, hr, hp] at HO
    rw [hk] at h0
    rw [ht] at h1
    rw [hr] at h2
    rw [hp] at h4
    simp only [HO.out] at WJ
    clear hk ht hr hp HO hown hbb
    obtain ⟨d, hd⟩ : ∃ b, decide (E = 0) = b := ⟨_, rfl⟩
    have hd' : (E == 0) = d := by rw [← hd]; by_cases h : E = 0 <;> simp [h]
    have HD : Hid (decide (E = 0) = d) := hd
    go_wp2_with fail
    refine WJ.out.mono ?_
    rintro e w5 ⟨v5, rfl, o5, b5⟩
    have O5 : Hid (OpL w5 v5 (putL l (more.take (j + 1))).1) := by unfold Hid; rw [FT.out]; exact o5.opl
    have B5 := Lib.hid (bt hbel.out b5)
    have K5 : Hid ((q && d) = (putL l (more.take (j + 1))).2) := by unfold Hid; rw [FT.out, HQ.out, ← HD.out, ← FE.out]; rfl
    clear o5 b5 WJ h0 h1 h2 h3 h4 hd
    cases q
    · go_wp2
      go_roundw
      case rel => exact ⟨j + 1, false, by omega, by go_num, rfl, K5, O5, B5⟩
      case measure => simp [intOf]; omega
    · go_wp2
      go_roundw
      case rel => exact ⟨j + 1, d, by omega, by go_num, rfl, by have := K5.out; rwa [Bool.true_and] at this, O5, B5⟩
      case measure => simp [intOf]; omega

def o30 : Opn := oneO 3 0 (by decide)
def o11 : Opn := oneO 1 1 (by decide)
theorem put_two : putL [] [o30, o11] = ([o11, o30], true) := by decide +kernel
theorem put_again : putL [o11, o30] [o30] = ([o11, o30], true) := by decide +kernel
theorem seq_lit {w : World} {cs : List Value} {l : List Opn} (n : Nat) (hn : n = l.length) (hl : n ≤ 1000) (h : opE.rows w cs l) : OpL (w.alloc (.cells cs.toArray 30)) (.slice (some ⟨w.heap.size, 0, none⟩) n n) l := by
  subst hn
  refine ⟨cs, sees_new w cs 5 l.length (Enc.rows_len h) (by omega) 30 (0, 0), Enc.rows_keep ((Below.refl _ _).alloc (Nat.le_refl _) _) h⟩

theorem rows_two {w : World} {g1 g3 : Nat} (h1 : Runs w (.slice (some ⟨g1, 0, none⟩) 1 1) o11.pl) (h3 : Runs w (.slice (some ⟨g3, 0, none⟩) 1 1) o30.pl) :
    opE.rows w [.int .u8 2, .int .u32 1, .int .u8 1, .slice (some ⟨g1, 0, none⟩) 1 1, .int .i64 0, .int .u8 2, .int .u32 3, .int .u8 0, .slice (some ⟨g3, 0, none⟩) 1 1, .int .i64 0] [o11, o30] := ⟨[.int .u8 2, .int .u32 1, .int .u8 1, .slice (some ⟨g1, 0, none⟩) 1 1, .int .i64 0], [.int .u8 2, .int .u32 3, .int .u8 0, .slice (some ⟨g3, 0, none⟩) 1 1, .int .i64 0], rfl, ⟨_, rfl, h1⟩, [.int .u8 2, .int .u32 3, .int .u8 0, .slice (some ⟨g3, 0, none⟩) 1 1, .int .i64 0], [], rfl, ⟨_, rfl, h3⟩, rfl⟩
theorem rows_two' {w : World} {g1 g3 : Nat} (h1 : Runs w (.slice (some ⟨g1, 0, none⟩) 1 1) o11.pl) (h3 : Runs w (.slice (some ⟨g3, 0, none⟩) 1 1) o30.pl) :
    opE.rows w [.int .u8 2, .int .u32 3, .int .u8 0, .slice (some ⟨g3, 0, none⟩) 1 1, .int .i64 0, .int .u8 2, .int .u32 1, .int .u8 1, .slice (some ⟨g1, 0, none⟩) 1 1, .int .i64 0] [o30, o11] := ⟨[.int .u8 2, .int .u32 3, .int .u8 0, .slice (some ⟨g3, 0, none⟩) 1 1, .int .i64 0], [.int .u8 2, .int .u32 1, .int .u8 1, .slice (some ⟨g1, 0, none⟩) 1 1, .int .i64 0], rfl, ⟨_, rfl, h3⟩, [.int .u8 2, .int .u32 1, .int .u8 1, .slice (some ⟨g1, 0, none⟩) 1 1, .int .i64 0], [], rfl, ⟨_, rfl, h1⟩, rfl⟩
theorem rows_one {w : World} {g3 : Nat} (h3 : Runs w (.slice (some ⟨g3, 0, none⟩) 1 1) o30.pl) :
    opE.rows w [.int .u8 2, .int .u32 3, .int .u8 0, .slice (some ⟨g3, 0, none⟩) 1 1, .int .i64 0] [o30] := ⟨[.int .u8 2, .int .u32 3, .int .u8 0, .slice (some ⟨g3, 0, none⟩) 1 1, .int .i64 0], [], rfl, ⟨_, rfl, h3⟩, rfl⟩
theorem one30_any (w : World) : Calls Try.prog 10 #[.int .u32 3, .int .u8 0] w fun e w' => ∃ g, e = .returned (.agg #[.int .u8 2, .int .u32 3, .int .u8 0, .slice (some ⟨g, 0, none⟩) 1 1, .int .i64 0]) ∧ Runs w' (.slice (some ⟨g, 0, none⟩) 1 1) o30.pl ∧ Below w.heap.size w w' := one11_any (t := 3) (r := 0) (by decide) w
theorem one11'_any (w : World) : Calls Try.prog 10 #[.int .u32 1, .int .u8 1] w fun e w' => ∃ g, e = .returned (.agg #[.int .u8 2, .int .u32 1, .int .u8 1, .slice (some ⟨g, 0, none⟩) 1 1, .int .i64 0]) ∧ Runs w' (.slice (some ⟨g, 0, none⟩) 1 1) o11.pl ∧ Below w.heap.size w w' := one11_any (t := 1) (r := 1) (by decide) w

set_option maxRecDepth 100000 in
set_option maxHeartbeats 8000000 in
theorem alive11_any (w : World) : Calls Try.prog 14 #[] w fun e w' => e = .returned (.bool true) ∧ Below w.heap.size w w' := by
  have P1 : Hid (∀ (W : World) (v : Value), OpL W v [o30, o11] → Calls Try.prog 9 #[.slice none 0 0, v] W fun e w' => ∃ v, e = .returned (.tuple #[v, .bool true]) ∧ OpL w' v [o11, o30] ∧ Below W.heap.size W w') := fun W v h => by
    have := put_any (Seq.nil opE W) h
    rw [put_two] at this
    exact this
  have P2 : Hid (∀ (W : World) (u v : Value), OpL W u [o11, o30] → OpL W v [o30] → Calls Try.prog 9 #[u, v] W fun e w' => ∃ v, e = .returned (.tuple #[v, .bool true]) ∧ OpL w' v [o11, o30] ∧ Below W.heap.size W w') := fun W u v h h2 => by
    have := put_any h h2
    rw [put_again] at this
    exact this
  have SL : Hid (∀ (W : World) (u v : Value), OpL W u [o11, o30] → OpL W v [o11, o30] → Calls Try.prog 15 #[u, v] W fun e w' => e = .returned (.bool true) ∧ Below W.heap.size W w') := fun W u v h h2 => by
    have := sameL_any h h2
    rwa [decide_eq_true rfl] at this
  go_enter Try.func14, Try.ntmps14
  go_wp2_with fail
  refine (one30_any _).mono ?_
  rintro e w1 ⟨g3, rfl, r1, b1⟩
  have B1 := Lib.hid b1
  have R3 := Lib.hid r1
  clear r1 b1
  go_wp2_with fail
  refine (one11'_any _).mono ?_
  rintro e w2 ⟨g1, rfl, r2, b2⟩
  have B2 := Lib.hid (bt B1.out b2)
  have R3b := Lib.hid (R3.out.keeps b2)
  have LQ := Lib.hid (seq_lit 2 rfl (by omega) (rows_two' r2 R3b.out))
  have B2b := Lib.hid (B2.out.alloc B2.out.size (.cells [.int .u8 2, .int .u32 3, .int .u8 0, .slice (some ⟨g3, 0, none⟩) 1 1, .int .i64 0, .int .u8 2, .int .u32 1, .int .u8 1, .slice (some ⟨g1, 0, none⟩) 1 1, .int .i64 0].toArray 30))
  clear r2 b2 R3 R3b B1 B2
  go_wp2_with fail
  refine (P1.out _ _ LQ.out).mono ?_
  rintro e w3 ⟨va, rfl, o3, b3⟩
  have B3 := Lib.hid (bt B2b.out b3)
  have A3 := Lib.hid o3
  clear o3 b3 LQ B2b
  go_wp2_with fail
  refine (one30_any _).mono ?_
  rintro e w4 ⟨g4, rfl, r4, b4⟩
  have A4 := Lib.hid (A3.out.keeps b4)
  have B4 := Lib.hid (bt B3.out b4)
  have LQ := Lib.hid (seq_lit 1 rfl (by omega) (rows_one r4))
  have bo := (Below.refl w4.heap.size w4).alloc (Nat.le_refl _) (.cells [.int .u8 2, .int .u32 3, .int .u8 0, .slice (some ⟨g4, 0, none⟩) 1 1, .int .i64 0].toArray 30)
  have A5 := Lib.hid (A4.out.keeps bo)
  have B5 := Lib.hid (bt B4.out bo)
  clear r4 b4 A3 B3 A4 B4 bo
  go_wp2_with fail
  refine (P2.out _ _ _ A5.out LQ.out).mono ?_
  rintro e w6 ⟨vb, rfl, o6, b6⟩
  have A6 := Lib.hid (A5.out.keeps b6)
  have Q6 := Lib.hid o6
  have B6 := Lib.hid (bt B5.out b6)
  clear o6 b6 A5 B5 LQ
  go_wp2_with fail
  refine (one11'_any _).mono ?_
  rintro e w7 ⟨g7, rfl, r7, b7⟩
  have A7 := Lib.hid (A6.out.keeps b7)
  have Q7 := Lib.hid (Q6.out.keeps b7)
  have B7 := Lib.hid (bt B6.out b7)
  have R7 := Lib.hid r7
  clear r7 b7 A6 Q6 B6
  go_wp2_with fail
  refine (one30_any _).mono ?_
  rintro e w8 ⟨g8, rfl, r8, b8⟩
  have bo := (Below.refl w8.heap.size w8).alloc (Nat.le_refl _) (.cells [.int .u8 2, .int .u32 1, .int .u8 1, .slice (some ⟨g7, 0, none⟩) 1 1, .int .i64 0, .int .u8 2, .int .u32 3, .int .u8 0, .slice (some ⟨g8, 0, none⟩) 1 1, .int .i64 0].toArray 30)
  have A8 := Lib.hid ((A7.out.keeps b8).keeps bo)
  have Q8 := Lib.hid ((Q7.out.keeps b8).keeps bo)
  have B8 := Lib.hid (bt (bt B7.out b8) bo)
  have LQ := Lib.hid (seq_lit 2 rfl (by omega) (rows_two (R7.out.keeps b8) r8))
  clear r8 b8 A7 Q7 B7 R7 bo
  go_wp2_with fail
  refine (SL.out _ _ _ A8.out LQ.out).mono ?_
  rintro e w9 ⟨rfl, b9⟩
  have A9 := Lib.hid (A8.out.keeps b9)
  have Q9 := Lib.hid (Q8.out.keeps b9)
  have B9 := Lib.hid (bt B8.out b9)
  clear b9 A8 Q8 B8 LQ
  go_wp2_with fail
  refine (SL.out _ _ _ Q9.out A9.out).mono ?_
  rintro e w10 ⟨rfl, b10⟩
  have B10 := Lib.hid (bt B9.out b10)
  clear b10
  go_wp2
  go_ret
  exact ⟨rfl, B10.out⟩
end Go.Proofs.Ytocjkegkgnbboaa.Bags
