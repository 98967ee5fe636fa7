/- octavo/clock: done with its closure, Join, Less, Add: what each answers. Conditions: the slices' cells are replicas' spans; no replica has more than 1024 spans in both together. -/
import Derived.Test.YtinglfhndlklaaaClockCode2
namespace Go.Proofs.Ytinglfhndlklaaa.Clocks
open Go.RowKit Go.Proofs.Ytinglfhndlklaaa.Spans
attribute [local go_sem ↓] Go.wp_at_zero Go.wp_at_succ

theorem zero_sps (w : World) : (zeroValue 26).run Try.prog w = .ok (.slice none 0 0) w := by kernel_rfl
/-- What a function does that is handed on: it answers spans of its own. -/
def Does (gd : Nat) (op : List Sp → List Sp → List Sp) : Prop :=
  ∀ (W : World) (x y : Value) (a b : List Sp), Sps W x a → Sps W y b → mayB a = true → mayB b = true → a.length + b.length ≤ 1024 →
    Calls Try.prog gd #[x, y] W fun e w' => ∃ v', e = .returned (.tuple #[v', .int .i64 0]) ∧ w'.ownsRow W.heap.size 63 2 v' (op a b).length (sps (op a b)) ∧ Below W.heap.size W w'
set_option maxRecDepth 100000 in
set_option maxHeartbeats 2000000 in
theorem doneOne_any {gd : Nat} (ed : ∀ args w, (callFunc gd args).run Try.prog w = .ok (.enter gd args) w) {op : List Sp → List Sp → List Sp} (HD : Does gd op) {k P Q m1 n1 m2 n2 : Nat} {M1 M2 : Nat → Option Value} {a b : List Sp} {W : World} (hk : k < 256)
    (hp : W.cell? ⟨P, 0, none⟩ = some (.func (.func gd) #[] #[])) (hq : W.cell? ⟨Q, 0, none⟩ = some (.map (some m1))) (hr : W.cell? ⟨Q + 1, 0, none⟩ = some (.map (some m2))) (h1 : MapV W m1 n1 M1) (h2 : MapV W m2 n2 M2)
    (ha : Sps W ((M1 k).getD (.slice none 0 0)) a) (hb : Sps W ((M2 k).getD (.slice none 0 0)) b) (fa : mayB a = true) (fb : mayB b = true) (hf : a.length + b.length ≤ 1024) :
    Calls Try.prog 66 #[.int .u8 (k : Int), .pointer (some ⟨P, 0, none⟩), .pointer (some ⟨Q, 0, none⟩), .pointer (some ⟨Q + 1, 0, none⟩)] W fun e w' => ∃ v', e = .returned (.tuple #[v', .int .i64 0]) ∧
      w'.ownsRow W.heap.size 63 2 v' (op a b).length (sps (op a b)) ∧ Below W.heap.size W w' := by
  have H1 := Lib.hid h1
  have H2 := Lib.hid h2
  have CD := Lib.hid (HD W _ _ a b ha hb fa fb hf)
  obtain ⟨x, hx⟩ : ∃ x, x = (M1 k).getD (.slice none 0 0) := ⟨_, rfl⟩
  obtain ⟨y, hy⟩ : ∃ y, y = (M2 k).getD (.slice none 0 0) := ⟨_, rfl⟩
  rw [← hx] at ha CD
  rw [← hy] at hb CD
  have HX := Lib.hid hx
  have HY := Lib.hid hy
  obtain ⟨xo, xc, rfl⟩ := ha.shape
  obtain ⟨yo, yc, rfl⟩ := hb.shape
  obtain ⟨r, hr'⟩ : ∃ r, r = op a b := ⟨_, rfl⟩
  rw [← hr'] at CD ⊢
  obtain ⟨la, hla⟩ : ∃ la, la = a.length := ⟨_, rfl⟩
  obtain ⟨lb, hlb⟩ : ∃ lb, lb = b.length := ⟨_, rfl⟩
  rw [← hla] at CD HX
  rw [← hlb] at CD HY
  clear h1 h2 ha hb fa fb hf HD hx hy hr' hla hlb
  go_enter Try.func66, Try.ntmps66
  go_wp2_with (first | (at_lookup; refine wpList_lookup_v _ rfl _ _ 86 26 rfl Try.underlying86 (.slice none 0 0) (zero_sps _) m1 n1 k M1 H1.out rfl rfl hk ?_; rw [← HX.out]) | (at_lookup; refine wpList_lookup_v _ rfl _ _ 86 26 rfl Try.underlying86 (.slice none 0 0) (zero_sps _) m2 n2 k M2 H2.out rfl rfl hk ?_; rw [← HY.out]) | go_in)
  refine CD.out.mono ?_
  rintro e w1 ⟨v1, rfl, o1, b1⟩
  have O1 := Lib.hid o1
  have B1 := Lib.hid b1
  obtain ⟨so, sc, rfl⟩ := Sees.shape (Sees.own o1)
  clear o1 b1
  go_wp2
  go_ret2
  exact ⟨_, rfl, O1.out, B1.out⟩

theorem idx_c0 (x y : Value) (W : World) : (Instr.index 85 (.agg #[x, y]) (.int .i64 0)).run Try.prog W = .ok x W := by
  simp [Instr.index, asIntOf, run_underlying Try.underlying85, go_sem]
theorem idx_c1 (x y : Value) (W : World) : (Instr.index 85 (.agg #[x, y]) (.int .i64 1)).run Try.prog W = .ok y W := by
  simp [Instr.index, asIntOf, run_underlying Try.underlying85, go_sem]

set_option maxRecDepth 100000 in
set_option maxHeartbeats 4000000 in
theorem done_any {gd : Nat} (ed : ∀ args w, (callFunc gd args).run Try.prog w = .ok (.enter gd args) w) {op : List Sp → List Sp → List Sp} (HD : Does gd op) {v u : Value} {a b L : List Tm} {c : Int} {w : World} (hv : Tms w v a) (hu : Tms w u b) (hf : Few a b)
    (hbad : ¬ (mayC a = true ∧ mayC b = true) → L = [] ∧ c = 8) (hgood : mayC a = true → mayC b = true → L = clk (fun r => op (spn a r) (spn b r)) ∧ c = 0) :
    Calls Try.prog 37 #[v, u, .func (.func gd) #[] #[]] w (DoneC L c w) := by
  have HV := Lib.hid hv
  have HU := Lib.hid hu
  have HF := Lib.hid hf
  have HDO := Lib.hid HD
  have HBad := Lib.hid hbad
  have HGood := Lib.hid hgood
  obtain ⟨ao, ac, rfl⟩ := hv.shape
  obtain ⟨bo, bc, rfl⟩ := hu.shape
  obtain ⟨la, hla⟩ : ∃ la, la = a.length := ⟨_, rfl⟩
  obtain ⟨lb, hlb⟩ : ∃ lb, lb = b.length := ⟨_, rfl⟩
  rw [← hla] at HV ⊢
  rw [← hlb] at HU ⊢
  have B0 : Hid (Below w.heap.size w (w.alloc (.cells #[.func (.func gd) #[] #[]] 60)) ∧ (w.alloc (.cells #[.func (.func gd) #[] #[]] 60)).heap[w.heap.size]? = some (.cells #[.func (.func gd) #[] #[]] 60)) :=
    ⟨(Below.refl _ _).alloc (Nat.le_refl _) _, kb_new rfl⟩
  have CK1 : Hid (∀ W : World, Below w.heap.size w W → Calls Try.prog 20 #[.slice ao la ac] W fun e w' => e = .returned (.int .i64 (chkC a)) ∧ Below W.heap.size W w') := fun W hW => cCheck_any (HV.out.keeps hW)
  have CK2 : Hid (∀ W : World, Below w.heap.size w W → Calls Try.prog 20 #[.slice bo lb bc] W fun e w' => e = .returned (.int .i64 (chkC b)) ∧ Below W.heap.size W w') := fun W hW => cCheck_any (HU.out.keeps hW)
  have I0 := Lib.hid (idx_c0 (.slice ao la ac) (.slice bo lb bc))
  have I1 := Lib.hid (idx_c1 (.slice ao la ac) (.slice bo lb bc))
  obtain ⟨pa, hpa⟩ : ∃ p, mayC a = p := ⟨_, rfl⟩
  obtain ⟨pb, hpb⟩ : ∃ p, mayC b = p := ⟨_, rfl⟩
  have HPA := Lib.hid hpa
  have HPB := Lib.hid hpb
  unfold chkC at CK1 CK2
  rw [hpa] at CK1
  rw [hpb] at CK2
  clear hv hu hf HD hbad hgood hla hlb hpa hpb
  go_enter Try.func37, Try.ntmps37
  go_wp2
  go_loopw [16] (fun i wr => Hid (Below w.heap.size w wr ∧ wr.heap[w.heap.size]? = some (.cells #[.func (.func gd) #[] #[]] 60)) ∧ (i = .int .i64 0 ∨ (i = .int .i64 1 ∧ pa = true) ∨ (i = .int .i64 2 ∧ pa = true ∧ pb = true))) (fun i _ => 2 - (intOf i).toNat)
  case atStart => exact ⟨B0, .inl rfl⟩
  case round =>
    clear B0
    obtain ⟨wo, rfl⟩ : ∃ wo : World, wo = wr := ⟨_, rfl⟩
    obtain ⟨hP, hc⟩ := hrel
    rcases hc with rfl | ⟨rfl, rfl⟩ | ⟨rfl, rfl, rfl⟩
    · have i0 := I0.out
      have C := Lib.hid (CK1.out wo hP.out.1)
      cases pa
      · obtain ⟨rfl, rfl⟩ := HBad.out (fun h => by have := h.1; rw [HPA.out] at this; cases this)
        rw [if_neg (by simp)] at C
        go_wp2_with fail
        refine C.out.mono ?_
        rintro e w1 ⟨rfl, b1⟩
        have B1 := Lib.hid (bt hP.out.1 b1)
        clear b1
        go_wp2
        go_ret2
        exact ⟨_, rfl, OwnC.nil _ _, B1.out⟩
      · rw [if_pos rfl] at C
        go_wp2_with fail
        refine C.out.mono ?_
        rintro e w1 ⟨rfl, b1⟩
        have B1 : Hid (Below w.heap.size w w1 ∧ w1.heap[w.heap.size]? = some (.cells #[.func (.func gd) #[] #[]] 60)) := ⟨bt hP.out.1 b1, (b1.block _ (Array.getElem?_eq_some_iff.1 hP.out.2).1).trans hP.out.2⟩
        clear b1
        go_wp2
        go_roundw
        case rel => exact ⟨B1, .inr (.inl ⟨by go_num, trivial⟩)⟩
        case measure => simp [intOf]
    · have i1 := I1.out
      have C := Lib.hid (CK2.out wo hP.out.1)
      cases pb
      · obtain ⟨rfl, rfl⟩ := HBad.out (fun h => by have := h.2; rw [HPB.out] at this; cases this)
        rw [if_neg (by simp)] at C
        go_wp2_with fail
        refine C.out.mono ?_
        rintro e w1 ⟨rfl, b1⟩
        have B1 := Lib.hid (bt hP.out.1 b1)
        clear b1
        go_wp2
        go_ret2
        exact ⟨_, rfl, OwnC.nil _ _, B1.out⟩
      · rw [if_pos rfl] at C
        go_wp2_with fail
        refine C.out.mono ?_
        rintro e w1 ⟨rfl, b1⟩
        have B1 : Hid (Below w.heap.size w w1 ∧ w1.heap[w.heap.size]? = some (.cells #[.func (.func gd) #[] #[]] 60)) := ⟨bt hP.out.1 b1, (b1.block _ (Array.getElem?_eq_some_iff.1 hP.out.2).1).trans hP.out.2⟩
        clear b1
        go_wp2
        go_roundw
        case rel => exact ⟨B1, .inr (.inr ⟨by go_num, trivial, trivial⟩)⟩
        case measure => simp [intOf]
    · have hA := (mayC_iff a).1 HPA.out
      have hB := (mayC_iff b).1 HPB.out
      obtain ⟨rfl, rfl⟩ := HGood.out HPA.out HPB.out
      have hsz : w.heap.size ≤ wo.heap.size := hP.out.1.size
      have CA := Lib.hid (byRep_any (HV.out.keeps hP.out.1) hA)
      have CB : Hid (∀ W : World, Below w.heap.size w W → Calls Try.prog 65 #[.slice bo lb bc] W fun e w' => ∃ (m n : Nat) (M : Nat → Option Value), e = .returned (.map (some m)) ∧ W.heap.size ≤ m ∧ MapV w' m n M ∧ (∀ r : Nat, r < 256 → Sps W ((M r).getD (.slice none 0 0)) (spn b r)) ∧ Below W.heap.size W w') := fun W hW => byRep_any (HU.out.keeps hW) hB
      have SA := Lib.hid (fun r => spn_may hA r)
      have SB := Lib.hid (fun r => spn_may hB r)
      have e1 := enters_of Try.func66 (by kernel_rfl) rfl
      have E1 := Lib.hid e1
      clear HBad HGood CK1 CK2 hA hB
      go_wp2_with fail
      refine CA.out.mono ?_
      rintro e w1 ⟨m1, n1, M1, rfl, hm1, mv1, sp1, b1⟩
      have B1 := Lib.hid b1
      have X1 := Lib.hid mv1
      have S1 := Lib.hid sp1
      clear b1 mv1 sp1 CA
      go_wp2_with fail
      refine (CB.out _ (bt hP.out.1 B1.out)).mono ?_
      rintro e w2 ⟨m2, n2, M2, rfl, hm2, mv2, sp2, b2⟩
      have B2 := Lib.hid (bt B1.out b2)
      have X1' := Lib.hid (X1.out.keeps b2)
      have X2 := Lib.hid mv2
      have S2 := Lib.hid sp2
      have B21 := Lib.hid b2
      clear b2 mv2 sp2 CB X1
      obtain ⟨w5, hw5⟩ : ∃ w5 : World, w5 = (w2.alloc (.cells #[.map (some m1)] 86)).alloc (.cells #[.map (some m2)] 86) := ⟨_, rfl⟩
      have b25 : Below w2.heap.size w2 w5 := by rw [hw5]; exact ((Below.refl _ _).alloc (Nat.le_refl _) _).alloc (by simp) _
      have c5 : w5.heap.size = w2.heap.size + 1 + 1 ∧ w5.cell? ⟨w.heap.size, 0, none⟩ = some (.func (.func gd) #[] #[]) ∧ w5.cell? ⟨w2.heap.size, 0, none⟩ = some (.map (some m1)) ∧ w5.cell? ⟨w2.heap.size + 1, 0, none⟩ = some (.map (some m2)) := by
        refine ⟨by rw [hw5]; simp, ?_, ?_, ?_⟩
        · have hlt := (Array.getElem?_eq_some_iff.1 hP.out.2).1
          have hlt2 : w.heap.size < w2.heap.size := Nat.lt_of_lt_of_le hlt B2.out.size
          exact (b25.cell (p := ⟨w.heap.size, 0, none⟩) hlt2).trans ((B2.out.cell (p := ⟨w.heap.size, 0, none⟩) hlt).trans (one_blk hP.out.2).1)
        · rw [hw5]; exact (one_blk (kb_old (kb_new rfl))).1
        · rw [hw5]; exact (one_blk (kb_new (by simp))).1
      have XA := Lib.hid (X1'.out.keeps b25)
      have XB := Lib.hid (X2.out.keeps b25)
      have BW5 := Lib.hid (bt (bt hP.out.1 B2.out) b25)
      have SA5 : Hid (∀ r : Nat, r < 256 → Sps w5 ((M1 r).getD (.slice none 0 0)) (spn a r)) := fun r hr => (S1.out r hr).keeps (bt B2.out b25)
      have SB5 : Hid (∀ r : Nat, r < 256 → Sps w5 ((M2 r).getD (.slice none 0 0)) (spn b r)) := fun r hr => (S2.out r hr).keeps (bt B21.out b25)
      have C5 := Lib.hid c5
      have TC := Lib.hid (told_any (gf := 66) (lb := #[.pointer (some ⟨w.heap.size, 0, none⟩), .pointer (some ⟨w2.heap.size, 0, none⟩), .pointer (some ⟨w2.heap.size + 1, 0, none⟩)]) E1.out (B := w5.heap.size) (w := w5) (fun r => op (spn a r) (spn b r)) (fun _ W => Below w5.heap.size w5 W) (Below.refl _ _) (Nat.le_refl _)
        (fun k W W' h1 h2 h3 => h1.trans h3)
        (fun k W hk hW h => by
          have hlt := (Array.getElem?_eq_some_iff.1 hP.out.2).1
          have hlt2 : w.heap.size < w2.heap.size := Nat.lt_of_lt_of_le hlt B2.out.size
          obtain ⟨z1, z2, z3, z4⟩ := C5.out
          refine (doneOne_any (k := k) ed HDO.out (by omega) ((h.cell (p := ⟨w.heap.size, 0, none⟩) (by show w.heap.size < _; omega)).trans z2) ((h.cell (p := ⟨w2.heap.size, 0, none⟩) (by show w2.heap.size < _; omega)).trans z3) ((h.cell (p := ⟨w2.heap.size + 1, 0, none⟩) (by show w2.heap.size + 1 < _; omega)).trans z4) (XA.out.keeps h) (XB.out.keeps h) ((SA5.out k (by omega)).keeps h) ((SB5.out k (by omega)).keeps h) (SA.out k) (SB.out k) (HF.out k)).mono ?_
          rintro e w' ⟨v', he, ho, hb⟩
          exact ⟨v', he, ho, Apart.of hb hW, h.trans (hb.mono hW)⟩))
      clear b25 c5 SA5 SB5 XA XB S1 S2 B21 X1' X2 C5
      subst hw5
      go_wp2_with fail
      refine TC.out.mono ?_
      rintro e w6 ⟨v6, rfl, o6, b6⟩
      have O6 := Lib.hid (OwnC.base o6 BW5.out.size)
      have B6 := Lib.hid (bt BW5.out b6)
      obtain ⟨so, sc, rfl⟩ := o6.tms.shape
      clear o6 b6
      go_wp2
      go_ret2
      exact ⟨_, rfl, O6.out, B6.out⟩
end Go.Proofs.Ytinglfhndlklaaa.Clocks
