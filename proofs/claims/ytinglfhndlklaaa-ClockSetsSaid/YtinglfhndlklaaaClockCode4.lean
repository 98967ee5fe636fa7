/- octavo/clock: Join, Less, Add: what each answers. Conditions: the slices' cells are replicas' spans; no replica has more than 1024 spans in both together. -/
import Derived.Test.YtinglfhndlklaaaClockCode3
namespace Go.Proofs.Ytinglfhndlklaaa.Clocks
open Go.RowKit Go.Proofs.Ytinglfhndlklaaa.Spans
attribute [local go_sem ↓] Go.wp_at_zero Go.wp_at_succ

theorem does_join : Does 38 both := fun W x y a b ha hb fa fb hf => by
  have h := pJoin_any ha hb
  have e : joins a b = (both a b, 0) := by
    unfold joins told
    rw [if_pos ⟨fa, fb⟩, if_neg (by have := both_len b a; omega)]
  rw [e] at h
  exact h.mono fun e w' ⟨ao, cap, h1, h2, h3⟩ => ⟨_, h1, h2, h3⟩
theorem does_less : Does 39 left := fun W x y a b ha hb fa fb hf => by
  have h := pLess_any ha hb
  have e : lefts a b = (left a b, 0) := by
    unfold lefts told
    rw [if_pos ⟨fa, fb⟩, if_neg (by have := left_len (b := b) ((mayB_iff a).1 fa).1 ((mayB_iff b).1 fb).1.all; omega)]
  rw [e] at h
  exact h.mono fun e w' ⟨ao, cap, h1, h2, h3⟩ => ⟨_, h1, h2, h3⟩
theorem cJoin_any {v u : Value} {a b : List Tm} {w : World} (hv : Tms w v a) (hu : Tms w u b) (hf : Few a b) :
    Calls Try.prog 9 #[v, u] w (DoneC (joinsC a b).1 (joinsC a b).2 w) := by
  obtain ⟨L, c, hd⟩ : ∃ L c, joinsC a b = (L, c) := ⟨_, _, rfl⟩
  rw [hd]
  have C := Lib.hid (done_any (L := L) (c := c) (enters_of Try.func38 (by kernel_rfl) rfl) does_join hv hu hf
    (fun h => by unfold joinsC at hd; rw [if_neg h] at hd; exact ⟨(Prod.mk.inj hd).1.symm, (Prod.mk.inj hd).2.symm⟩)
    (fun h1 h2 => by unfold joinsC at hd; rw [if_pos ⟨h1, h2⟩] at hd; exact ⟨(Prod.mk.inj hd).1.symm, (Prod.mk.inj hd).2.symm⟩))
  simp only
  clear hv hu hd hf
  go_enter Try.func9, Try.ntmps9
  go_wp2_with fail
  refine C.out.mono ?_
  rintro e w1 ⟨v1, rfl, o1, b1⟩
  have O1 := Lib.hid o1
  obtain ⟨ao, cap, rfl⟩ := o1.tms.shape
  clear o1
  go_wp2
  go_ret2
  exact ⟨_, rfl, O1.out, b1⟩
theorem cLess_any {v u : Value} {a b : List Tm} {w : World} (hv : Tms w v a) (hu : Tms w u b) (hf : Few a b) :
    Calls Try.prog 11 #[v, u] w (DoneC (leftsC a b).1 (leftsC a b).2 w) := by
  obtain ⟨L, c, hd⟩ : ∃ L c, leftsC a b = (L, c) := ⟨_, _, rfl⟩
  rw [hd]
  have C := Lib.hid (done_any (L := L) (c := c) (enters_of Try.func39 (by kernel_rfl) rfl) does_less hv hu hf
    (fun h => by unfold leftsC at hd; rw [if_neg h] at hd; exact ⟨(Prod.mk.inj hd).1.symm, (Prod.mk.inj hd).2.symm⟩)
    (fun h1 h2 => by unfold leftsC at hd; rw [if_pos ⟨h1, h2⟩] at hd; exact ⟨(Prod.mk.inj hd).1.symm, (Prod.mk.inj hd).2.symm⟩))
  simp only
  clear hv hu hd hf
  go_enter Try.func11, Try.ntmps11
  go_wp2_with fail
  refine C.out.mono ?_
  rintro e w1 ⟨v1, rfl, o1, b1⟩
  have O1 := Lib.hid o1
  obtain ⟨ao, cap, rfl⟩ := o1.tms.shape
  clear o1
  go_wp2
  go_ret2
  exact ⟨_, rfl, O1.out, b1⟩

/-- The clock of a stamp, laid: its span, itself, and a copy of itself in a slice. -/
theorem tms_one (a : Id) (X : World) :
    Tms (((X.alloc (.cells #[.int .u32 (a.t : Int), .int .u32 (a.t : Int)] 63)).alloc (.cells #[.int .u8 (a.r : Int), .slice (some ⟨X.heap.size, 0, none⟩) 1 1] 28)).alloc (.cells #[.int .u8 (a.r : Int), .slice (some ⟨X.heap.size, 0, none⟩) 1 1] 28))
      (.slice (some ⟨X.heap.size + 1 + 1, 0, none⟩) 1 1) (one a) := by
  have ht := a.ht
  have hr := a.hr
  have s1 : Sps (X.alloc (.cells #[.int .u32 (a.t : Int), .int .u32 (a.t : Int)] 63)) (.slice (some ⟨X.heap.size, 0, none⟩) 1 1) [mk a.t a.t] := sees_sp (kb_new rfl) (by rw [mk_f ht]) (by rw [mk_t ht])
  have s2 := (s1.keeps ((Below.refl _ _).alloc (Nat.le_refl _) (.cells #[.int .u8 (a.r : Int), .slice (some ⟨X.heap.size, 0, none⟩) 1 1] 28)))
  have s3 := (s2.keeps ((Below.refl _ _).alloc (Nat.le_refl _) (.cells #[.int .u8 (a.r : Int), .slice (some ⟨X.heap.size, 0, none⟩) 1 1] 28)))
  have h := sees_new ((X.alloc (.cells #[.int .u32 (a.t : Int), .int .u32 (a.t : Int)] 63)).alloc (.cells #[.int .u8 (a.r : Int), .slice (some ⟨X.heap.size, 0, none⟩) 1 1] 28)) [.int .u8 (a.r : Int), .slice (some ⟨X.heap.size, 0, none⟩) 1 1] 2 1 rfl (by omega) 28 (0, 0)
  simp only [World.size_alloc] at h
  exact ⟨_, h, Hold.one (x := (a.r, [mk a.t a.t])) hr s3⟩

set_option maxHeartbeats 2000000 in
theorem cAdd_any {v : Value} {c : List Tm} (a : Id) {w : World} (hv : Tms w v c) (hf : Few c (one a)) :
    Calls Try.prog 13 #[v, .agg #[.int .u32 (a.t : Int), .int .u8 (a.r : Int)]] w (DoneC (addsC c a).1 (addsC c a).2 w) := by
  have HV := Lib.hid hv
  have BX := Lib.hid ((Below.refl w.heap.size w).alloc (Nat.le_refl _) (.cells #[.int .u32 (a.t : Int), .int .u8 (a.r : Int)] 34))
  have PX : Hid (((w.alloc (.cells #[.int .u32 (a.t : Int), .int .u8 (a.r : Int)] 34)).heap[w.heap.size]? = some (.cells #[.int .u32 (a.t : Int), .int .u8 (a.r : Int)] 34))) := heap_alloc_new w _
  obtain ⟨L, x, hd⟩ : ∃ L x, addsC c a = (L, x) := ⟨_, _, rfl⟩
  rw [hd]
  have M1 := Lib.hid (cCheck_any (hv.keeps BX.out))
  have MI : Hid (∀ W : World, Calls Try.prog 41 #[.agg #[.int .u32 (a.t : Int), .int .u8 (a.r : Int)]] W fun e w' => e = .returned (.int .i64 (chkI a)) ∧ Below W.heap.size W w') := fun W => stCheck_any a W
  obtain ⟨pa, hpa⟩ : ∃ p, mayC c = p := ⟨_, rfl⟩
  unfold chkC at M1
  rw [hpa] at M1
  unfold chkI at MI
  have box : ∀ W : World, Below (w.heap.size + 1) (w.alloc (.cells #[.int .u32 (a.t : Int), .int .u8 (a.r : Int)] 34)) W → W.cell? ⟨w.heap.size, 0, none⟩ = some (.int .u32 (a.t : Int)) ∧ W.cell? ⟨w.heap.size, 1, none⟩ = some (.int .u8 (a.r : Int)) := fun W hW => by
    have h := (hW.block w.heap.size (by omega)).trans PX.out
    exact ⟨cell_of_row _ w.heap.size 0 _ _ _ h, cell_of_row _ w.heap.size 1 _ _ _ h⟩
  have Box := Lib.hid box
  have hsz : (w.alloc (.cells #[.int .u32 (a.t : Int), .int .u8 (a.r : Int)] 34)).heap.size = w.heap.size + 1 := by simp
  simp only
  cases pa
  · obtain ⟨rfl, rfl⟩ : L = [] ∧ x = 8 := by
      unfold addsC at hd
      rw [if_neg (by rw [hpa]; simp)] at hd
      exact ⟨(Prod.mk.inj hd).1.symm, (Prod.mk.inj hd).2.symm⟩
    rw [if_neg (by simp)] at M1
    clear hv hf hd hpa box MI
    go_enter Try.func13, Try.ntmps13
    go_wp2_with fail
    refine M1.out.mono ?_
    rintro e w1 ⟨rfl, b1⟩
    have B1 := Lib.hid (bt BX.out b1)
    clear b1
    go_wp2
    go_ret2
    exact ⟨_, rfl, OwnC.nil _ _, B1.out⟩
  rw [if_pos rfl] at M1
  by_cases hmi : mayI a
  · obtain ⟨rfl, rfl⟩ : L = bothC c (one a) ∧ x = 0 := by
      unfold addsC at hd
      rw [if_pos ⟨hpa, hmi⟩] at hd
      exact ⟨(Prod.mk.inj hd).1.symm, (Prod.mk.inj hd).2.symm⟩
    rw [if_pos hmi] at MI
    have hj : joinsC c (one a) = (bothC c (one a), 0) := by
      unfold joinsC
      rw [if_pos ⟨hpa, (mayC_iff _).2 (one_ok hmi)⟩]
    have JO : Hid (∀ (W : World) (u : Value), Below w.heap.size w W → Tms W u (one a) → Calls Try.prog 9 #[v, u] W (DoneC (bothC c (one a)) 0 W)) := fun W u hW hu => by
      have h := cJoin_any (HV.out.keeps hW) hu hf
      rwa [hj] at h
    have TO := Lib.hid (tms_one a)
    obtain ⟨J, hJ⟩ : ∃ J, J = bothC c (one a) := ⟨_, rfl⟩
    obtain ⟨O, hO⟩ : ∃ O, O = one a := ⟨_, rfl⟩
    rw [← hJ] at JO ⊢
    rw [← hO] at JO TO
    clear hv hf hd hpa box hJ hmi hO hj
    go_enter Try.func13, Try.ntmps13
    go_wp2_with fail
    refine M1.out.mono ?_
    rintro e w1 ⟨rfl, b1⟩
    have B1 := Lib.hid (bt BX.out b1)
    rw [hsz] at b1
    have N1 := Lib.hid b1
    obtain ⟨c0, c1⟩ := Box.out _ b1
    have hs1 : w.heap.size + 1 ≤ w1.heap.size := by have := b1.size; rw [hsz] at this; exact this
    clear b1
    go_wp2_with fail
    refine (MI.out _).mono ?_
    rintro e w2 ⟨rfl, b2⟩
    have B2 := Lib.hid (bt B1.out b2)
    have hb2 := N1.out.trans (b2.mono hs1)
    clear c0 c1
    obtain ⟨c0, c1⟩ := Box.out _ hb2
    clear b2 hb2
    go_wp2_with fail
    have B3 := Lib.hid (bt B2.out ((((Below.refl w2.heap.size w2).alloc (Nat.le_refl _) (.cells #[.int .u32 (a.t : Int), .int .u32 (a.t : Int)] 63)).alloc (by simp) (.cells #[.int .u8 (a.r : Int), .slice (some ⟨w2.heap.size, 0, none⟩) 1 1] 28)).alloc (by simp; omega) (.cells #[.int .u8 (a.r : Int), .slice (some ⟨w2.heap.size, 0, none⟩) 1 1] 28)))
    refine (JO.out _ _ B3.out (TO.out w2)).mono ?_
    rintro e w4 ⟨v4, rfl, o4, b4⟩
    have O4 := Lib.hid (OwnC.base o4 B3.out.size)
    have B4 := Lib.hid (bt B3.out b4)
    obtain ⟨a4, c4, rfl⟩ := o4.tms.shape
    clear o4 b4 c0 c1
    go_wp2
    go_ret2
    exact ⟨_, rfl, O4.out, B4.out⟩
  · obtain ⟨rfl, rfl⟩ : L = [] ∧ x = 8 := by
      unfold addsC at hd
      rw [if_neg (fun h => hmi h.2)] at hd
      exact ⟨(Prod.mk.inj hd).1.symm, (Prod.mk.inj hd).2.symm⟩
    rw [if_neg hmi] at MI
    clear hv hf hd hpa box
    go_enter Try.func13, Try.ntmps13
    go_wp2_with fail
    refine M1.out.mono ?_
    rintro e w1 ⟨rfl, b1⟩
    have B1 := Lib.hid (bt BX.out b1)
    rw [hsz] at b1
    obtain ⟨c0, c1⟩ := Box.out _ b1
    clear b1
    go_wp2_with fail
    refine (MI.out _).mono ?_
    rintro e w2 ⟨rfl, b2⟩
    have B2 := Lib.hid (bt B1.out b2)
    clear b2
    go_wp2
    go_ret2
    exact ⟨_, rfl, OwnC.nil _ _, B2.out⟩
end Go.Proofs.Ytinglfhndlklaaa.Clocks
