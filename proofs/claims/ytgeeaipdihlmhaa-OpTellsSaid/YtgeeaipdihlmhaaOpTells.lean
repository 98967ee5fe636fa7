/- OpTells answers true, and changes nothing that was there. Conditions: none. -/
import Derived.Test.YtgeeaipdihlmhaaOpLaws
namespace Go.Proofs.Ytgeeaipdihlmhaa.Ops
open Go.RowKit Stamp Go.Proofs.Ytgeeaipdihlmhaa.Place
attribute [local go_sem ↓] Go.wp_at_zero Go.wp_at_succ

theorem sameB_self (a : Opn) : sameB a a = true := (sameB_iff a a).2 rfl

/-- Four blocks of five cells, as a region wants them. -/
structure Four (wl : World) (S : World → Prop) : Prop where
  gives : ∀ w', Below wl.heap.size wl w' → S w'
theorem four_call {wl w1 w2 : World} {S : World → Prop} (p : Four wl S) (b : Below w1.heap.size w1 w2) (hb : Below wl.heap.size wl w1) : S w2 := p.gives _ (bt hb b)

set_option maxRecDepth 100000 in
set_option maxHeartbeats 16000000 in
theorem tells_any {va vb : Value} {a b : Opn} {w : World} (ha : Runs w va a.pl) (hb : Runs w vb b.pl) : Calls Try.prog 4 #[opv a va, opv b vb] w fun e w' => e = .returned (.bool true) ∧ Below w.heap.size w w' := by
  obtain ⟨ao0, cap0, rfl⟩ := ha.shape
  obtain ⟨ao1, cap1, rfl⟩ := hb.shape
  obtain ⟨n0, hn0⟩ : ∃ n, n = a.pl.length := ⟨_, rfl⟩
  obtain ⟨n1, hn1⟩ : ∃ n, n = b.pl.length := ⟨_, rfl⟩
  have HA : Hid (Runs w (.slice ao0 n0 cap0) a.pl) := by rw [hn0]; exact ha
  have HB : Hid (Runs w (.slice ao1 n1 cap1) b.pl) := by rw [hn1]; exact hb
  rw [← hn0, ← hn1]
  -- contracts, at whatever worlds
  have RT : Hid (∀ (W : World) (v : Value), Runs W v a.pl → n0 ≤ 300 → Calls Try.prog 13 #[opv a v] W fun e w' => ∃ v', e = .returned (opv a v') ∧ w'.ownsRow W.heap.size 24 3 v' n0 (runs a.pl) ∧ Below W.heap.size W w') := fun W v h hl => by
    have := refTwin_any (o := a) h (by omega)
    rwa [← hn0] at this
  have OT : Hid (∀ (W : World) (v : Value), Runs W v a.pl → n0 ≤ 300 → Calls Try.prog 16 #[opv a v] W fun e w' => ∃ v', e = .returned (opv a v') ∧ w'.ownsRow W.heap.size 24 3 v' n0 (runs a.pl) ∧ Below W.heap.size W w') := fun W v h hl => by
    have := oTwin_any (o := a) h (by omega)
    rwa [← hn0] at this
  obtain ⟨L, hL⟩ : ∃ L, L = needsL a := ⟨_, rfl⟩
  obtain ⟨c, hc⟩ : ∃ c, c = chkO a := ⟨_, rfl⟩
  obtain ⟨q, hq⟩ : ∃ q, q = contB a := ⟨_, rfl⟩
  obtain ⟨s, hs⟩ : ∃ s, s = sameB a b := ⟨_, rfl⟩
  have ON : Hid (∀ (W : World) (v : Value), Runs W v a.pl → Calls Try.prog 14 #[opv a v] W (Told L c W)) := fun W v h => by rw [hL, hc]; exact oNeeds_any h
  have RN : Hid (∀ (W : World) (v : Value), Runs W v a.pl → Calls Try.prog 15 #[opv a v] W (Told L c W)) := fun W v h => by rw [hL, hc]; exact refNeeds_any h
  have OC : Hid (∀ (W : World) (v : Value), Runs W v a.pl → Calls Try.prog 18 #[opv a v] W fun e w' => e = .returned (.int .i64 c) ∧ Below W.heap.size W w') := fun W v h => by rw [hc]; exact oCheck_any h
  have RC : Hid (∀ (W : World) (v : Value), Runs W v a.pl → Calls Try.prog 19 #[opv a v] W fun e w' => e = .returned (.int .i64 c) ∧ Below W.heap.size W w') := fun W v h => by rw [hc]; exact refCheckO_any h
  have OQ : Hid (∀ (W : World) (v : Value), Calls Try.prog 12 #[opv a v] W fun e w' => e = .returned (.bool q) ∧ Below W.heap.size W w') := fun W v => by rw [hq]; exact oContent_any W
  have RQ : Hid (∀ (W : World) (v : Value), Calls Try.prog 20 #[opv a v] W fun e w' => e = .returned (.bool q) ∧ Below W.heap.size W w') := fun W v => by rw [hq]; exact refContent_any W
  have OS : Hid (∀ (W : World) (u v : Value), Runs W u a.pl → Runs W v b.pl → Calls Try.prog 21 #[opv a u, opv b v] W fun e w' => e = .returned (.bool s) ∧ Below W.heap.size W w') := fun W u v h h2 => by rw [hs]; exact oSame_any h h2
  have RS : Hid (∀ (W : World) (u v : Value), Runs W u a.pl → Runs W v b.pl → Calls Try.prog 22 #[opv a u, opv b v] W fun e w' => e = .returned (.bool s) ∧ Below W.heap.size W w') := fun W u v h h2 => by rw [hs]; exact refSame_any h h2
  have OE : Hid (∀ (W : World) (u v : Value), Runs W u a.pl → Runs W v a.pl → Calls Try.prog 21 #[opv a u, opv a v] W fun e w' => e = .returned (.bool true) ∧ Below W.heap.size W w') := fun W u v h h2 => by rw [← sameB_self a]; exact oSame_any h h2
  have RE : Hid (∀ (W : World) (u v : Value), Runs W u a.pl → Runs W v a.pl → Calls Try.prog 22 #[opv a u, opv a v] W fun e w' => e = .returned (.bool true) ∧ Below W.heap.size W w') := fun W u v h h2 => by rw [← sameB_self a]; exact refSame_any h h2
  obtain ⟨l, hl⟩ : ∃ l, l = a.pl := ⟨_, rfl⟩
  obtain ⟨m, hm⟩ : ∃ m, m = b.pl := ⟨_, rfl⟩
  have HN : Hid (n0 = l.length) := by rw [hl]; exact hn0
  rw [← hl] at HA RT OT ON RN OC RC OS RS OE RE
  rw [← hm] at HB OS RS
  clear ha hb hn0 hn1 hL hc hq hs hl hm
  obtain ⟨ak, at_, ar, al, ap, _, _, _, _⟩ := a
  obtain ⟨bk, bt_, br, bl, bp, _, _, _, _⟩ := b
  unfold opv at RT OT ON RN OC RC OQ RQ OS RS OE RE ⊢
  simp only at RT OT ON RN OC RC OQ RQ OS RS OE RE ⊢
  have B0 : Hid (Below w.heap.size w ((w.alloc (.cells #[.int .u8 (ak : Int), .int .u32 (at_ : Int), .int .u8 (ar : Int), .slice ao0 n0 cap0, .int .i64 ap] 30)).alloc (.cells #[.int .u8 (bk : Int), .int .u32 (bt_ : Int), .int .u8 (br : Int), .slice ao1 n1 cap1, .int .i64 bp] 30))) := ((Below.refl _ _).alloc (Nat.le_refl _) _).alloc (by simp) _
  have FA0 : Hid (Five ((w.alloc (.cells #[.int .u8 (ak : Int), .int .u32 (at_ : Int), .int .u8 (ar : Int), .slice ao0 n0 cap0, .int .i64 ap] 30)).alloc (.cells #[.int .u8 (bk : Int), .int .u32 (bt_ : Int), .int .u8 (br : Int), .slice ao1 n1 cap1, .int .i64 bp] 30)) w.heap.size (.int .u8 (ak : Int)) (.int .u32 (at_ : Int)) (.int .u8 (ar : Int)) (.slice ao0 n0 cap0) (.int .i64 ap)) := (five_new w _ _ _ _ _ 30).keeps ((Below.refl _ _).alloc (Nat.le_refl _) _)
  have FB0 : Hid (Five ((w.alloc (.cells #[.int .u8 (ak : Int), .int .u32 (at_ : Int), .int .u8 (ar : Int), .slice ao0 n0 cap0, .int .i64 ap] 30)).alloc (.cells #[.int .u8 (bk : Int), .int .u32 (bt_ : Int), .int .u8 (br : Int), .slice ao1 n1 cap1, .int .i64 bp] 30)) (w.heap.size + 1) (.int .u8 (bk : Int)) (.int .u32 (bt_ : Int)) (.int .u8 (br : Int)) (.slice ao1 n1 cap1) (.int .i64 bp)) := by
    have h := five_new (w.alloc (.cells #[.int .u8 (ak : Int), .int .u32 (at_ : Int), .int .u8 (ar : Int), .slice ao0 n0 cap0, .int .i64 ap] 30)) (.int .u8 (bk : Int)) (.int .u32 (bt_ : Int)) (.int .u8 (br : Int)) (.slice ao1 n1 cap1) (.int .i64 bp) 30
    rwa [show (w.alloc (.cells #[.int .u8 (ak : Int), .int .u32 (at_ : Int), .int .u8 (ar : Int), .slice ao0 n0 cap0, .int .i64 ap] 30)).heap.size = w.heap.size + 1 by simp] at h
  by_cases h0 : 300 < n0
  · have t1 : decide ((300 : Int) < (n0 : Int)) = true := decide_eq_true (by omega)
    have t2 : decide (300 < n0) = true := decide_eq_true h0
    go_enter Try.func4, Try.ntmps4
    go_wp2
    go_ret
    exact ⟨rfl, B0.out⟩
  have t1 : decide ((300 : Int) < (n0 : Int)) = false := decide_eq_false (by omega)
  have t2 : decide (300 < n0) = false := decide_eq_false h0
  by_cases h1 : 300 < n1
  · have t3 : decide ((300 : Int) < (n1 : Int)) = true := decide_eq_true (by omega)
    have t4 : decide (300 < n1) = true := decide_eq_true h1
    go_enter Try.func4, Try.ntmps4
    go_wp2
    go_ret
    exact ⟨rfl, B0.out⟩
  have t3 : decide ((300 : Int) < (n1 : Int)) = false := decide_eq_false (by omega)
  have t4 : decide (300 < n1) = false := decide_eq_false h1
  have h300 : n0 ≤ 300 := by omega
  go_enter Try.func4, Try.ntmps4
  go_wp2_with fail
  refine (RT.out _ _ (HA.out.keeps B0.out) h300).mono ?_
  rintro e w1 ⟨vo, rfl, o1, b1⟩
  obtain ⟨aoO, capO, rfl⟩ : ∃ ao cap, vo = .slice ao n0 cap := Sees.shape (Sees.own o1)
  have RO1 : Hid (Runs w1 (.slice aoO n0 capO) l) := Go.Proofs.Ytgeeaipdihlmhaa.Runs.own o1
  have FA1 := Lib.hid (FA0.out.keeps b1)
  have FB1 := Lib.hid (FB0.out.keeps b1)
  have B1 := Lib.hid (bt B0.out b1)
  clear o1 b1 FA0 FB0
  have bo := (Below.refl _ w1).alloc (Nat.le_refl _) (.cells #[.int .u8 (ak : Int), .int .u32 (at_ : Int), .int .u8 (ar : Int), .slice aoO n0 capO, .int .i64 ap] 30)
  have FO1 := Lib.hid (five_new w1 (.int .u8 (ak : Int)) (.int .u32 (at_ : Int)) (.int .u8 (ar : Int)) (.slice aoO n0 capO) (.int .i64 ap) 30)
  have RO1' := Lib.hid (RO1.out.keeps bo)
  have FA1' := Lib.hid (FA1.out.keeps bo)
  have FB1' := Lib.hid (FB1.out.keeps bo)
  have B1' := Lib.hid (bt B1.out bo)
  clear bo FA1 FB1 RO1
  go_wp2_with fail
  refine (ON.out _ _ RO1'.out).mono ?_
  rintro e w2 ⟨aoL, capL, rfl, i2, b2⟩
  have IL2 := Lib.hid i2
  have FA2 := Lib.hid (FA1'.out.keeps b2)
  have FB2 := Lib.hid (FB1'.out.keeps b2)
  have FO2 := Lib.hid (FO1.out.keeps b2)
  have RO2 := Lib.hid (RO1'.out.keeps b2)
  have B2 := Lib.hid (bt B1'.out b2)
  clear i2 b2 FA1' FB1' FO1 RO1'
  obtain ⟨-, c0, c1, c2, c3, c4⟩ := FA2.out
  go_wp2_with fail
  clear c0 c1 c2 c3 c4
  refine (RN.out _ _ (HA.out.keeps B2.out)).mono ?_
  rintro e w3 ⟨aoM, capM, rfl, i3, b3⟩
  have IM3 := Lib.hid i3
  have IL3 := Lib.hid (IL2.out.keeps b3)
  have FA3 := Lib.hid (FA2.out.keeps b3)
  have FB3 := Lib.hid (FB2.out.keeps b3)
  have FO3 := Lib.hid (FO2.out.keeps b3)
  have RO3 := Lib.hid (RO2.out.keeps b3)
  have B3 := Lib.hid (bt B2.out b3)
  clear i3 b3 FA2 FB2 FO2 RO2 IL2
  obtain ⟨-, c0, c1, c2, c3, c4⟩ := FO3.out
  go_wp2_with fail
  clear c0 c1 c2 c3 c4
  refine (OT.out _ _ RO3.out h300).mono ?_
  rintro e w4 ⟨vt, rfl, o4, b4⟩
  obtain ⟨aoT, capT, rfl⟩ : ∃ ao cap, vt = .slice ao n0 cap := Sees.shape (Sees.own o4)
  have O4 := Lib.hid o4
  have b4' := b4.alloc b4.size (.cells #[.int .u8 (ak : Int), .int .u32 (at_ : Int), .int .u8 (ar : Int), .slice aoT n0 capT, .int .i64 ap] 30)
  have BT := Lib.hid b4'
  have RT4 : Hid (Runs (w4.alloc (.cells #[.int .u8 (ak : Int), .int .u32 (at_ : Int), .int .u8 (ar : Int), .slice aoT n0 capT, .int .i64 ap] 30)) (.slice aoT n0 capT) l) := Runs.keeps (Go.Proofs.Ytgeeaipdihlmhaa.Runs.own o4) ((Below.refl _ _).alloc (Nat.le_refl _) _)
  have IM4 := Lib.hid (IM3.out.keeps b4')
  have IL4 := Lib.hid (IL3.out.keeps b4')
  have FA4 := Lib.hid (FA3.out.keeps b4')
  have FB4 := Lib.hid (FB3.out.keeps b4')
  have FO4 := Lib.hid (FO3.out.keeps b4')
  have FT4 := Lib.hid (five_new w4 (.int .u8 (ak : Int)) (.int .u32 (at_ : Int)) (.int .u8 (ar : Int)) (.slice aoT n0 capT) (.int .i64 ap) 30)
  have RO4 := Lib.hid (RO3.out.keeps b4')
  have B4 := Lib.hid (bt B3.out b4')
  clear o4 b4 b4' IM3 IL3 FB3
  go_wp2_with fail
  obtain ⟨wl, hwl⟩ : ∃ wl, wl = w4.alloc (.cells #[.int .u8 (ak : Int), .int .u32 (at_ : Int), .int .u8 (ar : Int), .slice aoT n0 capT, .int .i64 ap] 30) := ⟨_, rfl⟩
  obtain ⟨h0', hh0⟩ : ∃ h, h = w.heap.size := ⟨_, rfl⟩
  obtain ⟨h1', hh1⟩ : ∃ h, h = w.heap.size + 1 := ⟨_, rfl⟩
  obtain ⟨h5, hh5⟩ : ∃ h, h = w1.heap.size := ⟨_, rfl⟩
  obtain ⟨h10, hh10⟩ : ∃ h, h = w4.heap.size := ⟨_, rfl⟩
  have hgT : ∀ g, aoT = some ⟨g, 0, none⟩ → g < h10 := by
    intro g hg
    rw [hh10]
    have h := O4.out.2
    rcases h with ⟨h, _⟩ | ⟨g', c', cur, h, h2, h3, _⟩
    · rw [hg] at h; cases h
    · rw [hg] at h
      cases h
      exact (Array.getElem?_eq_some_iff.1 h3).1
  have HGT := Lib.hid hgT
  have OTL : Hid (wl.ownsRow w3.heap.size 24 3 (.slice aoT n0 capT) n0 (runs l)) := by rw [hwl]; exact own_stays O4.out ((Below.refl _ _).alloc (Nat.le_refl _) _)
  have KT : Hid (wl.heap[h10]? = some (.cells #[.int .u8 (ak : Int), .int .u32 (at_ : Int), .int .u8 (ar : Int), .slice aoT n0 capT, .int .i64 ap] 30)) := by rw [hwl, hh10]; exact blk_new rfl
  rw [← hwl] at BT RT4 IM4 IL4 FA4 FB4 FO4 FT4 RO4 B4 ⊢
  rw [← hh1] at FB4 ⊢
  rw [← hh0] at FA3 FA4 ⊢
  rw [← hh5] at FO3 FO4 ⊢
  rw [← hh10] at FT4 ⊢
  have RA4 : Hid (Runs wl (.slice ao0 n0 cap0) l) := HA.out.keeps B4.out
  have RB4 : Hid (Runs wl (.slice ao1 n1 cap1) m) := HB.out.keeps B4.out
  have RA3 : Hid (Runs w3 (.slice ao0 n0 cap0) l) := HA.out.keeps B3.out
  have C1 : Hid (∀ W : World, Below wl.heap.size wl W → Calls Try.prog 17 #[.slice aoL L.length capL, .slice aoM L.length capM] W fun e w' => e = .returned (.bool true) ∧ Below W.heap.size W w') := fun W h => sameIds_yes (IL4.out.keeps h) (IM4.out.keeps h)
  have C2 : Hid (∀ W : World, Below wl.heap.size wl W → Calls Try.prog 18 #[.agg #[.int .u8 (ak : Int), .int .u32 (at_ : Int), .int .u8 (ar : Int), .slice aoO n0 capO, .int .i64 ap]] W fun e w' => e = .returned (.int .i64 c) ∧ Below W.heap.size W w') := fun W h => OC.out _ _ (RO4.out.keeps h)
  have C3 : Hid (∀ W : World, Below wl.heap.size wl W → Calls Try.prog 19 #[.agg #[.int .u8 (ak : Int), .int .u32 (at_ : Int), .int .u8 (ar : Int), .slice ao0 n0 cap0, .int .i64 ap]] W fun e w' => e = .returned (.int .i64 c) ∧ Below W.heap.size W w') := fun W h => RC.out _ _ (RA4.out.keeps h)
  have C4 : Hid (∀ W : World, Below wl.heap.size wl W → Calls Try.prog 12 #[.agg #[.int .u8 (ak : Int), .int .u32 (at_ : Int), .int .u8 (ar : Int), .slice aoO n0 capO, .int .i64 ap]] W fun e w' => e = .returned (.bool q) ∧ Below W.heap.size W w') := fun W h => OQ.out _ _
  have C5 : Hid (∀ W : World, Below wl.heap.size wl W → Calls Try.prog 20 #[.agg #[.int .u8 (ak : Int), .int .u32 (at_ : Int), .int .u8 (ar : Int), .slice ao0 n0 cap0, .int .i64 ap]] W fun e w' => e = .returned (.bool q) ∧ Below W.heap.size W w') := fun W h => RQ.out _ _
  have C6 : Hid (∀ W : World, Below wl.heap.size wl W → Calls Try.prog 21 #[.agg #[.int .u8 (ak : Int), .int .u32 (at_ : Int), .int .u8 (ar : Int), .slice aoO n0 capO, .int .i64 ap], .agg #[.int .u8 (bk : Int), .int .u32 (bt_ : Int), .int .u8 (br : Int), .slice ao1 n1 cap1, .int .i64 bp]] W fun e w' => e = .returned (.bool s) ∧ Below W.heap.size W w') := fun W h => OS.out _ _ _ (RO4.out.keeps h) (RB4.out.keeps h)
  have C7 : Hid (∀ W : World, Below wl.heap.size wl W → Calls Try.prog 22 #[.agg #[.int .u8 (ak : Int), .int .u32 (at_ : Int), .int .u8 (ar : Int), .slice ao0 n0 cap0, .int .i64 ap], .agg #[.int .u8 (bk : Int), .int .u32 (bt_ : Int), .int .u8 (br : Int), .slice ao1 n1 cap1, .int .i64 bp]] W fun e w' => e = .returned (.bool s) ∧ Below W.heap.size W w') := fun W h => RS.out _ _ _ (RA4.out.keeps h) (RB4.out.keeps h)
  have C8 : Hid (∀ W : World, Below wl.heap.size wl W → Calls Try.prog 21 #[.agg #[.int .u8 (ak : Int), .int .u32 (at_ : Int), .int .u8 (ar : Int), .slice aoO n0 capO, .int .i64 ap], .agg #[.int .u8 (ak : Int), .int .u32 (at_ : Int), .int .u8 (ar : Int), .slice ao0 n0 cap0, .int .i64 ap]] W fun e w' => e = .returned (.bool true) ∧ Below W.heap.size W w') := fun W h => OE.out _ _ _ (RO4.out.keeps h) (RA4.out.keeps h)
  have C9 : Hid (∀ W : World, Below wl.heap.size wl W → Calls Try.prog 22 #[.agg #[.int .u8 (ak : Int), .int .u32 (at_ : Int), .int .u8 (ar : Int), .slice aoT n0 capT, .int .i64 ap], .agg #[.int .u8 (ak : Int), .int .u32 (at_ : Int), .int .u8 (ar : Int), .slice ao0 n0 cap0, .int .i64 ap]] W fun e w' => e = .returned (.bool true) ∧ Below W.heap.size W w') := fun W h => RE.out _ _ _ (RT4.out.keeps h) (RA4.out.keeps h)
  have CZ : Hid (∀ W : World, Below w3.heap.size w3 W → Calls Try.prog 22 #[.agg #[.int .u8 (ak : Int), .int .u32 (at_ : Int), .int .u8 (ar : Int), .slice aoO n0 capO, .int .i64 ap], .agg #[.int .u8 (ak : Int), .int .u32 (at_ : Int), .int .u8 (ar : Int), .slice ao0 n0 cap0, .int .i64 ap]] W fun e w' => e = .returned (.bool true) ∧ Below W.heap.size W w') := fun W h => RE.out _ _ _ (RO3.out.keeps h) (RA3.out.keeps h)
  have FOUR : Four wl (fun w' => Below wl.heap.size wl w' ∧ w'.cell? ⟨h0', 0, none⟩ = some (.int .u8 (ak : Int)) ∧ w'.cell? ⟨h0', 1, none⟩ = some (.int .u32 (at_ : Int)) ∧ w'.cell? ⟨h0', 2, none⟩ = some (.int .u8 (ar : Int)) ∧ w'.cell? ⟨h0', 3, none⟩ = some (.slice ao0 n0 cap0) ∧ w'.cell? ⟨h0', 4, none⟩ = some (.int .i64 ap) ∧ w'.cell? ⟨h1', 0, none⟩ = some (.int .u8 (bk : Int)) ∧ w'.cell? ⟨h1', 1, none⟩ = some (.int .u32 (bt_ : Int)) ∧ w'.cell? ⟨h1', 2, none⟩ = some (.int .u8 (br : Int)) ∧ w'.cell? ⟨h1', 3, none⟩ = some (.slice ao1 n1 cap1) ∧ w'.cell? ⟨h1', 4, none⟩ = some (.int .i64 bp) ∧ w'.cell? ⟨h5, 0, none⟩ = some (.int .u8 (ak : Int)) ∧ w'.cell? ⟨h5, 1, none⟩ = some (.int .u32 (at_ : Int)) ∧ w'.cell? ⟨h5, 2, none⟩ = some (.int .u8 (ar : Int)) ∧ w'.cell? ⟨h5, 3, none⟩ = some (.slice aoO n0 capO) ∧ w'.cell? ⟨h5, 4, none⟩ = some (.int .i64 ap) ∧ w'.cell? ⟨h10, 0, none⟩ = some (.int .u8 (ak : Int)) ∧ w'.cell? ⟨h10, 1, none⟩ = some (.int .u32 (at_ : Int)) ∧ w'.cell? ⟨h10, 2, none⟩ = some (.int .u8 (ar : Int)) ∧ w'.cell? ⟨h10, 3, none⟩ = some (.slice aoT n0 capT) ∧ w'.cell? ⟨h10, 4, none⟩ = some (.int .i64 ap)) := ⟨fun w' h => ⟨h, (FA4.out.keeps h).2.1, (FA4.out.keeps h).2.2.1, (FA4.out.keeps h).2.2.2.1, (FA4.out.keeps h).2.2.2.2.1, (FA4.out.keeps h).2.2.2.2.2, (FB4.out.keeps h).2.1, (FB4.out.keeps h).2.2.1, (FB4.out.keeps h).2.2.2.1, (FB4.out.keeps h).2.2.2.2.1, (FB4.out.keeps h).2.2.2.2.2, (FO4.out.keeps h).2.1, (FO4.out.keeps h).2.2.1, (FO4.out.keeps h).2.2.2.1, (FO4.out.keeps h).2.2.2.2.1, (FO4.out.keeps h).2.2.2.2.2, (FT4.out.keeps h).2.1, (FT4.out.keeps h).2.2.1, (FT4.out.keeps h).2.2.2.1, (FT4.out.keeps h).2.2.2.2.1, (FT4.out.keeps h).2.2.2.2.2⟩⟩
  have HF := Lib.hid FOUR
  clear FOUR hwl hh0 hh1 hh5 hh10 hgT RT OT ON RN OC RC OQ RQ OS RS OE RE FA4 FB4 FO4 FT4 RA4 RB4 RO4 RT4 IM4 IL4 RA3 O4
  obtain ⟨wl', hwl'⟩ : ∃ x, x = wl := ⟨_, rfl⟩
  clear hwl' wl'
  go_region_held3 (fun w' => Below wl.heap.size wl w' ∧ w'.cell? ⟨h0', 0, none⟩ = some (.int .u8 (ak : Int)) ∧ w'.cell? ⟨h0', 1, none⟩ = some (.int .u32 (at_ : Int)) ∧ w'.cell? ⟨h0', 2, none⟩ = some (.int .u8 (ar : Int)) ∧ w'.cell? ⟨h0', 3, none⟩ = some (.slice ao0 n0 cap0) ∧ w'.cell? ⟨h0', 4, none⟩ = some (.int .i64 ap) ∧ w'.cell? ⟨h1', 0, none⟩ = some (.int .u8 (bk : Int)) ∧ w'.cell? ⟨h1', 1, none⟩ = some (.int .u32 (bt_ : Int)) ∧ w'.cell? ⟨h1', 2, none⟩ = some (.int .u8 (br : Int)) ∧ w'.cell? ⟨h1', 3, none⟩ = some (.slice ao1 n1 cap1) ∧ w'.cell? ⟨h1', 4, none⟩ = some (.int .i64 bp) ∧ w'.cell? ⟨h5, 0, none⟩ = some (.int .u8 (ak : Int)) ∧ w'.cell? ⟨h5, 1, none⟩ = some (.int .u32 (at_ : Int)) ∧ w'.cell? ⟨h5, 2, none⟩ = some (.int .u8 (ar : Int)) ∧ w'.cell? ⟨h5, 3, none⟩ = some (.slice aoO n0 capO) ∧ w'.cell? ⟨h5, 4, none⟩ = some (.int .i64 ap) ∧ w'.cell? ⟨h10, 0, none⟩ = some (.int .u8 (ak : Int)) ∧ w'.cell? ⟨h10, 1, none⟩ = some (.int .u32 (at_ : Int)) ∧ w'.cell? ⟨h10, 2, none⟩ = some (.int .u8 (ar : Int)) ∧ w'.cell? ⟨h10, 3, none⟩ = some (.slice aoT n0 capT) ∧ w'.cell? ⟨h10, 4, none⟩ = some (.int .i64 ap))
    (first | exact four_call HF.out (drew1 _) (Below.refl _ _) | (go_split_ands; exact four_call HF.out (drew1 _) (by assumption)) | (go_split_ands; exact four_call HF.out (by assumption) (by assumption)))
    ((first | (go_at_call 17; go_split_ands; (with_reducible refine (C1.out _ (by assumption)).mono ?_); rintro e w9 ⟨rfl, b9⟩)
            | (go_at_call 19; go_split_ands; (with_reducible refine (C3.out _ (by assumption)).mono ?_); rintro e w9 ⟨rfl, b9⟩)
            | (go_at_call 18; go_split_ands; (with_reducible refine (C2.out _ (by assumption)).mono ?_); rintro e w9 ⟨rfl, b9⟩)
            | (go_at_call 12; go_split_ands; (with_reducible refine (C4.out _ (by assumption)).mono ?_); rintro e w9 ⟨rfl, b9⟩)
            | (go_at_call 20; go_split_ands; (with_reducible refine (C5.out _ (by assumption)).mono ?_); rintro e w9 ⟨rfl, b9⟩)
            | (go_at_call 21; go_split_ands; (first | ((with_reducible refine (C6.out _ (by assumption)).mono ?_); rintro e w9 ⟨rfl, b9⟩) | ((with_reducible refine (C8.out _ (by assumption)).mono ?_); rintro e w9 ⟨rfl, b9⟩)))
            | (go_at_call 22; go_split_ands; (first | ((with_reducible refine (C7.out _ (by assumption)).mono ?_); rintro e w9 ⟨rfl, b9⟩) | ((with_reducible refine (C9.out _ (by assumption)).mono ?_); rintro e w9 ⟨rfl, b9⟩)))))
  go_wp2
  go_split_ands
  have hbl : Below wl.heap.size wl w9 := by assumption
  have BL := Lib.hid (bt BT.out hbl)
  have OTN : Hid (∃ cs, w9.ownsRow w3.heap.size 24 3 (.slice aoT n0 capT) n0 cs) := ⟨_, own_stays OTL.out hbl⟩
  have KTN : Hid (w9.heap[h10]? = some (.cells #[.int .u8 (ak : Int), .int .u32 (at_ : Int), .int .u8 (ar : Int), .slice aoT n0 capT, .int .i64 ap] 30)) := blk_below hbl KT.out
  generalize w9 = wz at BL OTN KTN ⊢
  go_loopw [12] (fun i wr => ∃ k : Nat, k ≤ n0 ∧ i = .int .i64 (k : Int) ∧ Hid (∃ cs, wr.ownsRow w3.heap.size 24 3 (.slice aoT n0 capT) n0 cs) ∧ Hid (Below w3.heap.size w3 wr) ∧ Hid (wr.heap[h10]? = some (.cells #[.int .u8 (ak : Int), .int .u32 (at_ : Int), .int .u8 (ar : Int), .slice aoT n0 capT, .int .i64 ap] 30))) (fun i _ => n0 - (intOf i).toNat)
  case atStart => exact ⟨0, by omega, rfl, OTN, BL, KTN⟩
  case round =>
    obtain ⟨k, hk, rfl, ⟨cs, ow⟩, hbel, hkt⟩ := hrel
    obtain ⟨c0, c1, c2, c3, c4⟩ := cells5 hkt.out
    by_cases hkn : k < n0
    · have q1 : decide (k < n0) = true := by simpa using hkn
      obtain ⟨g, rfl⟩ : ∃ g, aoT = some ⟨g, 0, none⟩ := by
        rcases ow.2 with ⟨h, _⟩ | ⟨g, c, cur, h, _⟩
        · cases h; omega
        · cases h; exact ⟨g, rfl⟩
      have hg : w3.heap.size ≤ g := by
        rcases ow.2 with ⟨h, _⟩ | ⟨g', c, cur, h, h2, _⟩
        · cases h
        · cases h; exact h2
      have hgt := HGT.out g rfl
      have hcs : k * 3 + 2 < cs.length := by have := ow.1; omega
      obtain ⟨u, hu⟩ : ∃ u, cs[k * 3 + 2]? = some u := ⟨_, List.getElem?_eq_getElem hcs⟩
      have xm : wr.cell? ⟨g, k * 3 + 2, none⟩ = some u := by rw [ow.cellAt (k * 3 + 2) (by omega), hu]
      have xf : wr.frozen? ⟨g, k * 3 + 2, none⟩ = false := ow.frozenAt _
      have OW2 : Hid (∃ cs, (wr.setCell ⟨g, k * 3 + 2, none⟩ (.int .i64 (-7))).ownsRow w3.heap.size 24 3 (.slice (some ⟨g, 0, none⟩) n0 capT) n0 cs) := ⟨_, (ow.stored (k * 3 + 2) (.int .i64 (-7))).1⟩
      have BW2 : Hid (Below w3.heap.size w3 (wr.setCell ⟨g, k * 3 + 2, none⟩ (.int .i64 (-7)))) := hbel.out.setCell (p := ⟨g, k * 3 + 2, none⟩) hg _
      have KW2 : Hid ((wr.setCell ⟨g, k * 3 + 2, none⟩ (.int .i64 (-7))).heap[h10]? = some (.cells #[.int .u8 (ak : Int), .int .u32 (at_ : Int), .int .u8 (ar : Int), .slice (some ⟨g, 0, none⟩) n0 capT, .int .i64 ap] 30)) := by
        show _ = _
        rw [heap_setCell_other _ _ _ _ (by simp; omega)]
        exact hkt.out
      have w0 : (0 : Int) ≤ (k : Int) := by omega
      have w1' : (k : Int) < (n0 : Int) := by omega
      clear hu hcs ow
      go_wp2
      go_roundw
      case rel => exact ⟨k + 1, by omega, by go_num, OW2, BW2, KW2⟩
      case measure => simp [intOf]; omega
    · have q1 : decide (k < n0) = false := by simpa using hkn
      clear ow
      obtain ⟨-, e0, e1, e2, e3, e4⟩ := FO3.out.keeps hbel.out
      obtain ⟨-, d0, d1, d2, d3, d4⟩ := FA3.out.keeps hbel.out
      go_wp2_with fail
      refine (CZ.out _ hbel.out).mono ?_
      rintro e w14 ⟨rfl, b14⟩
      have B14 := Lib.hid (bt hbel.out b14)
      clear b14 c0 c1 c2 c3 c4 d0 d1 d2 d3 d4 e0 e1 e2 e3 e4
      go_wp2
      go_ret
      exact ⟨rfl, bt B3.out B14.out⟩
end Go.Proofs.Ytgeeaipdihlmhaa.Ops
