/- octavoref08.Twin, octavo/clock.Twin: what each answers. Conditions: at most a thousand replicas, of at most a million spans each. -/
import Derived.Test.YtinglfhndlklaaaClockLaws
import Derived.Test.YtinglfhndlklaaaSpanFn
import Derived.Deep.RegionHeld3
import Derived.Deep.DrawnRows
namespace Go.Proofs.Ytinglfhndlklaaa.Clocks
open Go.RowKit Go.Proofs.Ytinglfhndlklaaa.Spans
attribute [local go_sem ↓] Go.wp_at_zero Go.wp_at_succ

theorem alloc_b {wl W : World} (h : Below wl.heap.size wl W) (o : Obj) : Below wl.heap.size wl (W.alloc o) := h.alloc h.size o
theorem sees_blk2 {X : World} {g : Nat} {a b : Value} {e : TypeId} (h : X.heap[g]? = some (.cells #[a, b] e)) : Sees X (.slice (some ⟨g, 0, none⟩) 1 1) 2 1 [a, b] := by
  refine ⟨rfl, _, _, rfl, Nat.le_refl _, by decide, by simp, .inr ⟨g, 0, rfl, (Array.getElem?_eq_some_iff.1 h).1, fun j u hj => ?_⟩⟩
  rw [cell_of_row X g (0 + j) _ e _ h, Nat.zero_add]
  simpa using hj
theorem kb_drewC {X : World} {g : Nat} {o : Obj} (h : X.heap[g]? = some o) : X.drew.heap[g]? = some o := h
theorem hold1C {α β : Prop} (f : α → β) (h : α) : β := f h
/-- A replica more behind a clock of the call's own. -/
theorem twin_step {wr wl w9 W8 w5 : World} {B n m r : Nat} {v v5 s : Value} {cs : List Value} {c c' : List Tm} {l : List Sp} (hown : wr.ownsRow B 28 2 v n cs) (hh : HoldO wr B cs c) (hwl : Below wr.heap.size wr wl) (hl : Below wl.heap.size wl W8)
    (o9 : w9.ownsRow B 63 2 s l.length (sps l)) (h9 : Below w9.heap.size w9 W8) (g5 : W8.grownBy w5 v.ownBlock) (o5 : w5.ownsRow B 28 2 v5 m (cs ++ [.int .u8 (r : Int), s])) (hr : r < 256) (hc : c' = c ++ [(r, l)]) (hm : m = c'.length) : OwnC w5 B v5 c' := by
  subst hm
  have hb := bt hwl hl
  have hx := own_stays hown hb
  subst hc
  exact ⟨_, o5, HoldO.append (hold_grown (hh.keeps hb) g5 (times_row hx)) ⟨rfl, hr, own_kept_span (own_stays o9 h9) hx g5, trivial⟩⟩

theorem keepV {w W : World} {b o1 o2 : Nat} {c1 c2 : Value} (q : b < w.heap.size ∧ w.cell? ⟨b, o1, none⟩ = some c1 ∧ w.cell? ⟨b, o2, none⟩ = some c2) (h : Below w.heap.size w W) :
    Below w.heap.size w W ∧ W.cell? ⟨b, o1, none⟩ = some c1 ∧ W.cell? ⟨b, o2, none⟩ = some c2 :=
  ⟨h, (h.cell (p := ⟨b, o1, none⟩) q.1).trans q.2.1, (h.cell (p := ⟨b, o2, none⟩) q.1).trans q.2.2⟩
theorem keepVl {w wl W : World} {b o1 o2 : Nat} {c1 c2 : Value} (q : b < w.heap.size ∧ w.cell? ⟨b, o1, none⟩ = some c1 ∧ w.cell? ⟨b, o2, none⟩ = some c2) (hw : Below w.heap.size w wl) (h : Below wl.heap.size wl W) :
    Below w.heap.size w W ∧ W.cell? ⟨b, o1, none⟩ = some c1 ∧ W.cell? ⟨b, o2, none⟩ = some c2 := keepV q (bt hw h)

set_option maxRecDepth 100000 in
set_option maxHeartbeats 8000000 in
theorem refTwinC_any {v : Value} {c : List Tm} {w : World} (hv : Tms w v c) (hl : ∀ x ∈ c, x.2.length ≤ 1000000) (hn : c.length ≤ 1000) :
    Calls Try.prog 22 #[v] w fun e w' => ∃ v', e = .returned v' ∧ OwnC w' w.heap.size v' c ∧ Below w.heap.size w w' := by
  obtain ⟨ao, cap, rfl⟩ := hv.shape
  obtain ⟨n, hn'⟩ : ∃ n, n = c.length := ⟨_, rfl⟩
  have HV := Lib.hid hv
  have HN := Lib.hid hn'
  have HL := Lib.hid hl
  rw [← hn'] at hn ⊢
  clear hv hn' hl
  have O0 : Hid (OwnC w w.heap.size (.slice none 0 0) (c.take 0)) := OwnC.nil _ _
  have B0 := Lib.hid (Below.refl w.heap.size w)
  go_enter Try.func22, Try.ntmps22
  go_wp2
  go_loopw [3, 4] (fun o i wr => ∃ k : Nat, k ≤ n ∧ i = .int .i64 (k : Int) ∧ Hid (OwnC wr w.heap.size o (c.take k)) ∧ Hid (Below w.heap.size w wr)) (fun _ i _ => n - (intOf i).toNat)
  case atStart => exact ⟨0, by omega, rfl, O0, B0⟩
  case round =>
    clear O0 B0
    obtain ⟨k, hk, rfl, hown, hbel⟩ := hrel
    by_cases hkn : k < n
    · have q1 : decide (k < n) = true := by simpa using hkn
      have q2 : (0 : Int) ≤ (k : Int) := by omega
      have q3 : (k : Int) < (n : Int) := by omega
      have hkl : k < c.length := by rw [← HN.out]; exact hkn
      obtain ⟨b1, o1, u, rfl, hb1, ha0, ha1, hr256, hsp⟩ := HV.out.at k hkl
      have hs := tm_take_snoc c k hkl
      have hlx := HL.out _ (tm_mem hkl)
      obtain ⟨x, hx⟩ : ∃ x, x = c.getD k ztm := ⟨_, rfl⟩
      have hx' : c.getD k (0, []) = x := hx.symm
      rw [hx'] at ha0 hr256 hsp
      rw [← hx] at hs hlx
      obtain ⟨xr, xs⟩ := x
      simp only at ha0 ha1 hr256 hsp hlx
      obtain ⟨so, sc, rfl⟩ := hsp.shape
      obtain ⟨sl, hsl⟩ : ∃ sl, sl = xs.length := ⟨_, rfl⟩
      have HSL := Lib.hid hsl
      rw [← hsl] at ha1 hsp
      have HS := Lib.hid hs
      have XQ := Lib.hid (And.intro hb1 (And.intro ha0 ha1))
      obtain ⟨wo, rfl⟩ : ∃ wo : World, wo = wr := ⟨_, rfl⟩
      have BW := Lib.hid hbel.out
      have CT : Hid (∀ W : World, Below wo.heap.size wo W → Calls Try.prog 47 #[.slice so sl sc] W fun e w' => ∃ ao cap, e = .returned (.slice ao sl cap) ∧ w'.ownsRow w.heap.size 63 2 (.slice ao sl cap) xs.length (sps xs) ∧ Below wo.heap.size wo w') := fun W hW => by
        refine (twin_any (hsp.keeps (bt BW.out hW)) hlx).mono ?_
        rintro e w' ⟨v', rfl, ho, hb⟩
        obtain ⟨ao, cap, rfl⟩ := Sees.shape (Sees.own ho)
        rw [← hsl] at ho ⊢
        exact ⟨ao, cap, rfl, own_base ho (bt BW.out hW).size, bt hW hb⟩
      obtain ⟨cs, hv1, hv2⟩ := hown.out
      have hlen : (c.take k).length = k := by rw [List.length_take]; omega
      rw [hlen] at hv1
      have HV1 := Lib.hid hv1
      have HV2 := Lib.hid hv2
      have hlen2 : (c.take (k + 1)).length = k + 1 := by rw [List.length_take]; omega
      have HL2 := Lib.hid hlen2
      have rf := Below.refl wo.heap.size wo
      clear hx hx' hs hsp hsl hown hbel hv1 hv2 hlen hlen2 ha0 ha1 hb1 hlx
      go_wp2_with fail
      go_region_held3 (fun w' => Below w.heap.size w w' ∧ w'.cell? ⟨b1, o1 + k * 2, none⟩ = some (.int .u8 (xr : Int)) ∧ w'.cell? ⟨b1, o1 + k * 2 + 1, none⟩ = some (.slice so sl sc))
        (first | (go_split_ands; refine keepV XQ.out ?_; assumption) | (go_split_ands; refine keepVl XQ.out BW.out ?_; (try (with_reducible refine Below.drew ?_)); (try (with_reducible refine below_draw ?_ _)); (try (with_reducible refine alloc_b ?_ _)); (try (with_reducible refine Below.drew ?_)); (try (with_reducible refine below_draw ?_ _)); (try (with_reducible refine alloc_b ?_ _)); assumption) | fail)
        ((first
          | (go_at_call 47; (with_reducible refine (CT.out _ ?hw).mono ?_)
             case hw => repeat' (first | assumption | (with_reducible refine Below.drew ?_) | (with_reducible refine below_draw ?_ _) | (with_reducible refine alloc_b ?_ _) | fail)
             rintro e w9 ⟨a9, c9, rfl, o9, b9⟩)
          | (refine step_append_sees rfl (.tmp 11) (.tmp 24) 22 28 rfl Try.underlying22 times_info rfl (by decide) w.heap.size _ k cs ?e1 (own_stays HV1.out ?hb1) (.slice (some ⟨w9.heap.size, 0, none⟩) 1 1) 1 [.int .u8 (xr : Int), .slice a9 sl c9] ?e2 (sees_blk2 (e := 28) ?hbk) ?hone (by omega) (by omega) ?hb3 ?_
             case e1 => rfl
             case e2 => rfl
             case hbk => repeat' (first | assumption | ((with_reducible refine kb_new ?_); (first | rfl | (simp; done))) | (with_reducible refine kb_drewC ?_) | (with_reducible refine kb_old ?_))
             case hb1 => repeat' (first | assumption | (with_reducible refine Below.drew ?_) | (with_reducible refine below_draw ?_ _) | (with_reducible refine alloc_b ?_ _) | fail)
             case hone => (intro z hz; simp at hz; rcases hz with rfl | rfl <;> rfl)
             case hb3 => (refine Below.size (bt BW.out (?_ : Below wo.heap.size wo _)); repeat' (first | assumption | (with_reducible refine Below.drew ?_) | (with_reducible refine below_draw ?_ _) | (with_reducible refine alloc_b ?_ _) | fail))
             intro v5 w5 o5 g5 b5
             refine hold1C (fun (hb5 : Below w.heap.size w w5) => ?_) ((bt BW.out ?hc).trans b5)
             case hc => repeat' (first | assumption | (with_reducible refine Below.drew ?_) | (with_reducible refine below_draw ?_ _) | (with_reducible refine alloc_b ?_ _) | fail)
             refine hold1C (fun (ow5 : OwnC w5 w.heap.size v5 (c.take (k + 1))) => ?_) (twin_step HV1.out HV2.out rf ?hc (by assumption) ?hc9 g5 o5 hr256 HS.out HL2.out.symm)
             case hc => repeat' (first | assumption | (with_reducible refine Below.drew ?_) | (with_reducible refine below_draw ?_ _) | (with_reducible refine alloc_b ?_ _) | fail)
             case hc9 => repeat' (first | exact Below.refl _ _ | (with_reducible refine Below.drew ?_) | (with_reducible refine below_draw ?_ _) | (with_reducible refine alloc_b ?_ _) | fail)
             have O5 := Lib.hid ow5
             clear o5 g5 b5 ow5)))
      go_wp2_with fail
      go_split_ands
      go_roundw
      case rel => exact ⟨k + 1, by omega, by go_num, O5, Lib.hid (by assumption)⟩
      case measure => simp [intOf]; omega
    · have q1 : decide (k < n) = false := by simpa using hkn
      have hkk : c.take k = c := List.take_of_length_le (by have := HN.out; omega)
      rw [hkk] at hown
      clear hkk
      go_wp2
      go_ret
      exact ⟨_, rfl, hown.out, hbel.out⟩

theorem keepB {w wl W : World} {b o1 o2 : Nat} {c1 c2 : Value} (q : b < wl.heap.size ∧ wl.cell? ⟨b, o1, none⟩ = some c1 ∧ wl.cell? ⟨b, o2, none⟩ = some c2) (hw : Below w.heap.size w wl) (h : Below wl.heap.size wl W) :
    Below w.heap.size w W ∧ W.cell? ⟨b, o1, none⟩ = some c1 ∧ W.cell? ⟨b, o2, none⟩ = some c2 := ⟨bt hw h, (keepV q h).2⟩
theorem keepG {wl W w5 : World} {b o1 o2 : Nat} {c1 c2 v : Value} (q : b < wl.heap.size ∧ wl.cell? ⟨b, o1, none⟩ = some c1 ∧ wl.cell? ⟨b, o2, none⟩ = some c2) (h : Below wl.heap.size wl W) (g : W.grownBy w5 v.ownBlock) (hl : ∀ j, v.ownBlock = some j → j < b) :
    w5.cell? ⟨b, o1, none⟩ = some c1 ∧ w5.cell? ⟨b, o2, none⟩ = some c2 := by
  have hb := g.block b (Nat.lt_of_lt_of_le q.1 h.size) (fun e => Nat.lt_irrefl _ (hl b e.symm))
  have h2 := (keepV q h).2
  exact ⟨(World.cell?_of_block (a := ⟨b, o1, none⟩) hb).trans h2.1, (World.cell?_of_block (a := ⟨b, o2, none⟩) hb).trans h2.2⟩

set_option maxRecDepth 100000 in
set_option maxHeartbeats 8000000 in
theorem cTwin_any {v : Value} {c : List Tm} {w : World} (hv : Tms w v c) (hl : ∀ x ∈ c, x.2.length ≤ 1000000) (hn : c.length ≤ 1000) :
    Calls Try.prog 27 #[v] w fun e w' => ∃ v', e = .returned v' ∧ OwnC w' w.heap.size v' c ∧ Below w.heap.size w w' := by
  obtain ⟨ao, cap, rfl⟩ := hv.shape
  obtain ⟨n, hn'⟩ : ∃ n, n = c.length := ⟨_, rfl⟩
  have HV := Lib.hid hv
  have HN := Lib.hid hn'
  have HL := Lib.hid hl
  rw [← hn'] at hn ⊢
  clear hv hn' hl
  have O0 : Hid (OwnC w w.heap.size (.slice none 0 0) (c.take 0)) := OwnC.nil _ _
  have B0 := Lib.hid (Below.refl w.heap.size w)
  go_enter Try.func27, Try.ntmps27
  go_wp2
  go_loopw [3, 8] (fun o i wr => ∃ k : Nat, k ≤ n ∧ i = .int .i64 (k : Int) ∧ Hid (OwnC wr w.heap.size o (c.take k)) ∧ Hid (Below w.heap.size w wr)) (fun _ i _ => n - (intOf i).toNat)
  case atStart => exact ⟨0, by omega, rfl, O0, B0⟩
  case round =>
    clear O0 B0
    obtain ⟨k, hk, rfl, hown, hbel⟩ := hrel
    by_cases hkn : k < n
    · have q1 : decide (k < n) = true := by simpa using hkn
      have q2 : (0 : Int) ≤ (k : Int) := by omega
      have q3 : (k : Int) < (n : Int) := by omega
      have hkl : k < c.length := by rw [← HN.out]; exact hkn
      obtain ⟨b1, o1, u, rfl, hb1, ha0, ha1, hr256, hsp⟩ := HV.out.at k hkl
      have hs := tm_take_snoc c k hkl
      have hlx := HL.out _ (tm_mem hkl)
      obtain ⟨x, hx⟩ : ∃ x, x = c.getD k ztm := ⟨_, rfl⟩
      have hx' : c.getD k (0, []) = x := hx.symm
      rw [hx'] at ha0 hr256 hsp
      rw [← hx] at hs hlx
      obtain ⟨xr, xs⟩ := x
      simp only at ha0 ha1 hr256 hsp hlx
      obtain ⟨so, sc, rfl⟩ := hsp.shape
      obtain ⟨sl, hsl⟩ : ∃ sl, sl = xs.length := ⟨_, rfl⟩
      have HSL := Lib.hid hsl
      rw [← hsl] at ha1 hsp
      have HS := Lib.hid hs
      obtain ⟨wo, rfl⟩ : ∃ wo : World, wo = wr := ⟨_, rfl⟩
      have ha0 := (hbel.out.cell (p := ⟨b1, o1 + k * 2, none⟩) hb1).trans ha0
      have ha1 := (hbel.out.cell (p := ⟨b1, o1 + k * 2 + 1, none⟩) hb1).trans ha1
      obtain ⟨wl, hwl⟩ : ∃ wl : World, wl = wo.alloc (.cells #[.int .u8 (xr : Int), .slice so sl sc] 28) := ⟨_, rfl⟩
      have bol : Below wo.heap.size wo wl := by rw [hwl]; exact (Below.refl _ _).alloc (Nat.le_refl _) _
      have kbl : wl.heap[wo.heap.size]? = some (.cells #[.int .u8 (xr : Int), .slice so sl sc] 28) := by rw [hwl]; exact kb_new rfl
      have szl : wo.heap.size < wl.heap.size := by rw [hwl]; simp
      have XQ := Lib.hid (And.intro szl (two_blk kbl))
      have BOL := Lib.hid bol
      have BW := Lib.hid (bt hbel.out bol)
      have CT : Hid (∀ W : World, Below wl.heap.size wl W → Calls Try.prog 54 #[.slice so sl sc] W fun e w' => ∃ ao cap, e = .returned (.slice ao sl cap) ∧ w'.ownsRow w.heap.size 63 2 (.slice ao sl cap) xs.length (sps xs) ∧ Below wl.heap.size wl w') := fun W hW => by
        refine (pTwin_any (hsp.keeps (bt BW.out hW)) hlx).mono ?_
        rintro e w' ⟨v', rfl, ho, hb⟩
        obtain ⟨ao, cap, rfl⟩ := Sees.shape (Sees.own ho)
        rw [← hsl] at ho ⊢
        exact ⟨ao, cap, rfl, own_base ho (bt BW.out hW).size, bt hW hb⟩
      obtain ⟨cs, hv1, hv2⟩ := hown.out
      have hlen : (c.take k).length = k := by rw [List.length_take]; omega
      rw [hlen] at hv1
      have HV1 := Lib.hid hv1
      have HV2 := Lib.hid hv2
      have hlen2 : (c.take (k + 1)).length = k + 1 := by rw [List.length_take]; omega
      have HL2 := Lib.hid hlen2
      have rf := Below.refl wl.heap.size wl
      have hlt : ∀ j, u3.ownBlock = some j → j < wo.heap.size := fun j hj => (hv1.lt j hj).2
      have HLT := Lib.hid hlt
      clear hx hx' hs hsp hsl hown hbel hv1 hv2 hlen hlen2 hb1 hlx bol kbl szl hlt
      go_wp2
      rw [← hwl]
      clear hwl ha0 ha1
      go_region_held3 (fun w' => Below w.heap.size w w' ∧ w'.cell? ⟨wo.heap.size, 0, none⟩ = some (.int .u8 (xr : Int)) ∧ w'.cell? ⟨wo.heap.size, 1, none⟩ = some (.slice so sl sc))
        (first | (go_split_ands; refine And.intro (by assumption) (And.intro (by assumption) (by assumption))) | (go_split_ands; refine keepB XQ.out BW.out ?_; (try (with_reducible refine Below.drew ?_)); (try (with_reducible refine below_draw ?_ _)); (try (with_reducible refine alloc_b ?_ _)); (try (with_reducible refine Below.drew ?_)); (try (with_reducible refine below_draw ?_ _)); (try (with_reducible refine alloc_b ?_ _)); assumption) | fail)
        ((first
          | (go_at_call 54; (with_reducible refine (CT.out _ ?hw).mono ?_)
             case hw => repeat' (first | assumption | (with_reducible refine Below.drew ?_) | (with_reducible refine below_draw ?_ _) | (with_reducible refine alloc_b ?_ _) | fail)
             rintro e w9 ⟨a9, c9, rfl, o9, b9⟩)
          | (refine step_append_sees rfl (.tmp 12) (.tmp 19) 22 28 rfl Try.underlying22 times_info rfl (by decide) w.heap.size _ k cs ?e1 (own_stays HV1.out (bt BOL.out ?hb1)) (.slice (some ⟨w9.heap.size, 0, none⟩) 1 1) 1 [.int .u8 (xr : Int), .slice a9 sl c9] ?e2 (sees_blk2 (e := 28) ?hbk) ?hone (by omega) (by omega) ?hb3 ?_
             case e1 => rfl
             case e2 => rfl
             case hbk => repeat' (first | assumption | ((with_reducible refine kb_new ?_); (first | rfl | (simp; done))) | (with_reducible refine kb_drewC ?_) | (with_reducible refine kb_old ?_))
             case hb1 => repeat' (first | assumption | (with_reducible refine Below.drew ?_) | (with_reducible refine below_draw ?_ _) | (with_reducible refine alloc_b ?_ _) | fail)
             case hone => (intro z hz; simp at hz; rcases hz with rfl | rfl <;> rfl)
             case hb3 => (refine Below.size (bt BW.out (?_ : Below wl.heap.size wl _)); repeat' (first | assumption | (with_reducible refine Below.drew ?_) | (with_reducible refine below_draw ?_ _) | (with_reducible refine alloc_b ?_ _) | fail))
             intro v5 w5 o5 g5 b5
             refine hold1C (fun (hb5 : Below w.heap.size w w5) => ?_) ((bt BW.out ?hc).trans b5)
             case hc => repeat' (first | assumption | (with_reducible refine Below.drew ?_) | (with_reducible refine below_draw ?_ _) | (with_reducible refine alloc_b ?_ _) | fail)
             refine hold1C (fun (ow5 : OwnC w5 w.heap.size v5 (c.take (k + 1))) => ?_) (twin_step HV1.out HV2.out BOL.out ?hc (by assumption) ?hc9 g5 o5 hr256 HS.out HL2.out.symm)
             case hc => repeat' (first | assumption | (with_reducible refine Below.drew ?_) | (with_reducible refine below_draw ?_ _) | (with_reducible refine alloc_b ?_ _) | fail)
             case hc9 => repeat' (first | exact Below.refl _ _ | (with_reducible refine Below.drew ?_) | (with_reducible refine below_draw ?_ _) | (with_reducible refine alloc_b ?_ _) | fail)
             refine hold1C (fun (c5 : w5.cell? ⟨wo.heap.size, 0, none⟩ = some (.int .u8 (xr : Int)) ∧ w5.cell? ⟨wo.heap.size, 1, none⟩ = some (.slice so sl sc)) => ?_) (keepG XQ.out ?hc g5 HLT.out)
             case hc => repeat' (first | assumption | exact Below.refl _ _ | (with_reducible refine Below.drew ?_) | (with_reducible refine below_draw ?_ _) | (with_reducible refine alloc_b ?_ _))
             have O5 := Lib.hid ow5
             have c50 := c5.1
             have c51 := c5.2
             clear o5 g5 b5 ow5 c5)))
      go_wp2_with fail
      go_split_ands
      go_roundw
      case rel => exact ⟨k + 1, by omega, by go_num, O5, Lib.hid (by assumption)⟩
      case measure => simp [intOf]; omega
    · have q1 : decide (k < n) = false := by simpa using hkn
      have hkk : c.take k = c := List.take_of_length_le (by have := HN.out; omega)
      rw [hkk] at hown
      clear hkk
      go_wp2
      go_ret
      exact ⟨_, rfl, hown.out, hbel.out⟩
end Go.Proofs.Ytinglfhndlklaaa.Clocks
