/- octavoref11.With: what it answers. Conditions: the slice's cells are operations, not too many. -/
import Derived.Test.YtocjkegkgnbboaaPk09
import Derived.Test.YtocjkegkgnbboaaPk06
import Derived.Test.YtocjkegkgnbboaaPk01
import Derived.Test.YtocjkegkgnbboaaPk07

namespace Go.Proofs.Ytocjkegkgnbboaa.Bags
open Go.RowKit Go.WideShapes Stamp Go.Proofs.Ytocjkegkgnbboaa.Place Ops Codes
attribute [local go_sem ↓] Go.wp_at_zero Go.wp_at_succ
attribute [local go_sem] yielded_undef

/-- Rows of operations of the call's own, their places shared. -/
abbrev ShrO (w0 w : World) (v : Value) (l : List Opn) : Prop := Shr opE 30 w0 w v l
theorem withO_no {l : List Opn} {o : Opn} (h : hasO l (idO o) = false) : withO l o = l.filter (fun x => decide (lessO x o)) ++ [o] ++ l.filter (fun x => decide (lessO o x)) := by
  unfold withO
  rw [h]
  simp
theorem withO_yes {l : List Opn} {o : Opn} (h : hasO l (idO o) = true) : withO l o = l := by unfold withO; rw [if_pos h]
theorem filter_take {P : Opn → Bool} {l : List Opn} {j : Nat} (h : j < l.length) : (l.take (j + 1)).filter P = (l.take j).filter P ++ (if P (l[j]'h) = true then [l[j]'h] else []) := by
  rw [List.take_succ_eq_append_getElem h, List.filter_append]
  by_cases hp : P (l[j]'h) = true
  · rw [if_pos hp]; simp [hp]
  · rw [if_neg hp]; simp [hp]
theorem filter_take_len {P : Opn → Bool} {l : List Opn} (j : Nat) : ((l.take j).filter P).length ≤ l.length :=
  Nat.le_trans (List.length_filter_le _ _) (by rw [List.length_take]; omega)

set_option maxRecDepth 100000 in
set_option maxHeartbeats 16000000 in
theorem refWith_any {v u0 : Value} {l : List Opn} {o : Opn} {w : World} (hv : OpL w v l) (hu : Runs w u0 o.pl) (hl : l.length ≤ 1000000) :
    Calls Try.prog 49 #[v, opv o u0] w fun e w' => ∃ v', e = .returned v' ∧ OpL w' v' (withO l o) ∧ Below w.heap.size w w' := by
  obtain ⟨ao, cap, rfl⟩ := hv.shape
  obtain ⟨n, hn⟩ : ∃ n, n = l.length := ⟨_, rfl⟩
  have HV : Hid (∀ W : World, Below w.heap.size w W → OpL W (.slice ao l.length cap) l) := fun W h => hv.keeps h
  have HN := Lib.hid hn
  rw [← hn] at hl ⊢
  have HL := Lib.hid hl
  have hnm : n ≤ 1000000 := hl
  obtain ⟨uo0, uc0, rfl⟩ := hu.shape
  obtain ⟨nu0, hnu0⟩ : ∃ n, n = o.pl.length := ⟨_, rfl⟩
  rw [← hnu0] at hu ⊢
  obtain ⟨wb, hwb⟩ : ∃ x, x = w.alloc (.cells #[.int .u8 (o.k : Int), .int .u32 (o.t : Int), .int .u8 (o.r : Int), .slice uo0 nu0 uc0, .int .i64 o.p] 30) := ⟨_, rfl⟩
  have B0 : Hid (Below w.heap.size w wb) := by rw [hwb]; exact (Below.refl _ _).alloc (Nat.le_refl _) _
  have INO : Hid (opE.inn wb [.int .u8 (o.k : Int), .int .u32 (o.t : Int), .int .u8 (o.r : Int), .slice uo0 nu0 uc0, .int .i64 o.p] o) := ⟨_, rfl, hu.keeps B0.out⟩
  have HA : Hid (∀ W : World, Below w.heap.size w W → Calls Try.prog 89 #[.slice ao n cap, .agg #[.int .u32 (o.t : Int), .int .u8 (o.r : Int)]] W fun e w' => e = .returned (.bool (hasO l (idO o))) ∧ Below W.heap.size W w') := fun W h => by
    have := refHasO_any (idO o) (HV.out W h)
    rw [← hn] at this
    exact this
  have LS : Hid (∀ (x : Opn) (W : World), Calls Try.prog 83 #[.agg #[.int .u32 (x.t : Int), .int .u8 (x.r : Int)], .agg #[.int .u32 (o.t : Int), .int .u8 (o.r : Int)]] W fun e w' => e = .returned (.bool (decide (lessO x o))) ∧ Below W.heap.size W w') := fun x W => by
    have := refLess_any x.t x.r o.t o.r W
    rwa [show less x.t x.r o.t o.r = decide (lessO x o) from rfl] at this
  have GS : Hid (∀ (x : Opn) (W : World), Calls Try.prog 83 #[.agg #[.int .u32 (o.t : Int), .int .u8 (o.r : Int)], .agg #[.int .u32 (x.t : Int), .int .u8 (x.r : Int)]] W fun e w' => e = .returned (.bool (decide (lessO o x))) ∧ Below W.heap.size W w') := fun x W => by
    have := refLess_any o.t o.r x.t x.r W
    rwa [show less o.t o.r x.t x.r = decide (lessO o x) from rfl] at this
  have HO0 : Hid (∀ v : Value, opv o v = .agg #[.int .u8 (o.k : Int), .int .u32 (o.t : Int), .int .u8 (o.r : Int), v, .int .i64 o.p]) := fun v => rfl
  obtain ⟨hs, hhs⟩ : ∃ b, hasO l (idO o) = b := ⟨_, rfl⟩
  rw [hhs] at HA
  have HHS := Lib.hid hhs
  obtain ⟨k0, hk0⟩ : ∃ z, o.k = z := ⟨_, rfl⟩
  obtain ⟨t0, ht0⟩ : ∃ z, o.t = z := ⟨_, rfl⟩
  obtain ⟨r0, hr0⟩ : ∃ z, o.r = z := ⟨_, rfl⟩
  obtain ⟨p0, hp0⟩ : ∃ z, o.p = z := ⟨_, rfl⟩
  rw [hk0, ht0, hr0, hp0] at HO0 INO hwb
  rw [ht0, hr0] at HA LS GS
  simp only [HO0.out]
  have XB : Hid (wb.heap[w.heap.size]? = some (.cells #[.int .u8 (k0 : Int), .int .u32 (t0 : Int), .int .u8 (r0 : Int), .slice uo0 nu0 uc0, .int .i64 p0] 30)) := by rw [hwb]; exact blk_new rfl
  have HWB := Lib.hid hwb
  clear hwb
  clear hv hn hu hnu0 hhs hk0 ht0 hr0 hp0 HO0 hl
  go_enter Try.func49, Try.ntmps49
  go_wp2_with fail
  rw [← HWB.out]
  refine (HA.out _ B0.out).mono ?_
  rintro e w1 ⟨rfl, b1⟩
  have B1 := Lib.hid b1
  clear b1 HA HWB
  cases hs
  rotate_left
  · go_wp2
    go_ret
    exact ⟨_, rfl, by rw [withO_yes HHS.out]; have := HV.out w1 (bt B0.out B1.out); rw [← HN.out] at this; exact this, bt B0.out B1.out⟩
  have S0 : Hid (ShrO wb w1 (.slice none 0 0) ((l.take 0).filter (fun x => decide (lessO x o)))) := Shr.nil _ _ _ _
  have M0 : Hid (0 = ((l.take 0).filter (fun x => decide (lessO x o))).length) := rfl
  have BB := B1
  go_wp2
  go_loopw [5, 6] (fun v i wr => ∃ j m : Nat, j ≤ n ∧ i = .int .i64 (j : Int) ∧ (∃ ao cap, v = .slice ao m cap) ∧ Hid (m = ((l.take j).filter (fun x => decide (lessO x o))).length) ∧ Hid (ShrO wb wr v ((l.take j).filter (fun x => decide (lessO x o)))) ∧ Hid (Below wb.heap.size wb wr)) (fun _ i _ => n - (intOf i).toNat)
  case atStart => exact ⟨0, 0, by omega, rfl, ⟨none, 0, rfl⟩, M0, S0, BB⟩
  case round =>
    clear S0 M0 BB
    obtain ⟨j, m, hj, rfl, ⟨aoL, capL, rfl⟩, HM, hshr, hbel⟩ := hrel
    have BW := Lib.hid (bt B0.out hbel.out)
    by_cases hjn : j < n
    · have q3 : decide (j < n) = true := by simpa using hjn
      have q4 : (0 : Int) ≤ (j : Int) := by omega
      have q5 : (j : Int) < (n : Int) := by omega
      have hjl : j < l.length := by rw [← HN.out]; exact hjn
      obtain ⟨bb, oo, u, e, hbb, hru, h0, h1, h2, h3, h4⟩ := opl_at (HV.out wb B0.out) j hjl
      subst e
      obtain ⟨x, hx⟩ : ∃ x, x = l[j]'hjl := ⟨_, rfl⟩
      rw [← hx] at hru h0 h1 h2 h4
      have HO : Hid (∀ v : Value, opv x v = .agg #[.int .u8 (x.k : Int), .int .u32 (x.t : Int), .int .u8 (x.r : Int), v, .int .i64 x.p]) := fun v => rfl
      replace h0 := ((hbel.out).cell (p := ⟨bb, oo + j * 5, none⟩) hbb).trans h0
      replace h1 := ((hbel.out).cell (p := ⟨bb, oo + j * 5 + 1, none⟩) hbb).trans h1
      replace h2 := ((hbel.out).cell (p := ⟨bb, oo + j * 5 + 2, none⟩) hbb).trans h2
      replace h3 := ((hbel.out).cell (p := ⟨bb, oo + j * 5 + 3, none⟩) hbb).trans h3
      replace h4 := ((hbel.out).cell (p := ⟨bb, oo + j * 5 + 4, none⟩) hbb).trans h4
      have hbo := hbb
      replace hbb := Nat.lt_of_lt_of_le hbb (hbel.out).size
      obtain ⟨uo, uc, rfl⟩ := hru.shape
      obtain ⟨nu, hnu⟩ : ∃ n, n = x.pl.length := ⟨_, rfl⟩
      have HNU := Lib.hid hnu
      rw [← hnu] at hru h3
      clear hnu
      have INN : Hid (opE.inn wb [.int .u8 (x.k : Int), .int .u32 (x.t : Int), .int .u8 (x.r : Int), .slice uo nu uc, .int .i64 x.p] x) := ⟨_, rfl, hru⟩
      have LX := Lib.hid (fun W => LS.out x W)
      have FT := Lib.hid (filter_take (P := fun x => decide (lessO x o)) hjl)
      rw [← hx] at FT
      obtain ⟨X0, X1', X2, X3, X4⟩ := cells5 (blk_below hbel.out XB.out)
      have hlt := World.block_lt_of_cell? _ _ X0
      clear hx hru
      obtain ⟨k, hk⟩ : ∃ z, x.k = z := ⟨_, rfl⟩
      obtain ⟨t, ht⟩ : ∃ z, x.t = z := ⟨_, rfl⟩
      obtain ⟨r, hr⟩ : ∃ z, x.r = z := ⟨_, rfl⟩
      obtain ⟨p, hp⟩ : ∃ z, x.p = z := ⟨_, rfl⟩
      rw [hk, ht, hr, hp] at HO
      rw [hk] at h0
      rw [ht] at h1
      rw [hr] at h2
      rw [hp] at h4
      rw [hk, ht, hr, hp] at INN
      rw [ht, hr] at LX
      have F1 : Hid (FiveAt wr bb (oo + j * 5) (.int .u8 (k : Int)) (.int .u32 (t : Int)) (.int .u8 (r : Int)) (.slice uo nu uc) (.int .i64 p)) := ⟨hbb, h0, h1, h2, h3, h4⟩
      have SK : Hid (∀ w' : World, Below wr.heap.size wr w' → Below wr.heap.size wr w' ∧ w'.cell? ⟨bb, oo + j * 5 + 1, none⟩ = some (.int .u32 (t : Int)) ∧ w'.cell? ⟨bb, oo + j * 5 + 2, none⟩ = some (.int .u8 (r : Int)) ∧ w'.cell? ⟨w.heap.size, 1, none⟩ = some (.int .u32 (t0 : Int)) ∧ w'.cell? ⟨w.heap.size, 2, none⟩ = some (.int .u8 (r0 : Int))) := fun W h => ⟨h, (h.cell (p := ⟨bb, oo + j * 5 + 1, none⟩) hbb).trans h1, (h.cell (p := ⟨bb, oo + j * 5 + 2, none⟩) hbb).trans h2, (h.cell (p := ⟨w.heap.size, 1, none⟩) hlt).trans X1', (h.cell (p := ⟨w.heap.size, 2, none⟩) hlt).trans X2⟩
      obtain ⟨ly, hly⟩ : ∃ b, decide (lessO x o) = b := ⟨_, rfl⟩
      rw [hly] at LX FT
      clear hk ht hr hp h0 h1 h2 h3 h4 HO hbb hly X0 X1' X2 X3 X4 hlt hbo
      cases ly
      · rw [if_neg (by decide), List.append_nil] at FT
        go_wp2
        refine wp_region_held_drew (S := fun w' => Below wr.heap.size wr w' ∧ w'.cell? ⟨bb, oo + j * 5 + 1, none⟩ = some (.int .u32 (t : Int)) ∧ w'.cell? ⟨bb, oo + j * 5 + 2, none⟩ = some (.int .u8 (r : Int)) ∧ w'.cell? ⟨w.heap.size, 1, none⟩ = some (.int .u32 (t0 : Int)) ∧ w'.cell? ⟨w.heap.size, 2, none⟩ = some (.int .u8 (r0 : Int))) (by kernel_rfl) (SK.out _ (drew1 _)) (fun hHeld => ?_)
        refine wpAnyH_take (i := 0) (v := ?vaa0) rfl (by kernel_rfl) (by kernel_rfl) (by kernel_rfl) (fun _ _ _ h => h) (Or.inl ⟨by rfl, ?yaa0⟩) (by assumption) ?_
        case yaa0 => intro w hSw; (try dsimp only at hSw); go_simp <;> with_reducible rfl
        try simp only [List.getElem_toArray, List.getElem_cons_zero, Act.put, List.setIfInBounds_toArray, List.set_cons_zero, List.set_cons_succ]
        refine wpAnyH_take (i := 1) (v := ?vaa1) rfl (by kernel_rfl) (by kernel_rfl) (by kernel_rfl) (fun _ _ _ h => h) (Or.inl ⟨by rfl, ?yaa1⟩) (by assumption) ?_
        case yaa1 => intro w hSw; (try dsimp only at hSw); go_simp <;> with_reducible rfl
        try simp only [List.getElem_toArray, List.getElem_cons_succ, List.getElem_cons_zero, Act.put, List.setIfInBounds_toArray, List.set_cons_zero, List.set_cons_succ]
        refine wpAnyH_take (i := 2) (v := ?vaa2) rfl (by kernel_rfl) (by kernel_rfl) (by kernel_rfl) (fun _ _ _ h => h) (Or.inl ⟨by rfl, ?yaa2⟩) (by assumption) ?_
        case yaa2 => intro w hSw; (try dsimp only at hSw); go_simp <;> with_reducible rfl
        try simp only [List.getElem_toArray, List.getElem_cons_succ, List.getElem_cons_zero, Act.put, List.setIfInBounds_toArray, List.set_cons_zero, List.set_cons_succ]
        refine wpAnyH_take (i := 3) (v := ?vaa3) rfl (by kernel_rfl) (by kernel_rfl) (by kernel_rfl) (fun _ _ _ h => h) (Or.inl ⟨by rfl, ?yaa3⟩) (by assumption) ?_
        case yaa3 => intro w hSw; (try dsimp only at hSw); go_simp <;> with_reducible rfl
        try simp only [List.getElem_toArray, List.getElem_cons_succ, List.getElem_cons_zero, Act.put, List.setIfInBounds_toArray, List.set_cons_zero, List.set_cons_succ]
        refine wpAnyH_take (i := 4) (v := ?vaa4) rfl (by kernel_rfl) (by kernel_rfl) (by kernel_rfl) (fun _ _ _ h => h) (Or.inl ⟨by rfl, ?yaa4⟩) (by assumption) ?_
        case yaa4 => intro w hSw; (try dsimp only at hSw); go_simp <;> with_reducible rfl
        try simp only [List.getElem_toArray, List.getElem_cons_succ, List.getElem_cons_zero, Act.put, List.setIfInBounds_toArray, List.set_cons_zero, List.set_cons_succ]
        refine wpAnyH_take (i := 5) (v := ?vaa5) rfl (by kernel_rfl) (by kernel_rfl) (by kernel_rfl) (fun _ _ _ h => h) (Or.inl ⟨by rfl, ?yaa5⟩) (by assumption) ?_
        case yaa5 => intro w hSw; (try dsimp only at hSw); go_simp <;> with_reducible rfl
        try simp only [List.getElem_toArray, List.getElem_cons_succ, List.getElem_cons_zero, Act.put, List.setIfInBounds_toArray, List.set_cons_zero, List.set_cons_succ]
        refine wpAnyH_take (i := 6) (v := ?vaa6) rfl (by kernel_rfl) (by kernel_rfl) (by kernel_rfl) (fun _ _ _ h => h) (Or.inl ⟨by rfl, ?yaa6⟩) (by assumption) ?_
        case yaa6 => intro w hSw; (try dsimp only at hSw); go_simp <;> with_reducible rfl
        try simp only [List.getElem_toArray, List.getElem_cons_succ, List.getElem_cons_zero, Act.put, List.setIfInBounds_toArray, List.set_cons_zero, List.set_cons_succ]
        refine wpAnyH_ready (rs := [7]) (by kernel_rfl) (by simp) ?_
        refine AllReadyH.cons rfl (fun K hK => ?_) ?zaa7
        case zaa7 => exact AllReadyH.nil
        go_simp
        refine (LX.out _).mono ?_
        rintro e w9aa7 ⟨rfl, b9⟩
        refine hK.out _ _ (SK.out _ (bt hHeld.1 b9)) (fun hNew => ?_)
        clear hHeld
        have hHeld := hNew
        clear hNew hK K
        try simp only [List.getElem_toArray, List.getElem_cons_succ, List.getElem_cons_zero, Act.put, List.setIfInBounds_toArray, List.set_cons_zero, List.set_cons_succ]
        refine wpAnyH_done (by kernel_rfl) ?_ _
        have S2 := Lib.hid (hshr.out.keeps hHeld.1)
        have B2 := Lib.hid (bt hbel.out hHeld.1)
        rw [← FT.out] at S2 HM
        clear hHeld hshr
        go_wp2
        go_roundw
        case rel => exact ⟨j + 1, m, by omega, by go_num, ⟨aoL, capL, rfl⟩, HM, S2, B2⟩
        case measure => simp [intOf]; omega
      · rw [if_pos rfl] at FT
        go_wp2
        refine wp_region_held_drew (S := fun w' => Below wr.heap.size wr w' ∧ w'.cell? ⟨bb, oo + j * 5 + 1, none⟩ = some (.int .u32 (t : Int)) ∧ w'.cell? ⟨bb, oo + j * 5 + 2, none⟩ = some (.int .u8 (r : Int)) ∧ w'.cell? ⟨w.heap.size, 1, none⟩ = some (.int .u32 (t0 : Int)) ∧ w'.cell? ⟨w.heap.size, 2, none⟩ = some (.int .u8 (r0 : Int))) (by kernel_rfl) (SK.out _ (drew1 _)) (fun hHeld => ?_)
        refine wpAnyH_take (i := 0) (v := ?vab0) rfl (by kernel_rfl) (by kernel_rfl) (by kernel_rfl) (fun _ _ _ h => h) (Or.inl ⟨by rfl, ?yab0⟩) (by assumption) ?_
        case yab0 => intro w hSw; (try dsimp only at hSw); go_simp <;> with_reducible rfl
        try simp only [List.getElem_toArray, List.getElem_cons_zero, Act.put, List.setIfInBounds_toArray, List.set_cons_zero, List.set_cons_succ]
        refine wpAnyH_take (i := 1) (v := ?vab1) rfl (by kernel_rfl) (by kernel_rfl) (by kernel_rfl) (fun _ _ _ h => h) (Or.inl ⟨by rfl, ?yab1⟩) (by assumption) ?_
        case yab1 => intro w hSw; (try dsimp only at hSw); go_simp <;> with_reducible rfl
        try simp only [List.getElem_toArray, List.getElem_cons_succ, List.getElem_cons_zero, Act.put, List.setIfInBounds_toArray, List.set_cons_zero, List.set_cons_succ]
        refine wpAnyH_take (i := 2) (v := ?vab2) rfl (by kernel_rfl) (by kernel_rfl) (by kernel_rfl) (fun _ _ _ h => h) (Or.inl ⟨by rfl, ?yab2⟩) (by assumption) ?_
        case yab2 => intro w hSw; (try dsimp only at hSw); go_simp <;> with_reducible rfl
        try simp only [List.getElem_toArray, List.getElem_cons_succ, List.getElem_cons_zero, Act.put, List.setIfInBounds_toArray, List.set_cons_zero, List.set_cons_succ]
        refine wpAnyH_take (i := 3) (v := ?vab3) rfl (by kernel_rfl) (by kernel_rfl) (by kernel_rfl) (fun _ _ _ h => h) (Or.inl ⟨by rfl, ?yab3⟩) (by assumption) ?_
        case yab3 => intro w hSw; (try dsimp only at hSw); go_simp <;> with_reducible rfl
        try simp only [List.getElem_toArray, List.getElem_cons_succ, List.getElem_cons_zero, Act.put, List.setIfInBounds_toArray, List.set_cons_zero, List.set_cons_succ]
        refine wpAnyH_take (i := 4) (v := ?vab4) rfl (by kernel_rfl) (by kernel_rfl) (by kernel_rfl) (fun _ _ _ h => h) (Or.inl ⟨by rfl, ?yab4⟩) (by assumption) ?_
        case yab4 => intro w hSw; (try dsimp only at hSw); go_simp <;> with_reducible rfl
        try simp only [List.getElem_toArray, List.getElem_cons_succ, List.getElem_cons_zero, Act.put, List.setIfInBounds_toArray, List.set_cons_zero, List.set_cons_succ]
        refine wpAnyH_take (i := 5) (v := ?vab5) rfl (by kernel_rfl) (by kernel_rfl) (by kernel_rfl) (fun _ _ _ h => h) (Or.inl ⟨by rfl, ?yab5⟩) (by assumption) ?_
        case yab5 => intro w hSw; (try dsimp only at hSw); go_simp <;> with_reducible rfl
        try simp only [List.getElem_toArray, List.getElem_cons_succ, List.getElem_cons_zero, Act.put, List.setIfInBounds_toArray, List.set_cons_zero, List.set_cons_succ]
        refine wpAnyH_take (i := 6) (v := ?vab6) rfl (by kernel_rfl) (by kernel_rfl) (by kernel_rfl) (fun _ _ _ h => h) (Or.inl ⟨by rfl, ?yab6⟩) (by assumption) ?_
        case yab6 => intro w hSw; (try dsimp only at hSw); go_simp <;> with_reducible rfl
        try simp only [List.getElem_toArray, List.getElem_cons_succ, List.getElem_cons_zero, Act.put, List.setIfInBounds_toArray, List.set_cons_zero, List.set_cons_succ]
        refine wpAnyH_ready (rs := [7]) (by kernel_rfl) (by simp) ?_
        refine AllReadyH.cons rfl (fun K hK => ?_) ?zab7
        case zab7 => exact AllReadyH.nil
        go_simp
        refine (LX.out _).mono ?_
        rintro e w9ab7 ⟨rfl, b9⟩
        refine hK.out _ _ (SK.out _ (bt hHeld.1 b9)) (fun hNew => ?_)
        clear hHeld
        have hHeld := hNew
        clear hNew hK K
        try simp only [List.getElem_toArray, List.getElem_cons_succ, List.getElem_cons_zero, Act.put, List.setIfInBounds_toArray, List.set_cons_zero, List.set_cons_succ]
        refine wpAnyH_done (by kernel_rfl) ?_ _
        obtain ⟨z0, z1, z2, z3, z4⟩ := (F1.out.keeps hHeld.1).2
        have S2 := Lib.hid (hshr.out.keeps hHeld.1)
        have B2 := Lib.hid (bt hbel.out hHeld.1)
        have B3 := Lib.hid (bt hbel.out hHeld.1)
        have hll := filter_take_len (P := fun x => decide (lessO x o)) (l := l) j
        have hl1 := HL.out
        have hl2 := HN.out
        have HZ := Lib.hid B3.out.size
        have HMM := Lib.hid (show (m + 1) * 48 ≤ 140737488355328 ∧ m ≤ 1000000000000 by have := HM.out; omega)
        clear hHeld hshr hll hl1 hl2 SK F1
        go_wp2_with (at_builtin; refine wpList_append_enc (E := opE) Try.underlying22 op_info rfl (w0 := wb) (wp := w9ab7) (by rfl) (.tmp 27) (.tmp 32) (by rfl) (by rfl) S2.out (G := w9ab7.heap.size) (by rfl) rfl (c := #[.int .u8 (k : Int), .int .u32 (t : Int), .int .u8 (r : Int), .slice uo nu uc, .int .i64 p]) INN.out HM.out HMM.out.1 HMM.out.2 HZ.out ?_)
        rintro v6 w6 s6 va vc rfl b6
        have S6 := Lib.hid s6
        rw [← FT.out] at S6
        have M6 : Hid (m + 1 = ((l.take (j + 1)).filter (fun x => decide (lessO x o))).length) := by unfold Hid; rw [FT.out, List.length_append, ← HM.out]; rfl
        have B6 := Lib.hid (B3.out.trans b6)
        clear s6 b6 S2
        go_wp2
        go_roundw
        case rel => exact ⟨j + 1, m + 1, by omega, by go_num, ⟨va, vc, rfl⟩, M6, S6, B6⟩
        case measure => simp [intOf]; omega
    · have q3 : decide (j < n) = false := by simpa using hjn
      have hkk : l.take j = l := List.take_of_length_le (by have := HN.out; omega)
      rw [hkk] at hshr HM
      have X2 := Lib.hid (blk_below hbel.out XB.out)
      obtain ⟨z0, z1, z2, z3, z4⟩ := cells5 X2.out
      have HMM := Lib.hid (show (m + 1) * 48 ≤ 140737488355328 ∧ m ≤ 1000000000000 by have := HM.out; have h2 := List.length_filter_le (fun x => decide (lessO x o)) l; have := HN.out; omega)
      have HZ := Lib.hid hbel.out.size
      have S2 := hshr
      clear hkk hshr
      go_wp2_with (at_builtin; refine wpList_append_enc (E := opE) Try.underlying22 op_info rfl (w0 := wb) (wp := wr) (by rfl) (.tmp 34) (.tmp 36) (by rfl) (by rfl) S2.out (G := wr.heap.size) (by rfl) rfl (c := #[.int .u8 (k0 : Int), .int .u32 (t0 : Int), .int .u8 (r0 : Int), .slice uo0 nu0 uc0, .int .i64 p0]) INO.out HM.out HMM.out.1 HMM.out.2 HZ.out ?_)
      rintro v6 w6 s6 va vc rfl b6
      have S6 := Lib.hid s6
      have B6 := Lib.hid (hbel.out.trans b6)
      obtain ⟨m1, hm1⟩ : ∃ m1, m1 = m + 1 := ⟨_, rfl⟩
      have HM1 : Hid (m1 = (l.filter (fun x => decide (lessO x o)) ++ [o]).length) := by unfold Hid; rw [hm1, List.length_append, ← HM.out]; rfl
      rw [← hm1] at S6 ⊢
      clear s6 b6 S2 hm1 HMM HZ z0 z1 z2 z3 z4 X2
      have S0 : Hid (ShrO wb w6 (.slice va m1 vc) (l.filter (fun x => decide (lessO x o)) ++ [o] ++ (l.take 0).filter (fun x => decide (lessO o x)))) := by rw [show (l.take 0).filter (fun x => decide (lessO o x)) = [] from rfl, List.append_nil]; exact S6.out
      have M0 : Hid (m1 = (l.filter (fun x => decide (lessO x o)) ++ [o] ++ (l.take 0).filter (fun x => decide (lessO o x))).length) := by unfold Hid; rw [show (l.take 0).filter (fun x => decide (lessO o x)) = [] from rfl, List.append_nil]; exact HM1.out
      clear S6 HM1 HM q3 hjn hj BW hbel
      obtain ⟨L1, hL1⟩ : ∃ L, L = l.filter (fun x => decide (lessO x o)) ++ [o] := ⟨_, rfl⟩
      rw [← hL1] at S0 M0
      have HL1 : Hid (L1.length ≤ n + 1 ∧ withO l o = L1 ++ l.filter (fun x => decide (lessO o x))) := by
        refine ⟨?_, by rw [hL1, withO_no HHS.out]⟩
        rw [hL1, List.length_append, HN.out]
        have := List.length_filter_le (fun x => decide (lessO x o)) l
        simp only [List.length_cons, List.length_nil]
        omega
      clear hL1
      skip
      go_wp2
      go_loopw [5, 7] (fun v i wr => ∃ j m : Nat, j ≤ n ∧ i = .int .i64 (j : Int) ∧ (∃ ao cap, v = .slice ao m cap) ∧ Hid (m = (L1 ++ (l.take j).filter (fun x => decide (lessO o x))).length) ∧ Hid (ShrO wb wr v (L1 ++ (l.take j).filter (fun x => decide (lessO o x)))) ∧ Hid (Below wb.heap.size wb wr)) (fun _ i _ => n - (intOf i).toNat)
      case atStart => exact ⟨0, m1, by omega, rfl, ⟨va, vc, rfl⟩, M0, S0, B6⟩
      case round =>
        clear S0 M0 B6
        obtain ⟨j, m, hj, rfl, ⟨aoL, capL, rfl⟩, HM, hshr, hbel⟩ := hrel
        have BW := Lib.hid (bt B0.out hbel.out)
        by_cases hjn : j < n
        · have q3 : decide (j < n) = true := by simpa using hjn
          have q4 : (0 : Int) ≤ (j : Int) := by omega
          have q5 : (j : Int) < (n : Int) := by omega
          have hjl : j < l.length := by rw [← HN.out]; exact hjn
          obtain ⟨bb, oo, u, e, hbb, hru, h0, h1, h2, h3, h4⟩ := opl_at (HV.out wb B0.out) j hjl
          subst e
          obtain ⟨x, hx⟩ : ∃ x, x = l[j]'hjl := ⟨_, rfl⟩
          rw [← hx] at hru h0 h1 h2 h4
          have HO : Hid (∀ v : Value, opv x v = .agg #[.int .u8 (x.k : Int), .int .u32 (x.t : Int), .int .u8 (x.r : Int), v, .int .i64 x.p]) := fun v => rfl
          replace h0 := ((hbel.out).cell (p := ⟨bb, oo + j * 5, none⟩) hbb).trans h0
          replace h1 := ((hbel.out).cell (p := ⟨bb, oo + j * 5 + 1, none⟩) hbb).trans h1
          replace h2 := ((hbel.out).cell (p := ⟨bb, oo + j * 5 + 2, none⟩) hbb).trans h2
          replace h3 := ((hbel.out).cell (p := ⟨bb, oo + j * 5 + 3, none⟩) hbb).trans h3
          replace h4 := ((hbel.out).cell (p := ⟨bb, oo + j * 5 + 4, none⟩) hbb).trans h4
          have hbo := hbb
          replace hbb := Nat.lt_of_lt_of_le hbb (hbel.out).size
          obtain ⟨uo, uc, rfl⟩ := hru.shape
          obtain ⟨nu, hnu⟩ : ∃ n, n = x.pl.length := ⟨_, rfl⟩
          have HNU := Lib.hid hnu
          rw [← hnu] at hru h3
          clear hnu
          have INN : Hid (opE.inn wb [.int .u8 (x.k : Int), .int .u32 (x.t : Int), .int .u8 (x.r : Int), .slice uo nu uc, .int .i64 x.p] x) := ⟨_, rfl, hru⟩
          have LX := Lib.hid (fun W => GS.out x W)
          have FT := Lib.hid (filter_take (P := fun x => decide (lessO o x)) hjl)
          rw [← hx] at FT
          obtain ⟨X0, X1', X2, X3, X4⟩ := cells5 (blk_below hbel.out XB.out)
          have hlt := World.block_lt_of_cell? _ _ X0
          clear hx hru
          obtain ⟨k, hk⟩ : ∃ z, x.k = z := ⟨_, rfl⟩
          obtain ⟨t, ht⟩ : ∃ z, x.t = z := ⟨_, rfl⟩
          obtain ⟨r, hr⟩ : ∃ z, x.r = z := ⟨_, rfl⟩
          obtain ⟨p, hp⟩ : ∃ z, x.p = z := ⟨_, rfl⟩
          rw [hk, ht, hr, hp] at HO
          rw [hk] at h0
          rw [ht] at h1
          rw [hr] at h2
          rw [hp] at h4
          rw [hk, ht, hr, hp] at INN
          rw [ht, hr] at LX
          have F1 : Hid (FiveAt wr bb (oo + j * 5) (.int .u8 (k : Int)) (.int .u32 (t : Int)) (.int .u8 (r : Int)) (.slice uo nu uc) (.int .i64 p)) := ⟨hbb, h0, h1, h2, h3, h4⟩
          have SK : Hid (∀ w' : World, Below wr.heap.size wr w' → Below wr.heap.size wr w' ∧ w'.cell? ⟨bb, oo + j * 5 + 1, none⟩ = some (.int .u32 (t : Int)) ∧ w'.cell? ⟨bb, oo + j * 5 + 2, none⟩ = some (.int .u8 (r : Int)) ∧ w'.cell? ⟨w.heap.size, 1, none⟩ = some (.int .u32 (t0 : Int)) ∧ w'.cell? ⟨w.heap.size, 2, none⟩ = some (.int .u8 (r0 : Int))) := fun W h => ⟨h, (h.cell (p := ⟨bb, oo + j * 5 + 1, none⟩) hbb).trans h1, (h.cell (p := ⟨bb, oo + j * 5 + 2, none⟩) hbb).trans h2, (h.cell (p := ⟨w.heap.size, 1, none⟩) hlt).trans X1', (h.cell (p := ⟨w.heap.size, 2, none⟩) hlt).trans X2⟩
          obtain ⟨ly, hly⟩ : ∃ b, decide (lessO o x) = b := ⟨_, rfl⟩
          rw [hly] at LX FT
          clear hk ht hr hp h0 h1 h2 h3 h4 HO hbb hly X0 X1' X2 X3 X4 hlt hbo
          cases ly
          · rw [if_neg (by decide), List.append_nil] at FT 
            go_wp2
            refine wp_region_held_drew (S := fun w' => Below wr.heap.size wr w' ∧ w'.cell? ⟨bb, oo + j * 5 + 1, none⟩ = some (.int .u32 (t : Int)) ∧ w'.cell? ⟨bb, oo + j * 5 + 2, none⟩ = some (.int .u8 (r : Int)) ∧ w'.cell? ⟨w.heap.size, 1, none⟩ = some (.int .u32 (t0 : Int)) ∧ w'.cell? ⟨w.heap.size, 2, none⟩ = some (.int .u8 (r0 : Int))) (by kernel_rfl) (SK.out _ (drew1 _)) (fun hHeld => ?_)
            refine wpAnyH_take (i := 0) (v := ?vba0) rfl (by kernel_rfl) (by kernel_rfl) (by kernel_rfl) (fun _ _ _ h => h) (Or.inl ⟨by rfl, ?yba0⟩) (by assumption) ?_
            case yba0 => intro w hSw; (try dsimp only at hSw); go_simp <;> with_reducible rfl
            try simp only [List.getElem_toArray, List.getElem_cons_zero, Act.put, List.setIfInBounds_toArray, List.set_cons_zero, List.set_cons_succ]
            refine wpAnyH_take (i := 1) (v := ?vba1) rfl (by kernel_rfl) (by kernel_rfl) (by kernel_rfl) (fun _ _ _ h => h) (Or.inl ⟨by rfl, ?yba1⟩) (by assumption) ?_
            case yba1 => intro w hSw; (try dsimp only at hSw); go_simp <;> with_reducible rfl
            try simp only [List.getElem_toArray, List.getElem_cons_succ, List.getElem_cons_zero, Act.put, List.setIfInBounds_toArray, List.set_cons_zero, List.set_cons_succ]
            refine wpAnyH_take (i := 2) (v := ?vba2) rfl (by kernel_rfl) (by kernel_rfl) (by kernel_rfl) (fun _ _ _ h => h) (Or.inl ⟨by rfl, ?yba2⟩) (by assumption) ?_
            case yba2 => intro w hSw; (try dsimp only at hSw); go_simp <;> with_reducible rfl
            try simp only [List.getElem_toArray, List.getElem_cons_succ, List.getElem_cons_zero, Act.put, List.setIfInBounds_toArray, List.set_cons_zero, List.set_cons_succ]
            refine wpAnyH_take (i := 3) (v := ?vba3) rfl (by kernel_rfl) (by kernel_rfl) (by kernel_rfl) (fun _ _ _ h => h) (Or.inl ⟨by rfl, ?yba3⟩) (by assumption) ?_
            case yba3 => intro w hSw; (try dsimp only at hSw); go_simp <;> with_reducible rfl
            try simp only [List.getElem_toArray, List.getElem_cons_succ, List.getElem_cons_zero, Act.put, List.setIfInBounds_toArray, List.set_cons_zero, List.set_cons_succ]
            refine wpAnyH_take (i := 4) (v := ?vba4) rfl (by kernel_rfl) (by kernel_rfl) (by kernel_rfl) (fun _ _ _ h => h) (Or.inl ⟨by rfl, ?yba4⟩) (by assumption) ?_
            case yba4 => intro w hSw; (try dsimp only at hSw); go_simp <;> with_reducible rfl
            try simp only [List.getElem_toArray, List.getElem_cons_succ, List.getElem_cons_zero, Act.put, List.setIfInBounds_toArray, List.set_cons_zero, List.set_cons_succ]
            refine wpAnyH_take (i := 5) (v := ?vba5) rfl (by kernel_rfl) (by kernel_rfl) (by kernel_rfl) (fun _ _ _ h => h) (Or.inl ⟨by rfl, ?yba5⟩) (by assumption) ?_
            case yba5 => intro w hSw; (try dsimp only at hSw); go_simp <;> with_reducible rfl
            try simp only [List.getElem_toArray, List.getElem_cons_succ, List.getElem_cons_zero, Act.put, List.setIfInBounds_toArray, List.set_cons_zero, List.set_cons_succ]
            refine wpAnyH_take (i := 6) (v := ?vba6) rfl (by kernel_rfl) (by kernel_rfl) (by kernel_rfl) (fun _ _ _ h => h) (Or.inl ⟨by rfl, ?yba6⟩) (by assumption) ?_
            case yba6 => intro w hSw; (try dsimp only at hSw); go_simp <;> with_reducible rfl
            try simp only [List.getElem_toArray, List.getElem_cons_succ, List.getElem_cons_zero, Act.put, List.setIfInBounds_toArray, List.set_cons_zero, List.set_cons_succ]
            refine wpAnyH_ready (rs := [7]) (by kernel_rfl) (by simp) ?_
            refine AllReadyH.cons rfl (fun K hK => ?_) ?zba7
            case zba7 => exact AllReadyH.nil
            go_simp
            refine (LX.out _).mono ?_
            rintro e w9ba7 ⟨rfl, b9⟩
            refine hK.out _ _ (SK.out _ (bt hHeld.1 b9)) (fun hNew => ?_)
            clear hHeld
            have hHeld := hNew
            clear hNew hK K
            try simp only [List.getElem_toArray, List.getElem_cons_succ, List.getElem_cons_zero, Act.put, List.setIfInBounds_toArray, List.set_cons_zero, List.set_cons_succ]
            refine wpAnyH_done (by kernel_rfl) ?_ _
            have S2 := Lib.hid (hshr.out.keeps hHeld.1)
            have B2 := Lib.hid (bt hbel.out hHeld.1)
            rw [← FT.out] at S2 HM
            clear hHeld hshr
            go_wp2
            go_roundw
            case rel => exact ⟨j + 1, m, by omega, by go_num, ⟨aoL, capL, rfl⟩, HM, S2, B2⟩
            case measure => simp [intOf]; omega
          · rw [if_pos rfl] at FT
            go_wp2
            refine wp_region_held_drew (S := fun w' => Below wr.heap.size wr w' ∧ w'.cell? ⟨bb, oo + j * 5 + 1, none⟩ = some (.int .u32 (t : Int)) ∧ w'.cell? ⟨bb, oo + j * 5 + 2, none⟩ = some (.int .u8 (r : Int)) ∧ w'.cell? ⟨w.heap.size, 1, none⟩ = some (.int .u32 (t0 : Int)) ∧ w'.cell? ⟨w.heap.size, 2, none⟩ = some (.int .u8 (r0 : Int))) (by kernel_rfl) (SK.out _ (drew1 _)) (fun hHeld => ?_)
            refine wpAnyH_take (i := 0) (v := ?vbb0) rfl (by kernel_rfl) (by kernel_rfl) (by kernel_rfl) (fun _ _ _ h => h) (Or.inl ⟨by rfl, ?ybb0⟩) (by assumption) ?_
            case ybb0 => intro w hSw; (try dsimp only at hSw); go_simp <;> with_reducible rfl
            try simp only [List.getElem_toArray, List.getElem_cons_zero, Act.put, List.setIfInBounds_toArray, List.set_cons_zero, List.set_cons_succ]
            refine wpAnyH_take (i := 1) (v := ?vbb1) rfl (by kernel_rfl) (by kernel_rfl) (by kernel_rfl) (fun _ _ _ h => h) (Or.inl ⟨by rfl, ?ybb1⟩) (by assumption) ?_
            case ybb1 => intro w hSw; (try dsimp only at hSw); go_simp <;> with_reducible rfl
            try simp only [List.getElem_toArray, List.getElem_cons_succ, List.getElem_cons_zero, Act.put, List.setIfInBounds_toArray, List.set_cons_zero, List.set_cons_succ]
            refine wpAnyH_take (i := 2) (v := ?vbb2) rfl (by kernel_rfl) (by kernel_rfl) (by kernel_rfl) (fun _ _ _ h => h) (Or.inl ⟨by rfl, ?ybb2⟩) (by assumption) ?_
            case ybb2 => intro w hSw; (try dsimp only at hSw); go_simp <;> with_reducible rfl
            try simp only [List.getElem_toArray, List.getElem_cons_succ, List.getElem_cons_zero, Act.put, List.setIfInBounds_toArray, List.set_cons_zero, List.set_cons_succ]
            refine wpAnyH_take (i := 3) (v := ?vbb3) rfl (by kernel_rfl) (by kernel_rfl) (by kernel_rfl) (fun _ _ _ h => h) (Or.inl ⟨by rfl, ?ybb3⟩) (by assumption) ?_
            case ybb3 => intro w hSw; (try dsimp only at hSw); go_simp <;> with_reducible rfl
            try simp only [List.getElem_toArray, List.getElem_cons_succ, List.getElem_cons_zero, Act.put, List.setIfInBounds_toArray, List.set_cons_zero, List.set_cons_succ]
            refine wpAnyH_take (i := 4) (v := ?vbb4) rfl (by kernel_rfl) (by kernel_rfl) (by kernel_rfl) (fun _ _ _ h => h) (Or.inl ⟨by rfl, ?ybb4⟩) (by assumption) ?_
            case ybb4 => intro w hSw; (try dsimp only at hSw); go_simp <;> with_reducible rfl
            try simp only [List.getElem_toArray, List.getElem_cons_succ, List.getElem_cons_zero, Act.put, List.setIfInBounds_toArray, List.set_cons_zero, List.set_cons_succ]
            refine wpAnyH_take (i := 5) (v := ?vbb5) rfl (by kernel_rfl) (by kernel_rfl) (by kernel_rfl) (fun _ _ _ h => h) (Or.inl ⟨by rfl, ?ybb5⟩) (by assumption) ?_
            case ybb5 => intro w hSw; (try dsimp only at hSw); go_simp <;> with_reducible rfl
            try simp only [List.getElem_toArray, List.getElem_cons_succ, List.getElem_cons_zero, Act.put, List.setIfInBounds_toArray, List.set_cons_zero, List.set_cons_succ]
            refine wpAnyH_take (i := 6) (v := ?vbb6) rfl (by kernel_rfl) (by kernel_rfl) (by kernel_rfl) (fun _ _ _ h => h) (Or.inl ⟨by rfl, ?ybb6⟩) (by assumption) ?_
            case ybb6 => intro w hSw; (try dsimp only at hSw); go_simp <;> with_reducible rfl
            try simp only [List.getElem_toArray, List.getElem_cons_succ, List.getElem_cons_zero, Act.put, List.setIfInBounds_toArray, List.set_cons_zero, List.set_cons_succ]
            refine wpAnyH_ready (rs := [7]) (by kernel_rfl) (by simp) ?_
            refine AllReadyH.cons rfl (fun K hK => ?_) ?zbb7
            case zbb7 => exact AllReadyH.nil
            go_simp
            refine (LX.out _).mono ?_
            rintro e w9bb7 ⟨rfl, b9⟩
            refine hK.out _ _ (SK.out _ (bt hHeld.1 b9)) (fun hNew => ?_)
            clear hHeld
            have hHeld := hNew
            clear hNew hK K
            try simp only [List.getElem_toArray, List.getElem_cons_succ, List.getElem_cons_zero, Act.put, List.setIfInBounds_toArray, List.set_cons_zero, List.set_cons_succ]
            refine wpAnyH_done (by kernel_rfl) ?_ _
            obtain ⟨z0, z1, z2, z3, z4⟩ := (F1.out.keeps hHeld.1).2
            have S2 := Lib.hid (hshr.out.keeps hHeld.1)
            have B2 := Lib.hid (bt hbel.out hHeld.1)
            have B3 := Lib.hid (bt hbel.out hHeld.1)
            have hll := filter_take_len (P := fun x => decide (lessO o x)) (l := l) j
            have HZ := Lib.hid B3.out.size
            have hl1 := HL.out
            have hl2 := HN.out
            have hl3 := HL1.out.1
            have HMM := Lib.hid (show (m + 1) * 48 ≤ 140737488355328 ∧ m ≤ 1000000000000 by have := HM.out; rw [List.length_append] at this; omega)
            clear hHeld hshr hll hl1 hl2 hl3 SK F1
            go_wp2_with (at_builtin; refine wpList_append_enc (E := opE) Try.underlying22 op_info rfl (w0 := wb) (wp := w9bb7) (by rfl) (.tmp 52) (.tmp 57) (by rfl) (by rfl) S2.out (G := w9bb7.heap.size) (by rfl) rfl (c := #[.int .u8 (k : Int), .int .u32 (t : Int), .int .u8 (r : Int), .slice uo nu uc, .int .i64 p]) INN.out HM.out HMM.out.1 HMM.out.2 HZ.out ?_)
            rintro v6 w6 s6 va vc rfl b6
            have S6 := Lib.hid s6
            rw [← FT.out] at S6
            have M6 : Hid (m + 1 = (L1 ++ (l.take (j + 1)).filter (fun x => decide (lessO o x))).length) := by unfold Hid; rw [FT.out, ← List.append_assoc, List.length_append, ← HM.out]; rfl
            have B6 := Lib.hid (B3.out.trans b6)
            clear s6 b6 S2
            go_wp2
            go_roundw
            case rel => exact ⟨j + 1, m + 1, by omega, by go_num, ⟨va, vc, rfl⟩, M6, S6, B6⟩
            case measure => simp [intOf]; omega
        · have q3 : decide (j < n) = false := by simpa using hjn
          have hkk : l.take j = l := List.take_of_length_le (by have := HN.out; omega)
          rw [hkk] at hshr
          clear hkk
          go_wp2
          go_ret
          exact ⟨_, rfl, by rw [HL1.out.2]; exact hshr.out.seq hbel.out, BW.out⟩
end Go.Proofs.Ytocjkegkgnbboaa.Bags

/- octavoref11.Both, Add, Join: what each answers. Conditions: the slices' cells are operations; Both's: not too many. -/
namespace Go.Proofs.Ytocjkegkgnbboaa.Bags
open Go.RowKit Go.WideShapes Stamp Go.Proofs.Ytocjkegkgnbboaa.Place Ops Codes
attribute [local go_sem ↓] Go.wp_at_zero Go.wp_at_succ
attribute [local go_sem] yielded_undef


set_option maxRecDepth 100000 in
set_option maxHeartbeats 4000000 in
theorem refBoth_any {u0 v0 : Value} {a b : List Opn} {w : World} (ha : OpL w u0 a) (hb : OpL w v0 b) (hl : a.length + b.length ≤ 1000000) :
    Calls Try.prog 51 #[u0, v0] w fun e w' => ∃ v', e = .returned v' ∧ OpL w' v' (bothO a b) ∧ Below w.heap.size w w' := by
  obtain ⟨ao, cap, rfl⟩ := hb.shape
  obtain ⟨n, hn⟩ : ∃ n, n = b.length := ⟨_, rfl⟩
  have hnm : n ≤ 1000000 := by omega
  have HV : Hid (∀ W : World, Below w.heap.size w W → OpL W (.slice ao b.length cap) b) := fun W h => hb.keeps h
  have HN := Lib.hid hn
  have HL := Lib.hid hl
  rw [← hn]
  have S0 : Hid (OpL w u0 (bothO a (b.take 0))) := ha
  have B0 : Hid (Below w.heap.size w w) := Below.refl _ _
  clear ha hb hn hl
  go_enter Try.func51, Try.ntmps51
  go_wp2
  go_loopw [0, 5] (fun v i wr => ∃ j : Nat, j ≤ n ∧ i = .int .i64 (j : Int) ∧ Hid (OpL wr v (bothO a (b.take j))) ∧ Hid (Below w.heap.size w wr)) (fun _ i _ => n - (intOf i).toNat)
  case atStart => exact ⟨0, by omega, rfl, S0, B0⟩
  case round =>
    clear S0 B0
    obtain ⟨j, hj, rfl, hown, hbel⟩ := hrel
    by_cases hjn : j < n
    rotate_left
    · have q3 : decide (j < n) = false := by simpa using hjn
      have hkk : b.take j = b := List.take_of_length_le (by have := HN.out; omega)
      rw [hkk] at hown
      clear hkk
      go_wp2
      go_ret
      exact ⟨_, rfl, hown.out, hbel.out⟩
    have q3 : decide (j < n) = true := by simpa using hjn
    have q4 : (0 : Int) ≤ (j : Int) := by omega
    have q5 : (j : Int) < (n : Int) := by omega
    have hjl : j < b.length := by rw [← HN.out]; exact hjn
    obtain ⟨bb, oo, u, e, hbb, hru, h0, h1, h2, h3, h4⟩ := opl_at (HV.out wr hbel.out) j hjl
    subst e
    obtain ⟨x, hx⟩ : ∃ x, x = b[j]'hjl := ⟨_, rfl⟩
    rw [← hx] at hru h0 h1 h2 h4
    have HO : Hid (∀ v : Value, opv x v = .agg #[.int .u8 (x.k : Int), .int .u32 (x.t : Int), .int .u8 (x.r : Int), v, .int .i64 x.p]) := fun v => rfl
    have FT : Hid (bothO a (b.take (j + 1)) = withO (bothO a (b.take j)) x) := by unfold Hid; rw [List.take_succ_eq_append_getElem hjl, bothO_snoc, hx]
    have WI := refWith_any hown.out hru (by have h1 := (bothO_le (b.take j) a).2; rw [List.length_take] at h1; have := HL.out; omega)
    rw [← FT.out] at WI
    have WJ := Lib.hid WI
    clear WI hx hru
    obtain ⟨k, hk⟩ : ∃ z, x.k = z := ⟨_, rfl⟩
    obtain ⟨t, ht⟩ : ∃ z, x.t = z := ⟨_, rfl⟩
    obtain ⟨r, hr⟩ : ∃ z, x.r = z := ⟨_, rfl⟩
    obtain ⟨p, hp⟩ : ∃ z, x.p = z := ⟨_, rfl⟩
    rw [hk, ht, hr, hp] at HO
    rw [hk] at h0
    rw [ht] at h1
    rw [hr] at h2
    rw [hp] at h4
    simp only [HO.out] at WJ
    clear hk ht hr hp HO hown FT hbb
    go_wp2_with fail
    refine WJ.out.mono ?_
    rintro e w5 ⟨v5, rfl, o5, b5⟩
    have O5 := Lib.hid o5
    have B5 := Lib.hid (bt hbel.out b5)
    clear o5 b5 WJ h0 h1 h2 h3 h4
    go_wp2
    go_roundw
    case rel => exact ⟨j + 1, by omega, by go_num, O5, B5⟩
    case measure => simp [intOf]; omega

/-- Operations, and an error. -/
def DoneL (L : List Opn) (x : Int) (w : World) (e : Ending) (w' : World) : Prop := ∃ v, e = .returned (.tuple #[v, .int .i64 x]) ∧ OpL w' v L ∧ Below w.heap.size w w'

set_option maxRecDepth 100000 in
set_option maxHeartbeats 4000000 in
theorem refAdd_any {v u0 : Value} {l : List Opn} {o : Opn} {w : World} (hv : OpL w v l) (hu : Runs w u0 o.pl) :
    Calls Try.prog 21 #[v, opv o u0] w (DoneL (addL l o) (addE l o) w) := by
  have ML : Hid (∀ W : World, Below w.heap.size w W → Calls Try.prog 47 #[v] W fun e w' => e = .returned (.bool (bagB l)) ∧ Below W.heap.size W w') := fun W h => refMayL_any (hv.keeps h)
  have MO : Hid (∀ W : World, Below w.heap.size w W → Calls Try.prog 48 #[opv o u0] W fun e w' => e = .returned (.bool (mayO o)) ∧ Below W.heap.size W w') := fun W h => refMayO_any (hu.keeps h)
  have WI : Hid (Bag l → ∀ W : World, Below w.heap.size w W → Calls Try.prog 49 #[v, opv o u0] W fun e w' => ∃ v', e = .returned v' ∧ OpL w' v' (withO l o) ∧ Below W.heap.size W w') := fun hb W h => refWith_any (hv.keeps h) (hu.keeps h) (by have := hb.1; omega)
  obtain ⟨uo0, uc0, rfl⟩ := hu.shape
  obtain ⟨nu0, hnu0⟩ : ∃ n, n = o.pl.length := ⟨_, rfl⟩
  rw [← hnu0] at MO WI ⊢
  have HO0 : Hid (∀ v : Value, opv o v = .agg #[.int .u8 (o.k : Int), .int .u32 (o.t : Int), .int .u8 (o.r : Int), v, .int .i64 o.p]) := fun v => rfl
  obtain ⟨k0, hk0⟩ : ∃ z, o.k = z := ⟨_, rfl⟩
  obtain ⟨t0, ht0⟩ : ∃ z, o.t = z := ⟨_, rfl⟩
  obtain ⟨r0, hr0⟩ : ∃ z, o.r = z := ⟨_, rfl⟩
  obtain ⟨p0, hp0⟩ : ∃ z, o.p = z := ⟨_, rfl⟩
  rw [hk0, ht0, hr0, hp0] at HO0
  simp only [HO0.out] at MO WI ⊢
  have B0 : Hid (Below w.heap.size w (w.alloc (.cells #[.int .u8 (k0 : Int), .int .u32 (t0 : Int), .int .u8 (r0 : Int), .slice uo0 nu0 uc0, .int .i64 p0] 30))) := (Below.refl _ _).alloc (Nat.le_refl _) _
  have X0 : Hid ((w.alloc (.cells #[.int .u8 (k0 : Int), .int .u32 (t0 : Int), .int .u8 (r0 : Int), .slice uo0 nu0 uc0, .int .i64 p0] 30)).heap[w.heap.size]? = some (.cells #[.int .u8 (k0 : Int), .int .u32 (t0 : Int), .int .u8 (r0 : Int), .slice uo0 nu0 uc0, .int .i64 p0] 30)) := blk_new rfl
  have HC := Lib.hid (addE_cases l o)
  have HLL : Hid (addE l o = 0 → addL l o = withO l o) := fun h => by unfold addL; rw [if_pos h]
  have HNN : Hid (addE l o ≠ 0 → addL l o = []) := fun h => by unfold addL; rw [if_neg h]
  have HBB := Lib.hid (bagB_iff l)
  obtain ⟨E, hE⟩ : ∃ E, addE l o = E := ⟨_, rfl⟩
  obtain ⟨R, hR⟩ : ∃ E, addL l o = E := ⟨_, rfl⟩
  obtain ⟨bl, hbl⟩ : ∃ b, bagB l = b := ⟨_, rfl⟩
  obtain ⟨mo, hmo⟩ : ∃ b, mayO o = b := ⟨_, rfl⟩
  rw [hE] at HC HLL HNN ⊢
  rw [hR] at HLL HNN ⊢
  rw [hbl] at ML HBB
  rw [hmo] at MO HC
  clear hv hu hnu0 hk0 ht0 hr0 hp0 HO0 hE hR hbl hmo
  go_enter Try.func21, Try.ntmps21
  go_wp2_with fail
  refine (ML.out _ B0.out).mono ?_
  rintro e w1 ⟨rfl, b1⟩
  have B1 := Lib.hid (bt B0.out b1)
  have X1 := Lib.hid (blk_below b1 X0.out)
  clear b1 B0 X0 ML
  cases bl
  · obtain ⟨rfl, -⟩ | ⟨-, h, -⟩ | ⟨-, h, -⟩ := HC.out
    · obtain rfl := HNN.out (by decide)
      go_wp2
      go_ret2
      exact ⟨_, rfl, Seq.nil _ _, B1.out⟩
    · have := HBB.out.2 h; cases this
    · have := HBB.out.2 h; cases this
  have hb := HBB.out.1 rfl
  have WI2 := Lib.hid (WI.out hb)
  have HB2 := Lib.hid hb
  clear hb WI HBB
  obtain ⟨z0, z1, z2, z3, z4⟩ := cells5 X1.out
  go_wp2_with fail
  refine (MO.out _ B1.out).mono ?_
  rintro e w2 ⟨rfl, b2⟩
  have B2 := Lib.hid (bt B1.out b2)
  have X2 := Lib.hid (blk_below b2 X1.out)
  clear b2 B1 X1 MO z0 z1 z2 z3 z4
  cases mo
  · obtain ⟨rfl, -⟩ | ⟨-, -, h, -⟩ | ⟨-, -, h, -⟩ := HC.out
    · obtain rfl := HNN.out (by decide)
      go_wp2
      go_ret2
      exact ⟨_, rfl, Seq.nil _ _, B2.out⟩
    · cases h
    · cases h
  obtain ⟨z0, z1, z2, z3, z4⟩ := cells5 X2.out
  go_wp2_with fail
  refine (WI2.out _ B2.out).mono ?_
  rintro e w3 ⟨v3, rfl, o3, b3⟩
  have B3 := Lib.hid (bt B2.out b3)
  have O3 := Lib.hid o3
  obtain ⟨ao, cap, rfl⟩ := o3.shape
  obtain ⟨m, hm⟩ : ∃ m, m = (withO l o).length := ⟨_, rfl⟩
  have HM := Lib.hid hm
  rw [← hm] at O3 HC ⊢
  clear b3 o3 B2 X2 WI2 z0 z1 z2 z3 z4 hm
  obtain ⟨-, h⟩ | ⟨rfl, -, -, h⟩ | ⟨rfl, -, -, h⟩ := HC.out
  · exact absurd ⟨HB2.out, trivial⟩ h
  · have q1 : decide (1024 < m) = true := decide_eq_true h
    have q2 : decide ((1024 : Int) < (m : Int)) = true := decide_eq_true (by omega)
    obtain rfl := HNN.out (by decide)
    go_wp2
    go_ret2
    exact ⟨_, rfl, Seq.nil _ _, B3.out⟩
  · have q1 : decide (1024 < m) = false := decide_eq_false (by omega)
    have q2 : decide ((1024 : Int) < (m : Int)) = false := decide_eq_false (by omega)
    obtain rfl := HLL.out rfl
    go_wp2
    go_ret2
    exact ⟨_, rfl, O3.out, B3.out⟩

set_option maxRecDepth 100000 in
set_option maxHeartbeats 4000000 in
theorem refJoin_any {u0 v0 : Value} {a b : List Opn} {w : World} (ha : OpL w u0 a) (hb : OpL w v0 b) :
    Calls Try.prog 23 #[u0, v0] w (DoneL (joinO a b) (joinE a b) w) := by
  have ML : Hid (∀ W : World, Below w.heap.size w W → Calls Try.prog 47 #[u0] W fun e w' => e = .returned (.bool (bagB a)) ∧ Below W.heap.size W w') := fun W h => refMayL_any (ha.keeps h)
  have MO : Hid (∀ W : World, Below w.heap.size w W → Calls Try.prog 47 #[v0] W fun e w' => e = .returned (.bool (bagB b)) ∧ Below W.heap.size W w') := fun W h => refMayL_any (hb.keeps h)
  have WI : Hid (Bag a → Bag b → ∀ W : World, Below w.heap.size w W → Calls Try.prog 51 #[u0, v0] W fun e w' => ∃ v', e = .returned v' ∧ OpL w' v' (bothO a b) ∧ Below W.heap.size W w') := fun h1 h2 W h => refBoth_any (ha.keeps h) (hb.keeps h) (by have := h1.1; have := h2.1; omega)
  have HC := Lib.hid (joinE_cases a b)
  have HLL : Hid (joinE a b = 0 → joinO a b = bothO a b) := fun h => by unfold joinO; rw [if_pos h]
  have HNN : Hid (joinE a b ≠ 0 → joinO a b = []) := fun h => by unfold joinO; rw [if_neg h]
  have HBB := Lib.hid (bagB_iff a)
  have HBC := Lib.hid (bagB_iff b)
  obtain ⟨E, hE⟩ : ∃ E, joinE a b = E := ⟨_, rfl⟩
  obtain ⟨R, hR⟩ : ∃ E, joinO a b = E := ⟨_, rfl⟩
  obtain ⟨bl, hbl⟩ : ∃ z, bagB a = z := ⟨_, rfl⟩
  obtain ⟨mo, hmo⟩ : ∃ z, bagB b = z := ⟨_, rfl⟩
  rw [hE] at HC HLL HNN ⊢
  rw [hR] at HLL HNN ⊢
  rw [hbl] at ML HBB
  rw [hmo] at MO HBC
  have B0 : Hid (Below w.heap.size w w) := Below.refl _ _
  clear ha hb hE hR hbl hmo
  go_enter Try.func23, Try.ntmps23
  go_wp2_with fail
  refine (ML.out _ B0.out).mono ?_
  rintro e w1 ⟨rfl, b1⟩
  have B1 := Lib.hid b1
  clear b1 B0 ML
  cases bl
  · obtain ⟨rfl, -⟩ | ⟨-, h, -⟩ | ⟨-, h, -⟩ := HC.out
    · obtain rfl := HNN.out (by decide)
      go_wp2
      go_ret2
      exact ⟨_, rfl, Seq.nil _ _, B1.out⟩
    · have := HBB.out.2 h; cases this
    · have := HBB.out.2 h; cases this
  have HB2 := Lib.hid (HBB.out.1 rfl)
  go_wp2_with fail
  refine (MO.out _ B1.out).mono ?_
  rintro e w2 ⟨rfl, b2⟩
  have B2 := Lib.hid (bt B1.out b2)
  clear b2 B1 MO
  cases mo
  · obtain ⟨rfl, -⟩ | ⟨-, -, h, -⟩ | ⟨-, -, h, -⟩ := HC.out
    · obtain rfl := HNN.out (by decide)
      go_wp2
      go_ret2
      exact ⟨_, rfl, Seq.nil _ _, B2.out⟩
    · have := HBC.out.2 h; cases this
    · have := HBC.out.2 h; cases this
  have HB3 := Lib.hid (HBC.out.1 rfl)
  have WI2 := Lib.hid (WI.out HB2.out HB3.out)
  clear WI HBB HBC
  go_wp2_with fail
  refine (WI2.out _ B2.out).mono ?_
  rintro e w3 ⟨v3, rfl, o3, b3⟩
  have B3 := Lib.hid (bt B2.out b3)
  have O3 := Lib.hid o3
  obtain ⟨ao, cap, rfl⟩ := o3.shape
  obtain ⟨m, hm⟩ : ∃ m, m = (bothO a b).length := ⟨_, rfl⟩
  rw [← hm] at O3 HC ⊢
  clear b3 o3 B2 WI2 hm
  obtain ⟨-, h⟩ | ⟨rfl, -, -, h⟩ | ⟨rfl, -, -, h⟩ := HC.out
  · exact absurd ⟨HB2.out, HB3.out⟩ h
  · have q1 : decide (1024 < m) = true := decide_eq_true h
    have q2 : decide ((1024 : Int) < (m : Int)) = true := decide_eq_true (by omega)
    obtain rfl := HNN.out (by decide)
    go_wp2
    go_ret2
    exact ⟨_, rfl, Seq.nil _ _, B3.out⟩
  · have q1 : decide (1024 < m) = false := decide_eq_false (by omega)
    have q2 : decide ((1024 : Int) < (m : Int)) = false := decide_eq_false (by omega)
    obtain rfl := HLL.out rfl
    go_wp2
    go_ret2
    exact ⟨_, rfl, O3.out, B3.out⟩
end Go.Proofs.Ytocjkegkgnbboaa.Bags

/- Slices of spans: what a slice value holds. Conditions: none. -/
namespace Go.Proofs.Ytocjkegkgnbboaa
open Go.RowKit Go.WideShapes Spans

/-- Spans as cells. -/
def sps : List Sp → List Value
  | [] => []
  | a :: l => .int .u32 (a.f : Int) :: .int .u32 (a.t : Int) :: sps l
theorem sps_len : ∀ l : List Sp, (sps l).length = l.length * 2
  | [] => rfl
  | a :: l => by simp [sps, sps_len l]; omega
theorem sps_append : ∀ l m : List Sp, sps (l ++ m) = sps l ++ sps m
  | [], m => rfl
  | a :: l, m => by simp [sps, sps_append l m]
theorem sps_get : ∀ (l : List Sp) (j : Nat), j < l.length → (sps l)[j * 2]? = some (.int .u32 ((l.getD j zsp).f : Int)) ∧ (sps l)[j * 2 + 1]? = some (.int .u32 ((l.getD j zsp).t : Int))
  | [], j, h => by simp at h
  | a :: l, 0, _ => by simp [sps]
  | a :: l, j + 1, h => by
    have := sps_get l j (by simpa using h)
    rw [show (j + 1) * 2 = j * 2 + 1 + 1 by omega]
    simpa [sps] using this
theorem sps_oneCell : ∀ l : List Sp, ∀ u ∈ sps l, u.oneCell' = true
  | [], u, h => by simp [sps] at h
  | a :: l, u, h => by
    simp only [sps, List.mem_cons] at h
    rcases h with rfl | rfl | h
    · rfl
    · rfl
    · exact sps_oneCell l u h
/-- A slice of spans. -/
def Sps (w : World) (v : Value) (l : List Sp) : Prop := Sees w v 2 l.length (sps l)
theorem Sps.keeps {w w' : World} {v : Value} {l : List Sp} (h : Sps w v l) (hb : Below w.heap.size w w') : Sps w' v l := Sees.keeps h hb
theorem Sps.nil (w : World) : Sps w (.slice none 0 0) [] := Sees.nil w 2
theorem Sps.shape {w : World} {v : Value} {l : List Sp} (h : Sps w v l) : ∃ ao cap, v = .slice ao l.length cap := Sees.shape h
theorem Sps.at {w : World} {ao : Option Addr} {m cap : Nat} {l : List Sp} (h : Sps w (.slice ao m cap) l) (k : Nat) (hk : k < l.length) :
    ∃ b off, ao = some ⟨b, off, none⟩ ∧ b < w.heap.size ∧ w.cell? ⟨b, off + k * 2, none⟩ = some (.int .u32 ((l.getD k zsp).f : Int)) ∧ w.cell? ⟨b, off + k * 2 + 1, none⟩ = some (.int .u32 ((l.getD k zsp).t : Int)) := by
  obtain ⟨b, off, h1, h2, h3⟩ := Sees.at h (k * 2) (by rw [sps_len]; omega)
  have e := sps_get l k hk
  exact ⟨b, off, h1, h2, (h3 (k * 2) (by rw [sps_len]; omega)).trans e.1, (h3 (k * 2 + 1) (by rw [sps_len]; omega)).trans e.2⟩
theorem Sps.own {w : World} {base : Nat} {e : TypeId} {v : Value} {n : Nat} {l : List Sp} (h : w.ownsRow base e 2 v n (sps l)) : Sps w v l := by
  have h1 := h.1
  rw [sps_len] at h1
  obtain rfl : l.length = n := by omega
  exact Sees.own h
theorem sps_new (w : World) (l : List Sp) (n : Nat) (hn : n = l.length) (hl : l.length ≤ 1000000) (e : TypeId) (fr : Nat × Nat) : Sps (w.alloc (.cells (sps l).toArray e fr)) (.slice (some ⟨w.heap.size, 0, none⟩) n n) l := by
  subst hn
  exact sees_new w (sps l) 2 l.length (sps_len l) hl _ _

theorem span_info : (Try.prog.info? 33).map (fun i => (i.zero, i.size, i.bytes)) = some (some (.agg #[.int .u32 0, .int .u32 0]), 2, 8) := by kernel_rfl
end Go.Proofs.Ytocjkegkgnbboaa

/- Slices of a replica and its spans: what a slice value holds, a slice of spans in each element. Conditions: none. -/
namespace Go.Proofs.Ytocjkegkgnbboaa
open Go.RowKit Go.WideShapes Spans Clocks

/-- The cells hold the clock: a replica, and what reads as its spans. -/
def Hold (w : World) : List Value → List Tm → Prop
  | [], [] => True
  | a :: b :: cs, x :: c => a = .int .u8 (x.1 : Int) ∧ x.1 < 256 ∧ Sps w b x.2 ∧ Hold w cs c
  | _, _ => False
theorem Hold.len : ∀ {w : World} {cs : List Value} {c : List Tm}, Hold w cs c → cs.length = c.length * 2
  | _, [], [], _ => rfl
  | w, a :: b :: cs, x :: c, h => by have := Hold.len h.2.2.2; simp; omega
theorem Hold.keeps : ∀ {w w' : World} {cs : List Value} {c : List Tm}, Hold w cs c → Below w.heap.size w w' → Hold w' cs c
  | _, _, [], [], _, _ => trivial
  | _, _, _ :: _ :: _, _ :: _, h, hb => ⟨h.1, h.2.1, h.2.2.1.keeps hb, Hold.keeps h.2.2.2 hb⟩
theorem Hold.append : ∀ {w : World} {cs ds : List Value} {c d : List Tm}, Hold w cs c → Hold w ds d → Hold w (cs ++ ds) (c ++ d)
  | _, [], _, [], _, _, h => h
  | _, _ :: _ :: _, _, _ :: _, _, h, h2 => ⟨h.1, h.2.1, h.2.2.1, Hold.append h.2.2.2 h2⟩
theorem Hold.one {w : World} {u : Value} {x : Tm} (hr : x.1 < 256) (hu : Sps w u x.2) : Hold w [.int .u8 (x.1 : Int), u] [x] := ⟨rfl, hr, hu, trivial⟩
theorem Hold.get : ∀ {w : World} {cs : List Value} {c : List Tm} (k : Nat), Hold w cs c → k < c.length →
    cs[k * 2]? = some (.int .u8 ((c.getD k (0, [])).1 : Int)) ∧ (c.getD k (0, [])).1 < 256 ∧ ∃ u, cs[k * 2 + 1]? = some u ∧ Sps w u (c.getD k (0, [])).2
  | _, _, [], _, _, hk => by simp at hk
  | _, [], _ :: _, _, h, _ => by simp [Hold] at h
  | _, [_], _ :: _, _, h, _ => by simp [Hold] at h
  | w, a :: b :: cs, x :: c, 0, h, _ => by
    obtain ⟨rfl, h1, h2, _⟩ := h
    exact ⟨by simp, by simpa using h1, b, by simp, by simpa using h2⟩
  | w, a :: b :: cs, x :: c, k + 1, h, hk => by
    have := Hold.get k h.2.2.2 (by simpa using hk)
    rw [show (k + 1) * 2 = k * 2 + 1 + 1 by omega]
    simpa using this
/-- A slice of replicas' spans. -/
def Tms (w : World) (v : Value) (c : List Tm) : Prop := ∃ cs, Sees w v 2 c.length cs ∧ Hold w cs c
theorem Tms.keeps {w w' : World} {v : Value} {c : List Tm} (h : Tms w v c) (hb : Below w.heap.size w w') : Tms w' v c := by
  obtain ⟨cs, h1, h2⟩ := h
  exact ⟨cs, h1.keeps hb, h2.keeps hb⟩
theorem Tms.nil (w : World) : Tms w (.slice none 0 0) [] := ⟨[], Sees.nil w 2, trivial⟩
theorem Tms.shape {w : World} {v : Value} {c : List Tm} (h : Tms w v c) : ∃ ao cap, v = .slice ao c.length cap := by
  obtain ⟨cs, h1, _⟩ := h
  exact Sees.shape h1
theorem Tms.max {w : World} {v : Value} {c : List Tm} (h : Tms w v c) : c.length ≤ 9223372036854775807 := by
  obtain ⟨cs, h1, _⟩ := h
  exact Sees.max h1
theorem Tms.at {w : World} {ao : Option Addr} {m cap : Nat} {c : List Tm} (h : Tms w (.slice ao m cap) c) (k : Nat) (hk : k < c.length) :
    ∃ b off u, ao = some ⟨b, off, none⟩ ∧ b < w.heap.size ∧ w.cell? ⟨b, off + k * 2, none⟩ = some (.int .u8 ((c.getD k (0, [])).1 : Int)) ∧ w.cell? ⟨b, off + k * 2 + 1, none⟩ = some u ∧
      (c.getD k (0, [])).1 < 256 ∧ Sps w u (c.getD k (0, [])).2 := by
  obtain ⟨cs, h1, h2⟩ := h
  have hl := h2.len
  obtain ⟨b, off, e1, e2, e3⟩ := Sees.at h1 (k * 2) (by omega)
  obtain ⟨g1, g2, u, g3, g4⟩ := h2.get k hk
  exact ⟨b, off, u, e1, e2, (e3 (k * 2) (by omega)).trans g1, (e3 (k * 2 + 1) (by omega)).trans g3, g2, g4⟩

/-- The same, and each element's spans are of the call's own. -/
def HoldO (w : World) (base : Nat) : List Value → List Tm → Prop
  | [], [] => True
  | a :: b :: cs, x :: c => a = .int .u8 (x.1 : Int) ∧ x.1 < 256 ∧ w.ownsRow base 33 2 b x.2.length (sps x.2) ∧ HoldO w base cs c
  | _, _ => False
theorem HoldO.hold : ∀ {w : World} {base : Nat} {cs : List Value} {c : List Tm}, HoldO w base cs c → Hold w cs c
  | _, _, [], [], _ => trivial
  | _, _, _ :: _ :: _, _ :: _, h => ⟨h.1, h.2.1, Sps.own h.2.2.1, HoldO.hold h.2.2.2⟩
theorem HoldO.keeps : ∀ {w w' : World} {base : Nat} {cs : List Value} {c : List Tm}, HoldO w base cs c → Below w.heap.size w w' → HoldO w' base cs c
  | _, _, _, [], [], _, _ => trivial
  | _, _, _, _ :: _ :: _, _ :: _, h, hb => ⟨h.1, h.2.1, own_stays h.2.2.1 hb, HoldO.keeps h.2.2.2 hb⟩
theorem HoldO.append : ∀ {w : World} {base : Nat} {cs ds : List Value} {c d : List Tm}, HoldO w base cs c → HoldO w base ds d → HoldO w base (cs ++ ds) (c ++ d)
  | _, _, [], _, [], _, _, h => h
  | _, _, _ :: _ :: _, _, _ :: _, _, h, h2 => ⟨h.1, h.2.1, h.2.2.1, HoldO.append h.2.2.2 h2⟩
/-- A clock of the call's own, its spans too. -/
def OwnC (w : World) (base : Nat) (v : Value) (c : List Tm) : Prop := ∃ cs, w.ownsRow base 36 2 v c.length cs ∧ HoldO w base cs c
theorem OwnC.tms {w : World} {base : Nat} {v : Value} {c : List Tm} (h : OwnC w base v c) : Tms w v c := by
  obtain ⟨cs, h1, h2⟩ := h
  exact ⟨cs, Sees.own h1, h2.hold⟩
theorem OwnC.keeps {w w' : World} {base : Nat} {v : Value} {c : List Tm} (h : OwnC w base v c) (hb : Below w.heap.size w w') : OwnC w' base v c := by
  obtain ⟨cs, h1, h2⟩ := h
  exact ⟨cs, own_stays h1 hb, h2.keeps hb⟩
theorem times_info : (Try.prog.info? 36).map (fun i => (i.zero, i.size, i.bytes)) = some (some (.agg #[.int .u8 0, .slice none 0 0]), 2, 32) := by kernel_rfl
end Go.Proofs.Ytocjkegkgnbboaa
