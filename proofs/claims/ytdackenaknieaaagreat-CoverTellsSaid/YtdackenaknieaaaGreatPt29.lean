/- octavoref14.Counting, asked, Homed, Counts, Known, Version: what each answers. Conditions: the slices' cells are operations. -/
import Derived.Test.YtdackenaknieaaaGreatPt27
import Derived.Test.YtdackenaknieaaaGreatPt28
import Derived.Test.YtdackenaknieaaaGreatPt16
import Derived.Test.YtdackenaknieaaaGreatPt11
import Derived.Test.YtdackenaknieaaaGreatPt12

namespace Go.Proofs.YtdackenaknieaaaGreat.Covers
open Go.RowKit Go.WideShapes Stamp Go.Proofs.YtdackenaknieaaaGreat.Place Ops Codes Bags Marks Homes
attribute [local go_sem ↓] Go.wp_at_zero Go.wp_at_succ
attribute [local go_sem] yielded_undef

set_option maxRecDepth 100000 in
set_option maxHeartbeats 16000000 in
theorem refCounting_any {v u0 : Value} {l live : List Opn} (s : Id) {w : World} (hv : OpL w v l) (hu : OpL w u0 live) (hl : l.length ≤ 1000000) (hm : ∀ o ∈ l, mayO o = true) (hmm : ∀ o ∈ live, mayO o = true) :
    Calls Tryz.prog 43 #[v, u0, .agg #[.int .u32 (s.t : Int), .int .u8 (s.r : Int)]] w fun e w' => ∃ v', e = .returned v' ∧ OpL w' v' (countL l live s) ∧ Below w.heap.size w w' := by
  obtain ⟨ao, cap, rfl⟩ := hv.shape
  obtain ⟨wl, hwl⟩ : ∃ x, x = w.alloc (.cells #[.int .u32 (s.t : Int), .int .u8 (s.r : Int)] 28) := ⟨_, rfl⟩
  have B0 : Hid (Below w.heap.size w wl) := by rw [hwl]; exact (Below.refl _ _).alloc (Nat.le_refl _) _
  have P0 : Hid (Pair wl w.heap.size (.int .u32 (s.t : Int)) (.int .u8 (s.r : Int))) := by rw [hwl]; exact pair_new _ _ _ _
  have HW := Lib.hid hwl
  have IN : Hid (Calls Tryz.prog 42 #[.slice ao l.length cap, u0, .agg #[.int .u32 (s.t : Int), .int .u8 (s.r : Int)]] wl fun e w' => ∃ v', e = .returned v' ∧ OpL w' v' (inL l live s) ∧ Below wl.heap.size wl w') := refIn14_any s (hv.keeps B0.out) (hu.keeps B0.out) hl hm hmm
  have hal : (inL l live s).length ≤ 1000000 := Nat.le_trans (inL_sub l live s).length_le hl
  have IS : Hid (∀ (x : Opn) (y : Value) (W : World), x ∈ inL l live s → Runs W y x.pl → Below w.heap.size w W → Calls Tryz.prog 78 #[.slice ao l.length cap, u0, .agg #[.int .u32 (s.t : Int), .int .u8 (s.r : Int)], opv x y] W fun e w' => e = .returned (.bool (isB l live s x)) ∧ Below W.heap.size W w') := fun x y W hx hy h => refIs14_any s (hv.keeps h) (hu.keeps h) hy (hm x (mem_inL.1 hx).1) hmm
  obtain ⟨au, cu, rfl⟩ := hu.shape
  unfold countL
  obtain ⟨PB, hPB⟩ : ∃ PB : Opn → Bool, isB l live s = PB := ⟨_, rfl⟩
  rw [hPB] at IS ⊢
  obtain ⟨A, hA⟩ : ∃ A, inL l live s = A := ⟨_, rfl⟩
  rw [hA] at IN IS hal ⊢
  have M0 : Hid (0 = ((A.take 0).filter PB).length) := rfl
  obtain ⟨ts, rs, hts, hrs⟩ := s
  simp only at P0 HW IN IS ⊢
  obtain ⟨nl, hnl⟩ : ∃ nl, live.length = nl := ⟨_, rfl⟩
  obtain ⟨n0, hn0⟩ : ∃ n0, l.length = n0 := ⟨_, rfl⟩
  rw [hnl, hn0] at IN IS ⊢
  obtain ⟨n, hn⟩ : ∃ n, n = A.length := ⟨_, rfl⟩
  have hnm : n ≤ 1000000 := by omega
  have HN := Lib.hid hn
  clear hv hu hl hm hmm hwl hPB hA hnl hn0 hal hn
  go_enter Tryz.func43, Tryz.ntmps43
  obtain ⟨_, d0, d1⟩ := P0.out
  go_wp2_with fail
  rw [← HW.out]
  refine IN.out.mono ?_
  rintro e wk ⟨va, rfl, ol, bk⟩
  have BK := Lib.hid (bt B0.out bk)
  have PK := Lib.hid (P0.out.keeps bk)
  have HV : Hid (∀ W : World, Below wk.heap.size wk W → OpL W va A) := fun W h => ol.keeps h
  obtain ⟨aa, ca, rfl⟩ := ol.shape
  have S0 : Hid (Shr opE 31 wk wk (.slice none 0 0) ((A.take 0).filter PB)) := Shr.nil _ _ _ _
  have Z0 : Hid (Below wk.heap.size wk wk) := Below.refl _ _
  rw [← HN.out]
  clear d0 d1 IN HW B0 P0 bk ol
  go_wp2
  go_loopw [7, 9] (fun v i wr => ∃ j m : Nat, j ≤ n ∧ i = .int .i64 (j : Int) ∧ (∃ ao cap, v = .slice ao m cap) ∧ Hid (m = ((A.take j).filter PB).length) ∧ Hid (Shr opE 31 wk wr v ((A.take j).filter PB)) ∧ Hid (Below wk.heap.size wk wr)) (fun _ i _ => n - (intOf i).toNat)
  case atStart => exact ⟨0, 0, by omega, rfl, ⟨none, 0, rfl⟩, M0, S0, Z0⟩
  case round =>
    clear S0 M0 Z0
    obtain ⟨j, m, hj, rfl, ⟨aoL, capL, rfl⟩, HM, hshr, hbel⟩ := hrel
    by_cases hjn : j < n
    rotate_left
    · have q3 : decide (j < n) = false := by simpa using hjn
      have hkk : A.take j = A := List.take_of_length_le (by have := HN.out; omega)
      rw [hkk] at hshr
      have BE := Lib.hid (bt BK.out hbel.out)
      have SE := Lib.hid (hshr.out.seq hbel.out)
      clear hkk
      go_wp2
      go_ret
      exact ⟨_, rfl, SE.out, BE.out⟩
    have q3 : decide (j < n) = true := by simpa using hjn
    have q4 : (0 : Int) ≤ (j : Int) := by omega
    have q5 : (j : Int) < (n : Int) := by omega
    have hjl : j < A.length := by rw [← HN.out]; exact hjn
    obtain ⟨bb, oo, u, e, hbb, hru, h0, h1, h2, h3, h4⟩ := opl_at (HV.out wk (Below.refl _ _)) j hjl
    subst e
    obtain ⟨x, hx⟩ : ∃ x, x = A[j]'hjl := ⟨_, rfl⟩
    rw [← hx] at hru h0 h1 h2 h4
    have HO : Hid (∀ v : Value, opv x v = .agg #[.int .u8 (x.k : Int), .int .u32 (x.t : Int), .int .u8 (x.r : Int), v, .int .i64 x.p]) := fun v => rfl
    replace h0 := ((hbel.out).cell (p := ⟨bb, oo + j * 5, none⟩) hbb).trans h0
    replace h1 := ((hbel.out).cell (p := ⟨bb, oo + j * 5 + 1, none⟩) hbb).trans h1
    replace h2 := ((hbel.out).cell (p := ⟨bb, oo + j * 5 + 2, none⟩) hbb).trans h2
    replace h3 := ((hbel.out).cell (p := ⟨bb, oo + j * 5 + 3, none⟩) hbb).trans h3
    replace h4 := ((hbel.out).cell (p := ⟨bb, oo + j * 5 + 4, none⟩) hbb).trans h4
    have hbo := hbb
    replace hbb := Nat.lt_of_lt_of_le hbb (hbel.out).size
    obtain ⟨uo, uc, rfl⟩ := hru.shape
    obtain ⟨nu, hnu⟩ : ∃ n, n = x.pl.length := ⟨_, rfl⟩
    have HNU := Lib.hid hnu
    rw [← hnu] at hru h3
    clear hnu
    have hxm : x ∈ A := by rw [hx]; exact List.getElem_mem _
    have INN : Hid (opE.inn wk [.int .u8 (x.k : Int), .int .u32 (x.t : Int), .int .u8 (x.r : Int), .slice uo nu uc, .int .i64 x.p] x) := ⟨_, rfl, hru⟩
    have CX : Hid (∀ W : World, Below wr.heap.size wr W → Calls Tryz.prog 78 #[.slice ao n0 cap, .slice au nl cu, .agg #[.int .u32 (ts : Int), .int .u8 (rs : Int)], opv x (.slice uo nu uc)] W fun e w' => e = .returned (.bool (PB x)) ∧ Below W.heap.size W w') := fun W h => IS.out x _ W hxm (hru.keeps (bt hbel.out h)) (bt BK.out (bt hbel.out h))
    have FT := Lib.hid (filter_take (P := PB) hjl)
    rw [← hx] at FT
    obtain ⟨q, hq⟩ : ∃ b, PB x = b := ⟨_, rfl⟩
    rw [hq] at CX FT
    clear hx hru hq hxm
    obtain ⟨k, hk⟩ : ∃ z, x.k = z := ⟨_, rfl⟩
    obtain ⟨t, ht⟩ : ∃ z, x.t = z := ⟨_, rfl⟩
    obtain ⟨r, hr⟩ : ∃ z, x.r = z := ⟨_, rfl⟩
    obtain ⟨p, hp⟩ : ∃ z, x.p = z := ⟨_, rfl⟩
    rw [hk, ht, hr, hp] at HO
    rw [hk] at h0
    rw [ht] at h1
    rw [hr] at h2
    rw [hp] at h4
    simp only [HO.out] at CX
    rw [hk, ht, hr, hp] at INN
    have F1 : Hid (FiveAt wr bb (oo + j * 5) (.int .u8 (k : Int)) (.int .u32 (t : Int)) (.int .u8 (r : Int)) (.slice uo nu uc) (.int .i64 p)) := ⟨hbb, h0, h1, h2, h3, h4⟩
    have SK : Hid (∀ w' : World, Below wr.heap.size wr w' → Below wr.heap.size wr w' ∧ w'.cell? ⟨bb, oo + j * 5, none⟩ = some (.int .u8 (k : Int)) ∧ w'.cell? ⟨bb, oo + j * 5 + 1, none⟩ = some (.int .u32 (t : Int)) ∧ w'.cell? ⟨bb, oo + j * 5 + 2, none⟩ = some (.int .u8 (r : Int)) ∧ w'.cell? ⟨bb, oo + j * 5 + 3, none⟩ = some (.slice uo nu uc) ∧ w'.cell? ⟨bb, oo + j * 5 + 4, none⟩ = some (.int .i64 p) ∧ w'.cell? ⟨w.heap.size, 0, none⟩ = some (.int .u32 (ts : Int)) ∧ w'.cell? ⟨w.heap.size, 1, none⟩ = some (.int .u8 (rs : Int))) := fun W h => by
      have a1 := (F1.out.keeps h).2
      have a2 := PK.out.keeps (bt hbel.out h)
      exact ⟨h, a1.1, a1.2.1, a1.2.2.1, a1.2.2.2.1, a1.2.2.2.2, a2.2.1, a2.2.2⟩
    clear hk ht hr hp HO h0 h1 h2 h3 h4 HV IS PK
    cases q
    · have FN : Hid ((if false = true then [x] else []) = []) := rfl
      go_wp2
      refine wp_region_held_drew (S := fun w' => Below wr.heap.size wr w' ∧ w'.cell? ⟨bb, oo + j * 5, none⟩ = some (.int .u8 (k : Int)) ∧ w'.cell? ⟨bb, oo + j * 5 + 1, none⟩ = some (.int .u32 (t : Int)) ∧ w'.cell? ⟨bb, oo + j * 5 + 2, none⟩ = some (.int .u8 (r : Int)) ∧ w'.cell? ⟨bb, oo + j * 5 + 3, none⟩ = some (.slice uo nu uc) ∧ w'.cell? ⟨bb, oo + j * 5 + 4, none⟩ = some (.int .i64 p) ∧ w'.cell? ⟨w.heap.size, 0, none⟩ = some (.int .u32 (ts : Int)) ∧ w'.cell? ⟨w.heap.size, 1, none⟩ = some (.int .u8 (rs : Int))) (by kernel_rfl) (SK.out _ (drew1 _)) (fun hHeld => ?_)
      refine wpAnyH_take (i := 0) (v := ?va0) rfl (by kernel_rfl) (by kernel_rfl) (by kernel_rfl) (fun _ _ _ h => h) (Or.inl ⟨by rfl, ?ya0⟩) (by assumption) ?_
      case ya0 => intro w hSw; (try dsimp only at hSw); go_simp <;> with_reducible rfl
      try simp only [List.getElem_toArray, List.getElem_cons_zero, Act.put, List.setIfInBounds_toArray, List.set_cons_zero, List.set_cons_succ]
      refine wpAnyH_take (i := 1) (v := ?va1) rfl (by kernel_rfl) (by kernel_rfl) (by kernel_rfl) (fun _ _ _ h => h) (Or.inl ⟨by rfl, ?ya1⟩) (by assumption) ?_
      case ya1 => intro w hSw; (try dsimp only at hSw); go_simp <;> with_reducible rfl
      try simp only [List.getElem_toArray, List.getElem_cons_succ, List.getElem_cons_zero, Act.put, List.setIfInBounds_toArray, List.set_cons_zero, List.set_cons_succ]
      refine wpAnyH_take (i := 2) (v := ?va2) rfl (by kernel_rfl) (by kernel_rfl) (by kernel_rfl) (fun _ _ _ h => h) (Or.inl ⟨by rfl, ?ya2⟩) (by assumption) ?_
      case ya2 => intro w hSw; (try dsimp only at hSw); go_simp <;> with_reducible rfl
      try simp only [List.getElem_toArray, List.getElem_cons_succ, List.getElem_cons_zero, Act.put, List.setIfInBounds_toArray, List.set_cons_zero, List.set_cons_succ]
      refine wpAnyH_take (i := 3) (v := ?va3) rfl (by kernel_rfl) (by kernel_rfl) (by kernel_rfl) (fun _ _ _ h => h) (Or.inl ⟨by rfl, ?ya3⟩) (by assumption) ?_
      case ya3 => intro w hSw; (try dsimp only at hSw); go_simp <;> with_reducible rfl
      try simp only [List.getElem_toArray, List.getElem_cons_succ, List.getElem_cons_zero, Act.put, List.setIfInBounds_toArray, List.set_cons_zero, List.set_cons_succ]
      refine wpAnyH_take (i := 4) (v := ?va4) rfl (by kernel_rfl) (by kernel_rfl) (by kernel_rfl) (fun _ _ _ h => h) (Or.inl ⟨by rfl, ?ya4⟩) (by assumption) ?_
      case ya4 => intro w hSw; (try dsimp only at hSw); go_simp <;> with_reducible rfl
      try simp only [List.getElem_toArray, List.getElem_cons_succ, List.getElem_cons_zero, Act.put, List.setIfInBounds_toArray, List.set_cons_zero, List.set_cons_succ]
      refine wpAnyH_take (i := 5) (v := ?va5) rfl (by kernel_rfl) (by kernel_rfl) (by kernel_rfl) (fun _ _ _ h => h) (Or.inl ⟨by rfl, ?ya5⟩) (by assumption) ?_
      case ya5 => intro w hSw; (try dsimp only at hSw); go_simp <;> with_reducible rfl
      try simp only [List.getElem_toArray, List.getElem_cons_succ, List.getElem_cons_zero, Act.put, List.setIfInBounds_toArray, List.set_cons_zero, List.set_cons_succ]
      refine wpAnyH_take (i := 6) (v := ?va6) rfl (by kernel_rfl) (by kernel_rfl) (by kernel_rfl) (fun _ _ _ h => h) (Or.inl ⟨by rfl, ?ya6⟩) (by assumption) ?_
      case ya6 => intro w hSw; (try dsimp only at hSw); go_simp <;> with_reducible rfl
      try simp only [List.getElem_toArray, List.getElem_cons_succ, List.getElem_cons_zero, Act.put, List.setIfInBounds_toArray, List.set_cons_zero, List.set_cons_succ]
      refine wpAnyH_ready (rs := [7]) (by kernel_rfl) (by simp) ?_
      refine AllReadyH.cons rfl (fun K hK => ?_) ?za7
      case za7 => exact AllReadyH.nil
      go_simp
      refine (CX.out _ hHeld.1).mono ?_
      rintro e w9a7 ⟨rfl, b9⟩
      refine hK.out _ _ (SK.out _ (bt hHeld.1 b9)) (fun hNew => ?_)
      clear hHeld
      have hHeld := hNew
      clear hNew hK K
      try simp only [List.getElem_toArray, List.getElem_cons_succ, List.getElem_cons_zero, Act.put, List.setIfInBounds_toArray, List.set_cons_zero, List.set_cons_succ]
      refine wpAnyH_done (by kernel_rfl) ?_ _
      rw [FN.out, List.append_nil] at FT
      rw [← FT.out] at HM
      have S2 := Lib.hid (hshr.out.keeps hHeld.1)
      rw [← FT.out] at S2
      have B2 := Lib.hid (bt hbel.out hHeld.1)
      clear hHeld hshr hbel F1 SK
      go_wp2
      go_roundw
      case rel => exact ⟨j + 1, m, by omega, by go_num, ⟨aoL, capL, rfl⟩, HM, S2, B2⟩
      case measure => simp [intOf]; omega
    have FN : Hid ((if true = true then [x] else []) = [x]) := rfl
    go_wp2
    refine wp_region_held_drew (S := fun w' => Below wr.heap.size wr w' ∧ w'.cell? ⟨bb, oo + j * 5, none⟩ = some (.int .u8 (k : Int)) ∧ w'.cell? ⟨bb, oo + j * 5 + 1, none⟩ = some (.int .u32 (t : Int)) ∧ w'.cell? ⟨bb, oo + j * 5 + 2, none⟩ = some (.int .u8 (r : Int)) ∧ w'.cell? ⟨bb, oo + j * 5 + 3, none⟩ = some (.slice uo nu uc) ∧ w'.cell? ⟨bb, oo + j * 5 + 4, none⟩ = some (.int .i64 p) ∧ w'.cell? ⟨w.heap.size, 0, none⟩ = some (.int .u32 (ts : Int)) ∧ w'.cell? ⟨w.heap.size, 1, none⟩ = some (.int .u8 (rs : Int))) (by kernel_rfl) (SK.out _ (drew1 _)) (fun hHeld => ?_)
    refine wpAnyH_take (i := 0) (v := ?vb0) rfl (by kernel_rfl) (by kernel_rfl) (by kernel_rfl) (fun _ _ _ h => h) (Or.inl ⟨by rfl, ?yb0⟩) (by assumption) ?_
    case yb0 => intro w hSw; (try dsimp only at hSw); go_simp <;> with_reducible rfl
    try simp only [List.getElem_toArray, List.getElem_cons_zero, Act.put, List.setIfInBounds_toArray, List.set_cons_zero, List.set_cons_succ]
    refine wpAnyH_take (i := 1) (v := ?vb1) rfl (by kernel_rfl) (by kernel_rfl) (by kernel_rfl) (fun _ _ _ h => h) (Or.inl ⟨by rfl, ?yb1⟩) (by assumption) ?_
    case yb1 => intro w hSw; (try dsimp only at hSw); go_simp <;> with_reducible rfl
    try simp only [List.getElem_toArray, List.getElem_cons_succ, List.getElem_cons_zero, Act.put, List.setIfInBounds_toArray, List.set_cons_zero, List.set_cons_succ]
    refine wpAnyH_take (i := 2) (v := ?vb2) rfl (by kernel_rfl) (by kernel_rfl) (by kernel_rfl) (fun _ _ _ h => h) (Or.inl ⟨by rfl, ?yb2⟩) (by assumption) ?_
    case yb2 => intro w hSw; (try dsimp only at hSw); go_simp <;> with_reducible rfl
    try simp only [List.getElem_toArray, List.getElem_cons_succ, List.getElem_cons_zero, Act.put, List.setIfInBounds_toArray, List.set_cons_zero, List.set_cons_succ]
    refine wpAnyH_take (i := 3) (v := ?vb3) rfl (by kernel_rfl) (by kernel_rfl) (by kernel_rfl) (fun _ _ _ h => h) (Or.inl ⟨by rfl, ?yb3⟩) (by assumption) ?_
    case yb3 => intro w hSw; (try dsimp only at hSw); go_simp <;> with_reducible rfl
    try simp only [List.getElem_toArray, List.getElem_cons_succ, List.getElem_cons_zero, Act.put, List.setIfInBounds_toArray, List.set_cons_zero, List.set_cons_succ]
    refine wpAnyH_take (i := 4) (v := ?vb4) rfl (by kernel_rfl) (by kernel_rfl) (by kernel_rfl) (fun _ _ _ h => h) (Or.inl ⟨by rfl, ?yb4⟩) (by assumption) ?_
    case yb4 => intro w hSw; (try dsimp only at hSw); go_simp <;> with_reducible rfl
    try simp only [List.getElem_toArray, List.getElem_cons_succ, List.getElem_cons_zero, Act.put, List.setIfInBounds_toArray, List.set_cons_zero, List.set_cons_succ]
    refine wpAnyH_take (i := 5) (v := ?vb5) rfl (by kernel_rfl) (by kernel_rfl) (by kernel_rfl) (fun _ _ _ h => h) (Or.inl ⟨by rfl, ?yb5⟩) (by assumption) ?_
    case yb5 => intro w hSw; (try dsimp only at hSw); go_simp <;> with_reducible rfl
    try simp only [List.getElem_toArray, List.getElem_cons_succ, List.getElem_cons_zero, Act.put, List.setIfInBounds_toArray, List.set_cons_zero, List.set_cons_succ]
    refine wpAnyH_take (i := 6) (v := ?vb6) rfl (by kernel_rfl) (by kernel_rfl) (by kernel_rfl) (fun _ _ _ h => h) (Or.inl ⟨by rfl, ?yb6⟩) (by assumption) ?_
    case yb6 => intro w hSw; (try dsimp only at hSw); go_simp <;> with_reducible rfl
    try simp only [List.getElem_toArray, List.getElem_cons_succ, List.getElem_cons_zero, Act.put, List.setIfInBounds_toArray, List.set_cons_zero, List.set_cons_succ]
    refine wpAnyH_ready (rs := [7]) (by kernel_rfl) (by simp) ?_
    refine AllReadyH.cons rfl (fun K hK => ?_) ?zb7
    case zb7 => exact AllReadyH.nil
    go_simp
    refine (CX.out _ hHeld.1).mono ?_
    rintro e w9b7 ⟨rfl, b9⟩
    refine hK.out _ _ (SK.out _ (bt hHeld.1 b9)) (fun hNew => ?_)
    clear hHeld
    have hHeld := hNew
    clear hNew hK K
    try simp only [List.getElem_toArray, List.getElem_cons_succ, List.getElem_cons_zero, Act.put, List.setIfInBounds_toArray, List.set_cons_zero, List.set_cons_succ]
    refine wpAnyH_done (by kernel_rfl) ?_ _
    rw [FN.out] at FT
    have S2 := Lib.hid (hshr.out.keeps hHeld.1)
    have B2 := Lib.hid (bt hbel.out hHeld.1)
    have HZ := Lib.hid B2.out.size
    have hll := filter_take_len (P := PB) (l := A) j
    have HMM := Lib.hid (show (m + 1) * 48 ≤ 140737488355328 ∧ m ≤ 1000000000000 by have := HM.out; have := HN.out; omega)
    obtain ⟨h0, h1, h2, h3, h4⟩ := (F1.out.keeps hHeld.1).2
    clear hHeld hshr hll F1 SK
    go_wp2_with (at_builtin; refine wpList_append_enc (E := opE) Tryz.underlying33 op_info rfl (w0 := wk) (wp := w9b7) (by rfl) (.tmp 28) (.tmp 33) (by rfl) (by rfl) S2.out (G := w9b7.heap.size) (by rfl) rfl (c := #[.int .u8 (k : Int), .int .u32 (t : Int), .int .u8 (r : Int), .slice uo nu uc, .int .i64 p]) INN.out HM.out HMM.out.1 HMM.out.2 HZ.out ?_)
    rintro v6 w6 s6 va vc rfl b6
    have S6 := Lib.hid s6
    rw [← FT.out] at S6
    have M6 : Hid (m + 1 = ((A.take (j + 1)).filter PB).length) := by unfold Hid; rw [FT.out, List.length_append, ← HM.out]; rfl
    have B6 := Lib.hid (B2.out.trans b6)
    clear s6 b6 S2 B2 h0 h1 h2 h3 h4 FT HM FN hbel
    go_wp2
    go_roundw
    case rel => exact ⟨j + 1, m + 1, by omega, by go_num, ⟨va, vc, rfl⟩, M6, S6, B6⟩
    case measure => simp [intOf]; omega

/-- What asked answers. -/
def AskO (l : List Opn) (s : Id) (w : World) (e : Ending) (w' : World) : Prop := ∃ v, e = .returned (.tuple #[v, .int .i64 (spanE l s)]) ∧ (spanE l s = 0 → OpL w' v (livesM l l)) ∧ Below w.heap.size w w'
set_option maxRecDepth 100000 in
set_option maxHeartbeats 4000000 in
theorem refAsked_any {v : Value} {l : List Opn} (s : Id) {w : World} (hv : OpL w v l) : Calls Tryz.prog 41 #[v, .agg #[.int .u32 (s.t : Int), .int .u8 (s.r : Int)]] w (AskO l s w) := by
  obtain ⟨wl, hwl⟩ : ∃ x, x = w.alloc (.cells #[.int .u32 (s.t : Int), .int .u8 (s.r : Int)] 28) := ⟨_, rfl⟩
  have B0 : Hid (Below w.heap.size w wl) := by rw [hwl]; exact (Below.refl _ _).alloc (Nat.le_refl _) _
  have Y0 : Hid (wl.heap[w.heap.size]? = some (.cells #[.int .u32 (s.t : Int), .int .u8 (s.r : Int)] 28)) := by rw [hwl]; exact blk_new rfl
  have HW := Lib.hid hwl
  have ML : Hid (Calls Tryz.prog 73 #[v] wl fun e w' => e = .returned (.bool (bagB l)) ∧ Below wl.heap.size wl w') := refMayL_any (hv.keeps B0.out)
  have LV : Hid (Bag l → ∀ W : World, Below w.heap.size w W → Calls Tryz.prog 74 #[v] W fun e w' => ∃ v', e = .returned v' ∧ OpL w' v' (livesM l l) ∧ Below W.heap.size W w') := fun hb W h => refLives_any (hv.keeps h) hb.2.1 hb.1
  have WH : Hid (Bag l → ∀ (W : World) (y : Value), OpL W y (livesM l l) → Calls Tryz.prog 75 #[y, .agg #[.int .u32 (s.t : Int), .int .u8 (s.r : Int)]] W fun e w' => e = .returned (.int .i64 (whereM (livesM l l) s)) ∧ Below W.heap.size W w') := fun hb W y h => refWhere_any s h (by have := (lives_fits hb).1; omega)
  unfold AskO
  clear hv hwl
  by_cases hb : Bag l
  rotate_left
  · have e3 : spanE l s = 8 := by unfold spanE; rw [bagB_no hb]; rfl
    rw [bagB_no hb] at ML
    rw [e3]
    clear LV WH hb e3
    go_enter Tryz.func41, Tryz.ntmps41
    go_wp2_with fail
    rw [← HW.out]
    refine ML.out.mono ?_
    rintro e w1 ⟨rfl, b1⟩
    have B1 := Lib.hid (bt B0.out b1)
    clear b1 Y0 B0 HW ML
    go_wp2
    exact bodyPost_ret (v := .tuple #[.slice none 0 0, .int .i64 8]) (by simp [results, Tryz.results41, go_sem]) rfl ⟨_, rfl, (fun h => absurd h (by decide)), B1.out⟩
  rw [(bagB_iff l).2 hb] at ML
  have LV2 := Lib.hid (LV.out hb)
  have WH2 := Lib.hid (WH.out hb)
  have aE : spanE l s = if 0 ≤ whereM (livesM l l) s then 0 else 130 := by unfold spanE; rw [(bagB_iff l).2 hb]; simp
  rw [aE]
  clear LV WH hb aE
  obtain ⟨x, hx⟩ : ∃ x, whereM (livesM l l) s = x := ⟨_, rfl⟩
  rw [hx] at WH2 ⊢
  obtain ⟨V, hV⟩ : ∃ V, livesM l l = V := ⟨_, rfl⟩
  rw [hV] at LV2 WH2 ⊢
  clear hx hV
  obtain ⟨ts, rs, hts, hrs⟩ := s
  simp only at Y0 HW WH2 ⊢
  by_cases hx : 0 ≤ x
  rotate_left
  · rw [if_neg hx]
    have q : decide (x < 0) = true := decide_eq_true (by omega)
    go_enter Tryz.func41, Tryz.ntmps41
    go_wp2_with fail
    rw [← HW.out]
    refine ML.out.mono ?_
    rintro e w1 ⟨rfl, b1⟩
    have B1 := Lib.hid (bt B0.out b1)
    have Y1 := Lib.hid (blk_below b1 Y0.out)
    clear b1 Y0 B0 HW ML
    go_wp2_with fail
    refine (LV2.out _ B1.out).mono ?_
    rintro e w2 ⟨v2, rfl, o2, b2⟩
    have B2 := Lib.hid (bt B1.out b2)
    have Y2 := Lib.hid (blk_below b2 Y1.out)
    have O2 := Lib.hid o2
    clear b2 o2 Y1 B1 LV2
    have d0 := cell_of_row _ _ 0 _ _ _ Y2.out
    have d1 := cell_of_row _ _ 1 _ _ _ Y2.out
    go_wp2_with fail
    refine (WH2.out _ _ O2.out).mono ?_
    rintro e w3 ⟨rfl, b3⟩
    have B3 := Lib.hid (bt B2.out b3)
    have O3 := Lib.hid (O2.out.keeps b3)
    clear b3 d0 d1 Y2 B2 O2 WH2
    go_wp2
    exact bodyPost_ret (v := .tuple #[.slice none 0 0, .int .i64 130]) (by simp [results, Tryz.results41, go_sem]) rfl ⟨_, rfl, (fun h => absurd h (by decide)), B3.out⟩
  rw [if_pos hx]
  have q : decide (x < 0) = false := decide_eq_false (by omega)
  go_enter Tryz.func41, Tryz.ntmps41
  go_wp2_with fail
  rw [← HW.out]
  refine ML.out.mono ?_
  rintro e w1 ⟨rfl, b1⟩
  have B1 := Lib.hid (bt B0.out b1)
  have Y1 := Lib.hid (blk_below b1 Y0.out)
  clear b1 Y0 B0 HW ML
  go_wp2_with fail
  refine (LV2.out _ B1.out).mono ?_
  rintro e w2 ⟨v2, rfl, o2, b2⟩
  have B2 := Lib.hid (bt B1.out b2)
  have Y2 := Lib.hid (blk_below b2 Y1.out)
  have O2 := Lib.hid o2
  clear b2 o2 Y1 B1 LV2
  have d0 := cell_of_row _ _ 0 _ _ _ Y2.out
  have d1 := cell_of_row _ _ 1 _ _ _ Y2.out
  go_wp2_with fail
  refine (WH2.out _ _ O2.out).mono ?_
  rintro e w3 ⟨rfl, b3⟩
  have B3 := Lib.hid (bt B2.out b3)
  have O3 := Lib.hid (O2.out.keeps b3)
  clear b3 d0 d1 Y2 B2 O2 WH2
  go_wp2
  exact bodyPost_ret (v := .tuple #[v2, .int .i64 0]) (by simp [results, Tryz.results41, go_sem]) rfl ⟨_, rfl, fun _ => O3.out, B3.out⟩

set_option maxRecDepth 100000 in
set_option maxHeartbeats 4000000 in
theorem refHomed14_any {v : Value} {l : List Opn} (s : Id) {w : World} (hv : OpL w v l) : Calls Tryz.prog 19 #[v, .agg #[.int .u32 (s.t : Int), .int .u8 (s.r : Int)]] w (DoneL (homedL l s) (spanE l s) w) := by
  obtain ⟨wl, hwl⟩ : ∃ x, x = w.alloc (.cells #[.int .u32 (s.t : Int), .int .u8 (s.r : Int)] 28) := ⟨_, rfl⟩
  have B0 : Hid (Below w.heap.size w wl) := by rw [hwl]; exact (Below.refl _ _).alloc (Nat.le_refl _) _
  have Y0 : Hid (wl.heap[w.heap.size]? = some (.cells #[.int .u32 (s.t : Int), .int .u8 (s.r : Int)] 28)) := by rw [hwl]; exact blk_new rfl
  have HW := Lib.hid hwl
  have AK : Hid (Calls Tryz.prog 41 #[v, .agg #[.int .u32 (s.t : Int), .int .u8 (s.r : Int)]] wl (AskO l s wl)) := refAsked_any s (hv.keeps B0.out)
  have IN : Hid (Bag l → ∀ (W : World) (y : Value), Below w.heap.size w W → OpL W y (livesM l l) → Calls Tryz.prog 42 #[v, y, .agg #[.int .u32 (s.t : Int), .int .u8 (s.r : Int)]] W fun e w' => ∃ v', e = .returned v' ∧ OpL w' v' (inL l (livesM l l) s) ∧ Below W.heap.size W w') := fun hb W y h hy => refIn14_any s (hv.keeps h) hy (by have := hb.1; omega) hb.2.1 (lives_fits hb).2
  have HS : Hid (∀ x : Int, spanE l s = x → x = 0 ∨ ((x == 0) = false ∧ ¬ x = 0)) := fun x h => by
    by_cases e : x = 0
    · exact .inl e
    · exact .inr ⟨by simpa using e, e⟩
  unfold AskO at AK
  by_cases h0 : spanE l s = 0
  rotate_left
  · have e1 : homedL l s = [] := if_neg h0
    obtain ⟨x, hx⟩ : ∃ x, spanE l s = x := ⟨_, rfl⟩
    rw [hx] at h0 AK ⊢
    rw [e1]
    have q0 : (x == 0) = false := by simpa using h0
    have q1 : decide (x = 0) = false := decide_eq_false h0
    clear hv hwl IN HS e1 hx
    obtain ⟨ts, rs, hts, hrs⟩ := s
    simp only at Y0 HW AK ⊢
    have d0 := cell_of_row _ _ 0 _ _ _ Y0.out
    have d1 := cell_of_row _ _ 1 _ _ _ Y0.out
    go_enter Tryz.func19, Tryz.ntmps19
    go_wp2_with fail
    rw [← HW.out]
    refine AK.out.mono ?_
    rintro e w1 ⟨v1, rfl, -, b1⟩
    have B1 := Lib.hid (bt B0.out b1)
    clear b1 Y0 B0 HW AK d0 d1
    go_wp2
    exact bodyPost_ret (v := .tuple #[.slice none 0 0, .int .i64 x]) (by simp [results, Tryz.results19, go_sem]) rfl ⟨_, rfl, Seq.nil _ _, B1.out⟩
  have hb : Bag l := (spanE_zero.1 h0).1
  have IN2 := Lib.hid (IN.out hb)
  have e1 : homedL l s = inL l (livesM l l) s := if_pos h0
  rw [e1]
  rw [h0] at AK ⊢
  obtain ⟨V, hV⟩ : ∃ V, livesM l l = V := ⟨_, rfl⟩
  rw [hV] at AK IN2 ⊢
  clear hv hwl IN HS e1 hb h0 hV
  obtain ⟨R, hR⟩ : ∃ R, inL l V s = R := ⟨_, rfl⟩
  rw [hR] at IN2 ⊢
  clear hR
  obtain ⟨ts, rs, hts, hrs⟩ := s
  simp only at Y0 HW AK IN2 ⊢
  have d0 := cell_of_row _ _ 0 _ _ _ Y0.out
  have d1 := cell_of_row _ _ 1 _ _ _ Y0.out
  go_enter Tryz.func19, Tryz.ntmps19
  go_wp2_with fail
  rw [← HW.out]
  refine AK.out.mono ?_
  rintro e w1 ⟨v1, rfl, o1, b1⟩
  have O1 := Lib.hid (o1 (by trivial))
  have B1 := Lib.hid (bt B0.out b1)
  have Y1 := Lib.hid (blk_below b1 Y0.out)
  clear b1 o1 Y0 B0 HW AK d0 d1
  have d0 := cell_of_row _ _ 0 _ _ _ Y1.out
  have d1 := cell_of_row _ _ 1 _ _ _ Y1.out
  go_wp2_with fail
  refine (IN2.out _ _ B1.out O1.out).mono ?_
  rintro e w2 ⟨v2, rfl, o2, b2⟩
  have O2 := Lib.hid o2
  have BZ := Lib.hid B1.out.size
  have B2 := Lib.hid (bt B1.out b2)
  clear b2 o2 d0 d1 Y1 O1 B1 IN2
  go_wp2
  exact bodyPost_ret (v := .tuple #[v2, .int .i64 0]) (by simp [results, Tryz.results19, go_sem]) rfl ⟨_, rfl, O2.out, B2.out⟩

set_option maxRecDepth 100000 in
set_option maxHeartbeats 4000000 in
theorem refCounts14_any {v : Value} {l : List Opn} (s : Id) {w : World} (hv : OpL w v l) : Calls Tryz.prog 20 #[v, .agg #[.int .u32 (s.t : Int), .int .u8 (s.r : Int)]] w (DoneL (countsL l s) (spanE l s) w) := by
  obtain ⟨wl, hwl⟩ : ∃ x, x = w.alloc (.cells #[.int .u32 (s.t : Int), .int .u8 (s.r : Int)] 28) := ⟨_, rfl⟩
  have B0 : Hid (Below w.heap.size w wl) := by rw [hwl]; exact (Below.refl _ _).alloc (Nat.le_refl _) _
  have Y0 : Hid (wl.heap[w.heap.size]? = some (.cells #[.int .u32 (s.t : Int), .int .u8 (s.r : Int)] 28)) := by rw [hwl]; exact blk_new rfl
  have HW := Lib.hid hwl
  have AK : Hid (Calls Tryz.prog 41 #[v, .agg #[.int .u32 (s.t : Int), .int .u8 (s.r : Int)]] wl (AskO l s wl)) := refAsked_any s (hv.keeps B0.out)
  have IN : Hid (Bag l → ∀ (W : World) (y : Value), Below w.heap.size w W → OpL W y (livesM l l) → Calls Tryz.prog 43 #[v, y, .agg #[.int .u32 (s.t : Int), .int .u8 (s.r : Int)]] W fun e w' => ∃ v', e = .returned v' ∧ OpL w' v' (countL l (livesM l l) s) ∧ Below W.heap.size W w') := fun hb W y h hy => refCounting_any s (hv.keeps h) hy (by have := hb.1; omega) hb.2.1 (lives_fits hb).2
  have HS : Hid (∀ x : Int, spanE l s = x → x = 0 ∨ ((x == 0) = false ∧ ¬ x = 0)) := fun x h => by
    by_cases e : x = 0
    · exact .inl e
    · exact .inr ⟨by simpa using e, e⟩
  unfold AskO at AK
  by_cases h0 : spanE l s = 0
  rotate_left
  · have e1 : countsL l s = [] := if_neg h0
    obtain ⟨x, hx⟩ : ∃ x, spanE l s = x := ⟨_, rfl⟩
    rw [hx] at h0 AK ⊢
    rw [e1]
    have q0 : (x == 0) = false := by simpa using h0
    have q1 : decide (x = 0) = false := decide_eq_false h0
    clear hv hwl IN HS e1 hx
    obtain ⟨ts, rs, hts, hrs⟩ := s
    simp only at Y0 HW AK ⊢
    have d0 := cell_of_row _ _ 0 _ _ _ Y0.out
    have d1 := cell_of_row _ _ 1 _ _ _ Y0.out
    go_enter Tryz.func20, Tryz.ntmps20
    go_wp2_with fail
    rw [← HW.out]
    refine AK.out.mono ?_
    rintro e w1 ⟨v1, rfl, -, b1⟩
    have B1 := Lib.hid (bt B0.out b1)
    clear b1 Y0 B0 HW AK d0 d1
    go_wp2
    exact bodyPost_ret (v := .tuple #[.slice none 0 0, .int .i64 x]) (by simp [results, Tryz.results20, go_sem]) rfl ⟨_, rfl, Seq.nil _ _, B1.out⟩
  have hb : Bag l := (spanE_zero.1 h0).1
  have IN2 := Lib.hid (IN.out hb)
  have e1 : countsL l s = countL l (livesM l l) s := if_pos h0
  rw [e1]
  rw [h0] at AK ⊢
  obtain ⟨V, hV⟩ : ∃ V, livesM l l = V := ⟨_, rfl⟩
  rw [hV] at AK IN2 ⊢
  clear hv hwl IN HS e1 hb h0 hV
  obtain ⟨R, hR⟩ : ∃ R, countL l V s = R := ⟨_, rfl⟩
  rw [hR] at IN2 ⊢
  clear hR
  obtain ⟨ts, rs, hts, hrs⟩ := s
  simp only at Y0 HW AK IN2 ⊢
  have d0 := cell_of_row _ _ 0 _ _ _ Y0.out
  have d1 := cell_of_row _ _ 1 _ _ _ Y0.out
  go_enter Tryz.func20, Tryz.ntmps20
  go_wp2_with fail
  rw [← HW.out]
  refine AK.out.mono ?_
  rintro e w1 ⟨v1, rfl, o1, b1⟩
  have O1 := Lib.hid (o1 (by trivial))
  have B1 := Lib.hid (bt B0.out b1)
  have Y1 := Lib.hid (blk_below b1 Y0.out)
  clear b1 o1 Y0 B0 HW AK d0 d1
  have d0 := cell_of_row _ _ 0 _ _ _ Y1.out
  have d1 := cell_of_row _ _ 1 _ _ _ Y1.out
  go_wp2_with fail
  refine (IN2.out _ _ B1.out O1.out).mono ?_
  rintro e w2 ⟨v2, rfl, o2, b2⟩
  have O2 := Lib.hid o2
  have BZ := Lib.hid B1.out.size
  have B2 := Lib.hid (bt B1.out b2)
  clear b2 o2 d0 d1 Y1 O1 B1 IN2
  go_wp2
  exact bodyPost_ret (v := .tuple #[v2, .int .i64 0]) (by simp [results, Tryz.results20, go_sem]) rfl ⟨_, rfl, O2.out, B2.out⟩

set_option maxRecDepth 100000 in
set_option maxHeartbeats 4000000 in
theorem refKnown_any {v u0 : Value} {l : List Opn} (s : Id) {w : World} (hv : OpL w v l) (hu : OpL w u0 (livesM l l)) (hb : Bag l) :
    Calls Tryz.prog 44 #[v, u0, .agg #[.int .u32 (s.t : Int), .int .u8 (s.r : Int)]] w fun e w' => ∃ v', e = .returned v' ∧ OwnC w' w.heap.size v' (Clocks.among ((countL l (livesM l l) s).map idO)) ∧ Below w.heap.size w w' := by
  obtain ⟨wl, hwl⟩ : ∃ x, x = w.alloc (.cells #[.int .u32 (s.t : Int), .int .u8 (s.r : Int)] 28) := ⟨_, rfl⟩
  have B0 : Hid (Below w.heap.size w wl) := by rw [hwl]; exact (Below.refl _ _).alloc (Nat.le_refl _) _
  have Y0 : Hid (wl.heap[w.heap.size]? = some (.cells #[.int .u32 (s.t : Int), .int .u8 (s.r : Int)] 28)) := by rw [hwl]; exact blk_new rfl
  have HW := Lib.hid hwl
  have CT : Hid (Calls Tryz.prog 43 #[v, u0, .agg #[.int .u32 (s.t : Int), .int .u8 (s.r : Int)]] wl fun e w' => ∃ v', e = .returned v' ∧ OpL w' v' (countL l (livesM l l) s) ∧ Below wl.heap.size wl w') := refCounting_any s (hv.keeps B0.out) (hu.keeps B0.out) (by have := hb.1; omega) hb.2.1 (lives_fits hb).2
  have hcl : (countL l (livesM l l) s).length ≤ 1000000 := Nat.le_trans (countL_sub l _ s).length_le (by have := hb.1; omega)
  have ST : Hid (∀ (W : World) (y : Value), OpL W y (countL l (livesM l l) s) → Calls Tryz.prog 80 #[y] W fun e w' => ∃ v', e = .returned v' ∧ Ids w' v' ((countL l (livesM l l) s).map idO) ∧ Below W.heap.size W w') := fun W y h => refStamps_any h hcl
  have hmy := count_may hb (livesM l l) s
  have AM : Hid (∀ (W : World) (y : Value), Ids W y ((countL l (livesM l l) s).map idO) → Calls Tryz.prog 79 #[y] W fun e w' => ∃ v', e = .returned v' ∧ OwnC w' W.heap.size v' (Clocks.among ((countL l (livesM l l) s).map idO)) ∧ Below W.heap.size W w') := fun W y h => Clocks.among_any h hmy.1 hmy.2.1
  obtain ⟨A, hA⟩ : ∃ A, (countL l (livesM l l) s).map idO = A := ⟨_, rfl⟩
  rw [hA] at ST AM ⊢
  obtain ⟨C, hC⟩ : ∃ C, countL l (livesM l l) s = C := ⟨_, rfl⟩
  rw [hC] at CT ST
  obtain ⟨R, hR⟩ : ∃ R, Clocks.among A = R := ⟨_, rfl⟩
  rw [hR] at AM ⊢
  clear hv hu hb hwl hcl hmy hA hC hR
  obtain ⟨ts, rs, hts, hrs⟩ := s
  simp only at Y0 HW CT ⊢
  have d0 := cell_of_row _ _ 0 _ _ _ Y0.out
  have d1 := cell_of_row _ _ 1 _ _ _ Y0.out
  go_enter Tryz.func44, Tryz.ntmps44
  go_wp2_with fail
  rw [← HW.out]
  refine CT.out.mono ?_
  rintro e w1 ⟨v1, rfl, o1, b1⟩
  have O1 := Lib.hid o1
  have B1 := Lib.hid (bt B0.out b1)
  clear b1 o1 Y0 B0 HW CT d0 d1
  go_wp2_with fail
  refine (ST.out _ _ O1.out).mono ?_
  rintro e w2 ⟨v2, rfl, o2, b2⟩
  have O2 := Lib.hid o2
  have B2 := Lib.hid (bt B1.out b2)
  clear b2 o2 O1 B1 ST
  go_wp2_with fail
  refine (AM.out _ _ O2.out).mono ?_
  rintro e w3 ⟨v3, rfl, o3, b3⟩
  have O3 := Lib.hid (Clocks.OwnC.base o3 B2.out.size)
  have B3 := Lib.hid (bt B2.out b3)
  clear b3 o3 O2 B2 AM
  go_wp2
  go_ret
  exact ⟨_, rfl, O3.out, B3.out⟩

set_option maxRecDepth 100000 in
set_option maxHeartbeats 4000000 in
theorem refVersion14_any {v : Value} {l : List Opn} (s : Id) {w : World} (hv : OpL w v l) : Calls Tryz.prog 21 #[v, .agg #[.int .u32 (s.t : Int), .int .u8 (s.r : Int)]] w (Bags.DoneC (versionL l s) (spanE l s) w) := by
  obtain ⟨wl, hwl⟩ : ∃ x, x = w.alloc (.cells #[.int .u32 (s.t : Int), .int .u8 (s.r : Int)] 28) := ⟨_, rfl⟩
  have B0 : Hid (Below w.heap.size w wl) := by rw [hwl]; exact (Below.refl _ _).alloc (Nat.le_refl _) _
  have Y0 : Hid (wl.heap[w.heap.size]? = some (.cells #[.int .u32 (s.t : Int), .int .u8 (s.r : Int)] 28)) := by rw [hwl]; exact blk_new rfl
  have HW := Lib.hid hwl
  have AK : Hid (Calls Tryz.prog 41 #[v, .agg #[.int .u32 (s.t : Int), .int .u8 (s.r : Int)]] wl (AskO l s wl)) := refAsked_any s (hv.keeps B0.out)
  have IN : Hid (Bag l → ∀ (W : World) (y : Value), Below w.heap.size w W → OpL W y (livesM l l) → Calls Tryz.prog 44 #[v, y, .agg #[.int .u32 (s.t : Int), .int .u8 (s.r : Int)]] W fun e w' => ∃ v', e = .returned v' ∧ OwnC w' W.heap.size v' (Clocks.among ((countL l (livesM l l) s).map idO)) ∧ Below W.heap.size W w') := fun hb W y h hy => refKnown_any s (hv.keeps h) hy hb
  have HS : Hid (∀ x : Int, spanE l s = x → x = 0 ∨ ((x == 0) = false ∧ ¬ x = 0)) := fun x h => by
    by_cases e : x = 0
    · exact .inl e
    · exact .inr ⟨by simpa using e, e⟩
  unfold AskO at AK
  by_cases h0 : spanE l s = 0
  rotate_left
  · have e1 : versionL l s = [] := if_neg h0
    obtain ⟨x, hx⟩ : ∃ x, spanE l s = x := ⟨_, rfl⟩
    rw [hx] at h0 AK ⊢
    rw [e1]
    have q0 : (x == 0) = false := by simpa using h0
    have q1 : decide (x = 0) = false := decide_eq_false h0
    clear hv hwl IN HS e1 hx
    obtain ⟨ts, rs, hts, hrs⟩ := s
    simp only at Y0 HW AK ⊢
    have d0 := cell_of_row _ _ 0 _ _ _ Y0.out
    have d1 := cell_of_row _ _ 1 _ _ _ Y0.out
    go_enter Tryz.func21, Tryz.ntmps21
    go_wp2_with fail
    rw [← HW.out]
    refine AK.out.mono ?_
    rintro e w1 ⟨v1, rfl, -, b1⟩
    have B1 := Lib.hid (bt B0.out b1)
    clear b1 Y0 B0 HW AK d0 d1
    go_wp2
    exact bodyPost_ret (v := .tuple #[.slice none 0 0, .int .i64 x]) (by simp [results, Tryz.results21, go_sem]) rfl ⟨_, rfl, Clocks.OwnC.nil _ _, B1.out⟩
  have hb : Bag l := (spanE_zero.1 h0).1
  have IN2 := Lib.hid (IN.out hb)
  have e1 : versionL l s = Clocks.among ((countL l (livesM l l) s).map idO) := if_pos h0
  rw [e1]
  rw [h0] at AK ⊢
  obtain ⟨V, hV⟩ : ∃ V, livesM l l = V := ⟨_, rfl⟩
  rw [hV] at AK IN2 ⊢
  clear hv hwl IN HS e1 hb h0 hV
  obtain ⟨R, hR⟩ : ∃ R, Clocks.among ((countL l V s).map idO) = R := ⟨_, rfl⟩
  rw [hR] at IN2 ⊢
  clear hR
  obtain ⟨ts, rs, hts, hrs⟩ := s
  simp only at Y0 HW AK IN2 ⊢
  have d0 := cell_of_row _ _ 0 _ _ _ Y0.out
  have d1 := cell_of_row _ _ 1 _ _ _ Y0.out
  go_enter Tryz.func21, Tryz.ntmps21
  go_wp2_with fail
  rw [← HW.out]
  refine AK.out.mono ?_
  rintro e w1 ⟨v1, rfl, o1, b1⟩
  have O1 := Lib.hid (o1 (by trivial))
  have B1 := Lib.hid (bt B0.out b1)
  have Y1 := Lib.hid (blk_below b1 Y0.out)
  clear b1 o1 Y0 B0 HW AK d0 d1
  have d0 := cell_of_row _ _ 0 _ _ _ Y1.out
  have d1 := cell_of_row _ _ 1 _ _ _ Y1.out
  go_wp2_with fail
  refine (IN2.out _ _ B1.out O1.out).mono ?_
  rintro e w2 ⟨v2, rfl, o2, b2⟩
  have O2 := Lib.hid o2
  have BZ := Lib.hid B1.out.size
  have B2 := Lib.hid (bt B1.out b2)
  clear b2 o2 d0 d1 Y1 O1 B1 IN2
  go_wp2
  exact bodyPost_ret (v := .tuple #[v2, .int .i64 0]) (by simp [results, Tryz.results21, go_sem]) rfl ⟨_, rfl, Clocks.OwnC.base O2.out BZ.out, B2.out⟩
end Go.Proofs.YtdackenaknieaaaGreat.Covers

/- Lists of operations of the call's own, written over: what stays. Conditions: none. -/
namespace Go.Proofs.YtdackenaknieaaaGreat.Bags
open Go.RowKit Go.WideShapes Stamp Go.Proofs.YtdackenaknieaaaGreat.Place Ops Codes
attribute [local go_sem ↓] Go.wp_at_zero Go.wp_at_succ

/-- Rows of operations and of their runs, from base on, ahead of top. -/
def SplO (w : World) (base top : Nat) (v : Value) (n : Nat) : Prop :=
  ∃ ao cap, v = .slice ao n cap ∧ n ≤ 9223372036854775807 ∧ (n = 0 ∨ ∃ b cb, ao = some ⟨b, 0, none⟩ ∧ base ≤ b ∧ b < top ∧ w.heap[b]? = some (.cells cb 31 (0, 0)) ∧ n * 5 ≤ cb.size ∧ ∀ k, k < n → ∃ so m sc, cb[k * 5 + 3]? = some (.slice so m sc) ∧ m ≤ 9223372036854775807 ∧
    (m = 0 ∨ ∃ g cur, so = some ⟨g, 0, none⟩ ∧ base ≤ g ∧ g < top ∧ g ≠ b ∧ w.heap[g]? = some (.cells cur 49 (0, 0)) ∧ m * 3 ≤ cur.size))
/-- What was there stays so, but from base on, ahead of top. -/
def Sand (base top : Nat) (w w' : World) : Prop := Below base w w' ∧ ∀ j, top ≤ j → w'.heap[j]? = w.heap[j]?
theorem Sand.refl (base top : Nat) (w : World) : Sand base top w w := ⟨Below.refl _ _, fun _ _ => rfl⟩
theorem Sand.trans {base top : Nat} {a b c : World} (h : Sand base top a b) (k : Sand base top b c) : Sand base top a c := ⟨h.1.trans k.1, fun j hj => (k.2 j hj).trans (h.2 j hj)⟩
theorem SplO.stay {w w' : World} {base top n : Nat} {v : Value} (h : SplO w base top v n) (hb : ∀ g o, base ≤ g → g < top → w.heap[g]? = some o → w'.heap[g]? = some o) : SplO w' base top v n := by
  obtain ⟨ao, cap, h1, h2, h3⟩ := h
  refine ⟨ao, cap, h1, h2, ?_⟩
  rcases h3 with h3 | ⟨b, cb, e1, e2, e3, e4, e5, e6⟩
  · exact .inl h3
  · refine .inr ⟨b, cb, e1, e2, e3, hb b _ e2 e3 e4, e5, fun k hk => ?_⟩
    obtain ⟨so, m, sc, f1, f2, f3⟩ := e6 k hk
    refine ⟨so, m, sc, f1, f2, ?_⟩
    rcases f3 with f3 | ⟨g, cur, g1, g2, g3, g4, g5, g6⟩
    · exact .inl f3
    · exact .inr ⟨g, cur, g1, g2, g3, g4, hb g _ g2 g3 g5, g6⟩
theorem SplO.keeps {w w' : World} {base top n : Nat} {v : Value} (h : SplO w base top v n) (hb : Below w.heap.size w w') : SplO w' base top v n :=
  h.stay fun g _ _ _ hg => (hb.block g (Array.getElem?_eq_some_iff.1 hg).1).trans hg
theorem holdP_spl {w : World} {base : Nat} : ∀ {cs : List Value} {l : List Opn}, HoldP w base cs l → ∀ k, k < l.length → ∃ so m sc, cs[k * 5 + 3]? = some (.slice so m sc) ∧ m ≤ 9223372036854775807 ∧
    (m = 0 ∨ ∃ g cur, so = some ⟨g, 0, none⟩ ∧ base ≤ g ∧ g < w.heap.size ∧ w.heap[g]? = some (.cells cur 49 (0, 0)) ∧ m * 3 ≤ cur.size)
  | _, x :: l, ⟨v, d, h1, ho, h3⟩, 0, _ => by
    have hm := Sees.max (Sees.own ho)
    obtain ⟨so, sc, hb⟩ := Sees.shape (Sees.own ho)
    refine ⟨so, x.pl.length, sc, by rw [h1]; simp [hb], hm, ?_⟩
    rcases ho.2 with ⟨h0, h1⟩ | ⟨g, cap, cur, h0, h1, h2, h3, _, h4, _⟩
    · exact .inl h1
    · rw [hb] at h0
      obtain ⟨rfl, -, rfl⟩ := Value.slice.inj h0
      exact .inr ⟨g, cur, rfl, h1, (Array.getElem?_eq_some_iff.1 h2).1, h2, by rw [h4]; exact Nat.mul_le_mul_right 3 h3⟩
  | _, x :: l, ⟨v, d, h1, ho, h3⟩, k + 1, hk => by
    obtain ⟨so, m, sc, h4, h5⟩ := holdP_spl h3 k (by simpa using hk)
    refine ⟨so, m, sc, ?_, h5⟩
    rw [h1, show (k + 1) * 5 + 3 = k * 5 + 3 + 5 by omega]
    simpa using h4
  | _, [], _, k, hk => by simp at hk
theorem op_row {w : World} {base n : Nat} {v : Value} {cs : List Value} (h : w.ownsRow base 31 5 v n cs) : ∀ j cur, v.ownBlock = some j → w.heap[j]? ≠ some (.cells cur 49 (0, 0)) := by
  intro j cur hj he
  rcases h.2 with ⟨h0, _⟩ | ⟨g, cap, cur2, h0, _, hgb, _⟩
  · rw [h0] at hj; cases hj
  · rw [h0] at hj
    simp only [Value.ownBlock, Option.some.injEq] at hj
    subst hj
    rw [hgb] at he
    simp at he
theorem own_spl {w : World} {base : Nat} {v : Value} {l : List Opn} (h : OwnL w base v l) : SplO w base w.heap.size v l.length := by
  obtain ⟨cs, h1, h2⟩ := h
  have hm := Sees.max (Sees.own h1)
  obtain ⟨ao, cap, hv⟩ := Sees.shape (Sees.own h1)
  refine ⟨ao, cap, hv, hm, ?_⟩
  have hr := op_row h1
  have hk := h1
  rcases h1.2 with ⟨_, h0⟩ | ⟨b, cap', cur, h0, e1, e2, e3, _, e4, _⟩
  · exact .inl h0
  · right
    rw [hv] at h0
    obtain ⟨rfl, -, rfl⟩ := Value.slice.inj h0
    refine ⟨b, cur, rfl, e1, (Array.getElem?_eq_some_iff.1 e2).1, e2, by rw [e4]; exact Nat.mul_le_mul_right 5 e3, fun k hkn => ?_⟩
    obtain ⟨so, m, sc, f1, f2, f3⟩ := holdP_spl h2 k hkn
    refine ⟨so, m, sc, ?_, f2, ?_⟩
    · rw [hv] at hk
      rw [← cell_of_row w b (k * 5 + 3) cur _ _ e2, hk.cellAt (k * 5 + 3) (by omega)]
      exact f1
    · rcases f3 with f3 | ⟨g, cu, g1, g2, g3, g4, g5⟩
      · exact .inl f3
      · refine .inr ⟨g, cu, g1, g2, g3, fun e => ?_, g4, g5⟩
        subst e
        exact hr g cu (by rw [hv]; rfl) g4

end Go.Proofs.YtdackenaknieaaaGreat.Bags
