/- octavo/place: Check, stands: what each answers. Conditions: the slice's cells are runs. -/
import Derived.Deep.DeepCutAuto
import Derived.IntWalk
import Derived.Test.YtohiidgdpecbdaaPk02
import Derived.Test.YtohiidgdpecbdaaPk01

namespace Go.Proofs.Ytohiidgdpecbdaa.Place
open Go.RowKit Stamp
attribute [local go_sem ↓] Go.wp_at_zero Go.wp_at_succ
attribute [local go_sem] yielded_undef

theorem keepT1 {wl w1 w2 : World} {h1 : Nat} {c0 c1 c2 : Value} (p1 : Tri wl h1 c0 c1 c2) (h : Below w1.heap.size w1 w2) (hb : Below wl.heap.size wl w1) :
    Below wl.heap.size wl w2 ∧ w2.cell? ⟨h1, 0, none⟩ = some c0 ∧ w2.cell? ⟨h1, 1, none⟩ = some c1 ∧ w2.cell? ⟨h1, 2, none⟩ = some c2 :=
  have b := bt hb h
  ⟨b, (p1.keeps b).2.1, (p1.keeps b).2.2.1, (p1.keeps b).2.2.2⟩
/-- Three cells in the midst of a block. -/
def Mid3 (w : World) (b o1 o2 o3 : Nat) (d0 d1 d2 : Value) : Prop := b < w.heap.size ∧ w.cell? ⟨b, o1, none⟩ = some d0 ∧ w.cell? ⟨b, o2, none⟩ = some d1 ∧ w.cell? ⟨b, o3, none⟩ = some d2
theorem Mid3.keeps {w w' : World} {b o1 o2 o3 : Nat} {d0 d1 d2 : Value} (p : Mid3 w b o1 o2 o3 d0 d1 d2) (hb : Below w.heap.size w w') : Mid3 w' b o1 o2 o3 d0 d1 d2 :=
  ⟨Nat.lt_of_lt_of_le p.1 hb.size, (hb.cell (p := ⟨b, o1, none⟩) p.1).trans p.2.1, (hb.cell (p := ⟨b, o2, none⟩) p.1).trans p.2.2.1, (hb.cell (p := ⟨b, o3, none⟩) p.1).trans p.2.2.2⟩
theorem keepTP {wl w1 w2 : World} {h1 b o1 o2 o3 : Nat} {c0 c1 c2 d0 d1 d2 : Value} (p1 : Tri wl h1 c0 c1 c2) (p2 : Mid3 wl b o1 o2 o3 d0 d1 d2) (h : Below w1.heap.size w1 w2) (hb : Below wl.heap.size wl w1) :
    Below wl.heap.size wl w2 ∧ w2.cell? ⟨h1, 0, none⟩ = some c0 ∧ w2.cell? ⟨h1, 1, none⟩ = some c1 ∧ w2.cell? ⟨h1, 2, none⟩ = some c2 ∧ w2.cell? ⟨b, o1, none⟩ = some d0 ∧ w2.cell? ⟨b, o2, none⟩ = some d1 ∧ w2.cell? ⟨b, o3, none⟩ = some d2 :=
  have a := bt hb h
  ⟨a, (p1.keeps a).2.1, (p1.keeps a).2.2.1, (p1.keeps a).2.2.2, (p2.keeps a).2.1, (p2.keeps a).2.2.1, (p2.keeps a).2.2.2⟩
theorem nextB_iff {x y : Run} {z : Nat} (hz : (z : Int) = (x.t : Int) + (x.m - 1)) : nextB z x.r y.t y.r = true ↔ Next x y := by
  unfold nextB Next fin
  rw [decide_eq_true_iff]
  constructor
  · rintro ⟨h1, h2⟩; exact ⟨by omega, fun h => by have := h2 h; omega⟩
  · rintro ⟨h1, h2⟩; exact ⟨by omega, fun h => by have := h2 h; omega⟩

set_option maxRecDepth 100000 in
set_option maxHeartbeats 8000000 in
theorem check_any {v : Value} {l : List Run} {w : World} (hv : Runs w v l) :
    Calls Try.prog 18 #[v] w fun e w' => e = .returned (.int .i64 (chk l)) ∧ Below w.heap.size w w' := by
  obtain ⟨ao, cap, rfl⟩ := hv.shape
  obtain ⟨n, hn⟩ : ∃ n, n = l.length := ⟨_, rfl⟩
  have hmax : n ≤ 9223372036854775807 := by rw [hn]; exact Sees.max hv
  have HV := Lib.hid hv
  have HN := Lib.hid hn
  rw [← hn]
  clear hv
  have hno : mayB l = false → chk l = 8 := fun h => by unfold chk; rw [h]; rfl
  by_cases h0 : n < 1
  · have t1 : decide ((n : Int) < 1) = true := decide_eq_true (by omega)
    obtain rfl : n = 0 := by omega
    rw [hno (mayB_no (fun h => by have := h.1; omega))]
    clear hn h0 hno
    go_enter Try.func18, Try.ntmps18
    go_wp2
    go_ret
    exact ⟨rfl, Below.refl _ _⟩
  have t1 : decide ((n : Int) < 1) = false := decide_eq_false (by omega)
  by_cases h64 : 64 < n
  · have t2 : decide ((64 : Int) < (n : Int)) = true := decide_eq_true (by omega)
    have t3 : decide (64 < n) = true := decide_eq_true h64
    have t4 : ¬ n = 0 := by omega
    rw [hno (mayB_no (fun h => by have := h.2.1; omega))]
    clear hn h0 hno
    go_enter Try.func18, Try.ntmps18
    go_wp2
    go_ret
    exact ⟨rfl, Below.refl _ _⟩
  have t2 : decide ((64 : Int) < (n : Int)) = false := decide_eq_false (by omega)
  have t3 : decide (64 < n) = false := decide_eq_false h64
  have t4 : ¬ n = 0 := by omega
  have hn64 : n ≤ 64 := by omega
  have HNO := Lib.hid hno
  clear hn h0 hno h64
  go_enter Try.func18, Try.ntmps18
  go_wp2
  go_loopw [3, 16] (fun s i wr => ∃ (k : Nat) (L : Int), k ≤ n ∧ i = .int .i64 (k : Int) ∧ s = .int .i64 L ∧ (0 ≤ L ∧ L ≤ 4096 * (k : Int)) ∧ Hid (L = long (l.take k)) ∧ Hid (Chain (l.take k)) ∧ Hid (Below w.heap.size w wr)) (fun _ i _ => n - (intOf i).toNat)
  case atStart => exact ⟨0, 0, by omega, rfl, rfl, by omega, Lib.hid (by simp [long]), Lib.hid (by simp [Chain]), Lib.hid (Below.refl _ _)⟩
  case round =>
    obtain ⟨k, L, hk, rfl, rfl, hL, hlong, hch, hbel⟩ := hrel
    by_cases hkn : k < n
    · have q1 : decide (k < n) = true := by simpa using hkn
      have V1 : Runs wr (.slice ao n cap) l := by
        have := HV.out.keeps hbel.out
        rwa [← HN.out] at this
      obtain ⟨b, off, rfl, hb, hx0, hx1, hx2⟩ := V1.at k (by rw [← HN.out]; exact hkn)
      have V1' := Lib.hid V1
      obtain ⟨x, hx⟩ : ∃ x, x = l.getD k zrun := ⟨_, rfl⟩
      rw [← hx] at hx0 hx1 hx2
      have hone := oneB_iff x
      have hlt := long_take l k (by rw [← HN.out]; exact hkn)
      rw [← hx, ← hlong.out] at hlt
      obtain ⟨t, r, m, ht, hr, hm⟩ := x
      simp only at hx0 hx1 hx2 hone hlt
      have HX := Lib.hid hx
      have HONE := Lib.hid hone
      have HL2 : Hid (L + m = long (l.take (k + 1))) := hlt.symm
      have q2 : (0 : Int) ≤ (k : Int) := by omega
      have q3 : (k : Int) < (n : Int) := by omega
      obtain ⟨wl, hwl⟩ : ∃ wl, wl = wr.alloc (.cells #[.int .u32 (t : Int), .int .u8 (r : Int), .int .i64 m] 31) := ⟨_, rfl⟩
      have PA : Hid (Tri wl wr.heap.size (.int .u32 (t : Int)) (.int .u8 (r : Int)) (.int .i64 m)) := by rw [hwl]; exact tri_new wr _ _ _ _
      have B0 : Hid (Below wr.heap.size wr wl) := by rw [hwl]; exact (Below.refl _ _).alloc (Nat.le_refl _) _
      have RM := Lib.hid (runMayBe_any t r m)
      clear hx hone V1 hlt
      cases ho : oneB t r m
      · have hno : ¬ May l := fun h => by
          have h1 := chain_one h.2.2.1 (k := k) (by rw [← HN.out]; exact hkn)
          rw [← HX.out] at h1
          have := HONE.out.2 h1
          rw [ho] at this
          cases this
        rw [ho] at RM
        have HF := Lib.hid (HNO.out (mayB_no hno))
        clear hno ho
        go_wp2
        rw [← hwl]
        clear hwl
        refine wp_region_held_drew (S := fun w' => Below wl.heap.size wl w' ∧ w'.cell? ⟨wr.heap.size, 0, none⟩ = some (.int .u32 (t : Int)) ∧ w'.cell? ⟨wr.heap.size, 1, none⟩ = some (.int .u8 (r : Int)) ∧ w'.cell? ⟨wr.heap.size, 2, none⟩ = some (.int .i64 m)) (by kernel_rfl) (keepT1 PA.out (drew1 _) (Below.refl _ _)) (fun hHeld => ?_)
        refine wpAnyH_take (i := 0) (v := ?va0) rfl (by kernel_rfl) (by kernel_rfl) (by kernel_rfl) (fun _ _ _ h => h) (Or.inl ⟨by rfl, ?ya0⟩) (by assumption) ?_
        case ya0 => intro w hSw; (try dsimp only at hSw); go_simp <;> with_reducible rfl
        try simp only [List.getElem_toArray, List.getElem_cons_zero, Act.put, List.setIfInBounds_toArray, List.set_cons_zero, List.set_cons_succ]
        refine wpAnyH_ready (rs := [1]) (by kernel_rfl) (by simp) ?_
        refine AllReadyH.cons rfl (fun K hK => ?_) ?za1
        case za1 => exact AllReadyH.nil
        go_simp
        refine (RM.out _).mono ?_
        rintro e w9 ⟨rfl, b9⟩
        refine hK.out _ _ (keepT1 PA.out b9 hHeld.1) (fun hNew => ?_)
        clear hHeld b9
        have hHeld := hNew
        clear hNew hK K
        try simp only [List.getElem_toArray, List.getElem_cons_succ, List.getElem_cons_zero, Act.put, List.setIfInBounds_toArray, List.set_cons_zero, List.set_cons_succ]
        refine wpAnyH_take (i := 2) (v := ?va2) rfl (by kernel_rfl) (by kernel_rfl) (by kernel_rfl) (fun _ _ _ h => h) (Or.inl ⟨by rfl, ?ya2⟩) (by assumption) ?_
        case ya2 => intro w hSw; (try dsimp only at hSw); go_simp <;> with_reducible rfl
        try simp only [List.getElem_toArray, List.getElem_cons_succ, List.getElem_cons_zero, Act.put, List.setIfInBounds_toArray, List.set_cons_zero, List.set_cons_succ]
        refine wpAnyH_take (i := 3) (v := ?va3) rfl (by kernel_rfl) (by kernel_rfl) (by kernel_rfl) (fun _ _ _ h => h) (Or.inl ⟨by rfl, ?ya3⟩) (by assumption) ?_
        case ya3 => intro w hSw; (try dsimp only at hSw); go_simp <;> with_reducible rfl
        try simp only [List.getElem_toArray, List.getElem_cons_succ, List.getElem_cons_zero, Act.put, List.setIfInBounds_toArray, List.set_cons_zero, List.set_cons_succ]
        refine wpAnyH_take (i := 4) (v := undef) rfl (by kernel_rfl) (by kernel_rfl) (by kernel_rfl) (fun _ _ _ h => h) (Or.inr ⟨by rfl, rfl⟩) (by assumption) ?_
        try simp only [List.getElem_toArray, List.getElem_cons_succ, List.getElem_cons_zero, Act.put, List.setIfInBounds_toArray, List.set_cons_zero, List.set_cons_succ]
        refine wpAnyH_take (i := 5) (v := undef) rfl (by kernel_rfl) (by kernel_rfl) (by kernel_rfl) (fun _ _ _ h => h) (Or.inr ⟨by rfl, rfl⟩) (by assumption) ?_
        try simp only [List.getElem_toArray, List.getElem_cons_succ, List.getElem_cons_zero, Act.put, List.setIfInBounds_toArray, List.set_cons_zero, List.set_cons_succ]
        refine wpAnyH_take (i := 6) (v := undef) rfl (by kernel_rfl) (by kernel_rfl) (by kernel_rfl) (fun _ _ _ h => h) (Or.inr ⟨by rfl, rfl⟩) (by assumption) ?_
        try simp only [List.getElem_toArray, List.getElem_cons_succ, List.getElem_cons_zero, Act.put, List.setIfInBounds_toArray, List.set_cons_zero, List.set_cons_succ]
        refine wpAnyH_take (i := 7) (v := undef) rfl (by kernel_rfl) (by kernel_rfl) (by kernel_rfl) (fun _ _ _ h => h) (Or.inr ⟨by rfl, rfl⟩) (by assumption) ?_
        try simp only [List.getElem_toArray, List.getElem_cons_succ, List.getElem_cons_zero, Act.put, List.setIfInBounds_toArray, List.set_cons_zero, List.set_cons_succ]
        refine wpAnyH_take (i := 8) (v := undef) rfl (by kernel_rfl) (by kernel_rfl) (by kernel_rfl) (fun _ _ _ h => h) (Or.inr ⟨by rfl, rfl⟩) (by assumption) ?_
        try simp only [List.getElem_toArray, List.getElem_cons_succ, List.getElem_cons_zero, Act.put, List.setIfInBounds_toArray, List.set_cons_zero, List.set_cons_succ]
        refine wpAnyH_take (i := 9) (v := undef) rfl (by kernel_rfl) (by kernel_rfl) (by kernel_rfl) (fun _ _ _ h => h) (Or.inr ⟨by rfl, rfl⟩) (by assumption) ?_
        try simp only [List.getElem_toArray, List.getElem_cons_succ, List.getElem_cons_zero, Act.put, List.setIfInBounds_toArray, List.set_cons_zero, List.set_cons_succ]
        refine wpAnyH_take (i := 10) (v := undef) rfl (by kernel_rfl) (by kernel_rfl) (by kernel_rfl) (fun _ _ _ h => h) (Or.inr ⟨by rfl, rfl⟩) (by assumption) ?_
        try simp only [List.getElem_toArray, List.getElem_cons_succ, List.getElem_cons_zero, Act.put, List.setIfInBounds_toArray, List.set_cons_zero, List.set_cons_succ]
        refine wpAnyH_take (i := 11) (v := undef) rfl (by kernel_rfl) (by kernel_rfl) (by kernel_rfl) (fun _ _ _ h => h) (Or.inr ⟨by rfl, rfl⟩) (by assumption) ?_
        try simp only [List.getElem_toArray, List.getElem_cons_succ, List.getElem_cons_zero, Act.put, List.setIfInBounds_toArray, List.set_cons_zero, List.set_cons_succ]
        refine wpAnyH_take (i := 12) (v := undef) rfl (by kernel_rfl) (by kernel_rfl) (by kernel_rfl) (fun _ _ _ h => h) (Or.inr ⟨by rfl, rfl⟩) (by assumption) ?_
        try simp only [List.getElem_toArray, List.getElem_cons_succ, List.getElem_cons_zero, Act.put, List.setIfInBounds_toArray, List.set_cons_zero, List.set_cons_succ]
        refine wpAnyH_take (i := 13) (v := undef) rfl (by kernel_rfl) (by kernel_rfl) (by kernel_rfl) (fun _ _ _ h => h) (Or.inr ⟨by rfl, rfl⟩) (by assumption) ?_
        try simp only [List.getElem_toArray, List.getElem_cons_succ, List.getElem_cons_zero, Act.put, List.setIfInBounds_toArray, List.set_cons_zero, List.set_cons_succ]
        refine wpAnyH_take (i := 14) (v := undef) rfl (by kernel_rfl) (by kernel_rfl) (by kernel_rfl) (fun _ _ _ h => h) (Or.inr ⟨by rfl, rfl⟩) (by assumption) ?_
        try simp only [List.getElem_toArray, List.getElem_cons_succ, List.getElem_cons_zero, Act.put, List.setIfInBounds_toArray, List.set_cons_zero, List.set_cons_succ]
        refine wpAnyH_take (i := 15) (v := undef) rfl (by kernel_rfl) (by kernel_rfl) (by kernel_rfl) (fun _ _ _ h => h) (Or.inr ⟨by rfl, rfl⟩) (by assumption) ?_
        try simp only [List.getElem_toArray, List.getElem_cons_succ, List.getElem_cons_zero, Act.put, List.setIfInBounds_toArray, List.set_cons_zero, List.set_cons_succ]
        refine wpAnyH_take (i := 16) (v := ?va16) rfl (by kernel_rfl) (by kernel_rfl) (by kernel_rfl) (fun _ _ _ h => h) (Or.inl ⟨by rfl, ?ya16⟩) (by assumption) ?_
        case ya16 => intro w hSw; (try dsimp only at hSw); go_simp <;> with_reducible rfl
        try simp only [List.getElem_toArray, List.getElem_cons_succ, List.getElem_cons_zero, Act.put, List.setIfInBounds_toArray, List.set_cons_zero, List.set_cons_succ]
        refine wpAnyH_done (by kernel_rfl) ?_ _
        go_wp2
        go_ret
        exact ⟨by rw [HF.out]; rfl, bt hbel.out (bt B0.out hHeld.1)⟩
      · have hOne := HONE.out.1 ho
        rw [ho] at RM
        have hmb : 1 ≤ m ∧ m ≤ 4096 := ⟨hOne.2.2.2.1, hOne.2.2.2.2.1⟩
        clear ho
        by_cases hk0 : k = 0
        · have HC : Hid (Chain (l.take (k + 1))) := by
            have := chain_take_one l (by rw [← HN.out]; omega) (by rw [← hk0, ← HX.out]; exact hOne)
            rw [hk0]; exact this
          have g1 : decide ((0 : Int) < (k : Int)) = false := decide_eq_false (by omega)
          have g2 : decide (0 < k) = false := decide_eq_false (by omega)
          clear hOne hk0
          go_wp2
          rw [← hwl]
          clear hwl
          refine wp_region_held_drew (S := fun w' => Below wl.heap.size wl w' ∧ w'.cell? ⟨wr.heap.size, 0, none⟩ = some (.int .u32 (t : Int)) ∧ w'.cell? ⟨wr.heap.size, 1, none⟩ = some (.int .u8 (r : Int)) ∧ w'.cell? ⟨wr.heap.size, 2, none⟩ = some (.int .i64 m)) (by kernel_rfl) (keepT1 PA.out (drew1 _) (Below.refl _ _)) (fun hHeld => ?_)
          refine wpAnyH_take (i := 0) (v := ?vb0) rfl (by kernel_rfl) (by kernel_rfl) (by kernel_rfl) (fun _ _ _ h => h) (Or.inl ⟨by rfl, ?yb0⟩) (by assumption) ?_
          case yb0 => intro w hSw; (try dsimp only at hSw); go_simp <;> with_reducible rfl
          try simp only [List.getElem_toArray, List.getElem_cons_zero, Act.put, List.setIfInBounds_toArray, List.set_cons_zero, List.set_cons_succ]
          refine wpAnyH_ready (rs := [1]) (by kernel_rfl) (by simp) ?_
          refine AllReadyH.cons rfl (fun K hK => ?_) ?zb1
          case zb1 => exact AllReadyH.nil
          go_simp
          refine (RM.out _).mono ?_
          rintro e w9 ⟨rfl, b9⟩
          refine hK.out _ _ (keepT1 PA.out b9 hHeld.1) (fun hNew => ?_)
          clear hHeld b9
          have hHeld := hNew
          clear hNew hK K
          try simp only [List.getElem_toArray, List.getElem_cons_succ, List.getElem_cons_zero, Act.put, List.setIfInBounds_toArray, List.set_cons_zero, List.set_cons_succ]
          refine wpAnyH_take (i := 2) (v := ?vb2) rfl (by kernel_rfl) (by kernel_rfl) (by kernel_rfl) (fun _ _ _ h => h) (Or.inl ⟨by rfl, ?yb2⟩) (by assumption) ?_
          case yb2 => intro w hSw; (try dsimp only at hSw); go_simp <;> with_reducible rfl
          try simp only [List.getElem_toArray, List.getElem_cons_succ, List.getElem_cons_zero, Act.put, List.setIfInBounds_toArray, List.set_cons_zero, List.set_cons_succ]
          refine wpAnyH_take (i := 3) (v := ?vb3) rfl (by kernel_rfl) (by kernel_rfl) (by kernel_rfl) (fun _ _ _ h => h) (Or.inl ⟨by rfl, ?yb3⟩) (by assumption) ?_
          case yb3 => intro w hSw; (try dsimp only at hSw); go_simp <;> with_reducible rfl
          try simp only [List.getElem_toArray, List.getElem_cons_succ, List.getElem_cons_zero, Act.put, List.setIfInBounds_toArray, List.set_cons_zero, List.set_cons_succ]
          refine wpAnyH_take (i := 4) (v := ?vb4) rfl (by kernel_rfl) (by kernel_rfl) (by kernel_rfl) (fun _ _ _ h => h) (Or.inl ⟨by rfl, ?yb4⟩) (by assumption) ?_
          case yb4 => intro w hSw; (try dsimp only at hSw); go_simp <;> with_reducible rfl
          try simp only [List.getElem_toArray, List.getElem_cons_succ, List.getElem_cons_zero, Act.put, List.setIfInBounds_toArray, List.set_cons_zero, List.set_cons_succ]
          refine wpAnyH_take (i := 5) (v := ?vb5) rfl (by kernel_rfl) (by kernel_rfl) (by kernel_rfl) (fun _ _ _ h => h) (Or.inl ⟨by rfl, ?yb5⟩) (by assumption) ?_
          case yb5 => intro w hSw; (try dsimp only at hSw); go_simp <;> with_reducible rfl
          try simp only [List.getElem_toArray, List.getElem_cons_succ, List.getElem_cons_zero, Act.put, List.setIfInBounds_toArray, List.set_cons_zero, List.set_cons_succ]
          refine wpAnyH_take (i := 6) (v := ?vb6) rfl (by kernel_rfl) (by kernel_rfl) (by kernel_rfl) (fun _ _ _ h => h) (Or.inl ⟨by rfl, ?yb6⟩) (by assumption) ?_
          case yb6 => intro w hSw; (try dsimp only at hSw); go_simp <;> with_reducible rfl
          try simp only [List.getElem_toArray, List.getElem_cons_succ, List.getElem_cons_zero, Act.put, List.setIfInBounds_toArray, List.set_cons_zero, List.set_cons_succ]
          refine wpAnyH_take (i := 7) (v := undef) rfl (by kernel_rfl) (by kernel_rfl) (by kernel_rfl) (fun _ _ _ h => h) (Or.inr ⟨by rfl, rfl⟩) (by assumption) ?_
          try simp only [List.getElem_toArray, List.getElem_cons_succ, List.getElem_cons_zero, Act.put, List.setIfInBounds_toArray, List.set_cons_zero, List.set_cons_succ]
          refine wpAnyH_take (i := 8) (v := undef) rfl (by kernel_rfl) (by kernel_rfl) (by kernel_rfl) (fun _ _ _ h => h) (Or.inr ⟨by rfl, rfl⟩) (by assumption) ?_
          try simp only [List.getElem_toArray, List.getElem_cons_succ, List.getElem_cons_zero, Act.put, List.setIfInBounds_toArray, List.set_cons_zero, List.set_cons_succ]
          refine wpAnyH_take (i := 9) (v := undef) rfl (by kernel_rfl) (by kernel_rfl) (by kernel_rfl) (fun _ _ _ h => h) (Or.inr ⟨by rfl, rfl⟩) (by assumption) ?_
          try simp only [List.getElem_toArray, List.getElem_cons_succ, List.getElem_cons_zero, Act.put, List.setIfInBounds_toArray, List.set_cons_zero, List.set_cons_succ]
          refine wpAnyH_take (i := 10) (v := undef) rfl (by kernel_rfl) (by kernel_rfl) (by kernel_rfl) (fun _ _ _ h => h) (Or.inr ⟨by rfl, rfl⟩) (by assumption) ?_
          try simp only [List.getElem_toArray, List.getElem_cons_succ, List.getElem_cons_zero, Act.put, List.setIfInBounds_toArray, List.set_cons_zero, List.set_cons_succ]
          refine wpAnyH_take (i := 11) (v := undef) rfl (by kernel_rfl) (by kernel_rfl) (by kernel_rfl) (fun _ _ _ h => h) (Or.inr ⟨by rfl, rfl⟩) (by assumption) ?_
          try simp only [List.getElem_toArray, List.getElem_cons_succ, List.getElem_cons_zero, Act.put, List.setIfInBounds_toArray, List.set_cons_zero, List.set_cons_succ]
          refine wpAnyH_take (i := 12) (v := undef) rfl (by kernel_rfl) (by kernel_rfl) (by kernel_rfl) (fun _ _ _ h => h) (Or.inr ⟨by rfl, rfl⟩) (by assumption) ?_
          try simp only [List.getElem_toArray, List.getElem_cons_succ, List.getElem_cons_zero, Act.put, List.setIfInBounds_toArray, List.set_cons_zero, List.set_cons_succ]
          refine wpAnyH_take (i := 13) (v := undef) rfl (by kernel_rfl) (by kernel_rfl) (by kernel_rfl) (fun _ _ _ h => h) (Or.inr ⟨by rfl, rfl⟩) (by assumption) ?_
          try simp only [List.getElem_toArray, List.getElem_cons_succ, List.getElem_cons_zero, Act.put, List.setIfInBounds_toArray, List.set_cons_zero, List.set_cons_succ]
          refine wpAnyH_take (i := 14) (v := undef) rfl (by kernel_rfl) (by kernel_rfl) (by kernel_rfl) (fun _ _ _ h => h) (Or.inr ⟨by rfl, rfl⟩) (by assumption) ?_
          try simp only [List.getElem_toArray, List.getElem_cons_succ, List.getElem_cons_zero, Act.put, List.setIfInBounds_toArray, List.set_cons_zero, List.set_cons_succ]
          refine wpAnyH_take (i := 15) (v := ?vb15) rfl (by kernel_rfl) (by kernel_rfl) (by kernel_rfl) (fun _ _ _ h => h) (Or.inl ⟨by rfl, ?yb15⟩) (by assumption) ?_
          case yb15 => intro w hSw; (try dsimp only at hSw); go_simp <;> with_reducible rfl
          try simp only [List.getElem_toArray, List.getElem_cons_succ, List.getElem_cons_zero, Act.put, List.setIfInBounds_toArray, List.set_cons_zero, List.set_cons_succ]
          refine wpAnyH_take (i := 16) (v := ?vb16) rfl (by kernel_rfl) (by kernel_rfl) (by kernel_rfl) (fun _ _ _ h => h) (Or.inl ⟨by rfl, ?yb16⟩) (by assumption) ?_
          case yb16 => intro w hSw; (try dsimp only at hSw); go_simp <;> with_reducible rfl
          try simp only [List.getElem_toArray, List.getElem_cons_succ, List.getElem_cons_zero, Act.put, List.setIfInBounds_toArray, List.set_cons_zero, List.set_cons_succ]
          refine wpAnyH_done (by kernel_rfl) ?_ _
          obtain ⟨hH, hA0, hA1, hA2⟩ := hHeld
          go_wp2
          go_roundw
          case rel => exact ⟨k + 1, L + m, by omega, by go_num, rfl, by omega, HL2, HC, Lib.hid (bt hbel.out (bt B0.out hH))⟩
          case measure => simp [intOf]; omega
        · obtain ⟨j, hj⟩ : ∃ j, k = j + 1 := ⟨k - 1, by omega⟩
          have g1 : decide ((0 : Int) < (k : Int)) = true := decide_eq_true (by omega)
          have g2 : decide (0 < k) = true := decide_eq_true (by omega)
          have hchj : Chain (l.take (j + 1)) := by have := hch.out; rwa [hj] at this
          obtain ⟨b', off', he, _, hy0, hy1, hy2⟩ := V1'.out.at j (by rw [← HN.out]; omega)
          obtain ⟨rfl, rfl⟩ : b = b' ∧ off = off' := by simpa using he
          have hOneY : One (l.getD j zrun) := by
            have h1 := chain_one (k := j) hchj (by rw [List.length_take, ← HN.out]; omega)
            have h2 : (l.take (j + 1)).getD j zrun = l.getD j zrun := by simp [List.getD]
            rwa [h2] at h1
          obtain ⟨y, hy⟩ : ∃ y, y = l.getD j zrun := ⟨_, rfl⟩
          rw [← hy] at hy0 hy1 hy2 hOneY
          have hNx : Next y ⟨t, r, m, ht, hr, hm⟩ → Chain (l.take (k + 1)) := fun h => by
            rw [hj]
            refine chain_take_succ l j (by rw [← HN.out]; omega) hchj ?_ ?_
            · rw [← hj, ← HX.out]; exact hOne
            · rw [← hj, ← HX.out, ← hy]; exact h
          have hNo : ¬ Next y ⟨t, r, m, ht, hr, hm⟩ → chk l = 8 := fun h => by
            refine HNO.out (mayB_no (fun hM => h ?_))
            have h1 := chain_next hM.2.2.1 (k := j) (by rw [← HN.out]; omega)
            rw [← hj, ← HX.out, ← hy] at h1
            exact h1
          obtain ⟨z, hz⟩ : ∃ z : Nat, (z : Int) = (y.t : Int) + (y.m - 1) := ⟨((y.t : Int) + (y.m - 1)).toNat, by have := hOneY.2.2.2.1; omega⟩
          have hiff := nextB_iff (y := ⟨t, r, m, ht, hr, hm⟩) hz
          simp only at hiff
          have FW := Lib.hid (fun W => follows_any t r m y.t y.r y.m z hz ⟨hOneY.2.2.2.1, hOneY.2.2.2.2.1⟩ hOneY.2.1 W)
          obtain ⟨q, hq⟩ : ∃ q, nextB z y.r t r = q := ⟨_, rfl⟩
          rw [hq] at FW hiff
          have HC : Hid (q = true → Hid (Chain (l.take (k + 1)))) := fun h => hNx (hiff.1 h)
          have HNo : Hid (q = false → chk l = 8) := fun h => hNo (fun h2 => by have := hiff.2 h2; rw [h] at this; cases this)
          have PB0 : Mid3 wr b (off + j * 3) (off + j * 3 + 1) (off + j * 3 + 2) (.int .u32 (y.t : Int)) (.int .u8 (y.r : Int)) (.int .i64 y.m) := ⟨hb, hy0, hy1, hy2⟩
          have PB := Lib.hid (PB0.keeps B0.out)
          have i1 : (k : Int) - 1 = (j : Int) := by omega
          have i2 : IntKind.i64.wrap (j : Int) = (j : Int) := IntWalk.i64_in _ (by omega)
          have i3 : (0 : Int) ≤ (j : Int) := by omega
          have i4 : (j : Int) < (n : Int) := by omega
          obtain ⟨t0, r0, m0, ht0, hr0, hm0⟩ := y
          simp only at FW PB
          clear hOne hk0 hj hchj he hOneY hy hNx hNo hiff hz hq hy0 hy1 hy2 PB0
          cases q
          · have HF := Lib.hid (HNo.out rfl)
            clear HC HNo
            go_wp2
            rw [← hwl]
            clear hwl
            refine wp_region_held_drew (S := fun w' => Below wl.heap.size wl w' ∧ w'.cell? ⟨wr.heap.size, 0, none⟩ = some (.int .u32 (t : Int)) ∧ w'.cell? ⟨wr.heap.size, 1, none⟩ = some (.int .u8 (r : Int)) ∧ w'.cell? ⟨wr.heap.size, 2, none⟩ = some (.int .i64 m) ∧ w'.cell? ⟨b, off + j * 3, none⟩ = some (.int .u32 (t0 : Int)) ∧ w'.cell? ⟨b, off + j * 3 + 1, none⟩ = some (.int .u8 (r0 : Int)) ∧ w'.cell? ⟨b, off + j * 3 + 2, none⟩ = some (.int .i64 m0)) (by kernel_rfl) (keepTP PA.out PB.out (drew1 _) (Below.refl _ _)) (fun hHeld => ?_)
            refine wpAnyH_take (i := 0) (v := ?vd0) rfl (by kernel_rfl) (by kernel_rfl) (by kernel_rfl) (fun _ _ _ h => h) (Or.inl ⟨by rfl, ?yd0⟩) (by assumption) ?_
            case yd0 => intro w hSw; (try dsimp only at hSw); go_simp <;> with_reducible rfl
            try simp only [List.getElem_toArray, List.getElem_cons_zero, Act.put, List.setIfInBounds_toArray, List.set_cons_zero, List.set_cons_succ]
            refine wpAnyH_ready (rs := [1]) (by kernel_rfl) (by simp) ?_
            refine AllReadyH.cons rfl (fun K hK => ?_) ?zd1
            case zd1 => exact AllReadyH.nil
            go_simp
            refine (RM.out _).mono ?_
            rintro e w9 ⟨rfl, b9⟩
            refine hK.out _ _ (keepTP PA.out PB.out b9 hHeld.1) (fun hNew => ?_)
            clear hHeld b9
            have hHeld := hNew
            clear hNew hK K
            try simp only [List.getElem_toArray, List.getElem_cons_succ, List.getElem_cons_zero, Act.put, List.setIfInBounds_toArray, List.set_cons_zero, List.set_cons_succ]
            refine wpAnyH_take (i := 2) (v := ?vd2) rfl (by kernel_rfl) (by kernel_rfl) (by kernel_rfl) (fun _ _ _ h => h) (Or.inl ⟨by rfl, ?yd2⟩) (by assumption) ?_
            case yd2 => intro w hSw; (try dsimp only at hSw); go_simp <;> with_reducible rfl
            try simp only [List.getElem_toArray, List.getElem_cons_succ, List.getElem_cons_zero, Act.put, List.setIfInBounds_toArray, List.set_cons_zero, List.set_cons_succ]
            refine wpAnyH_take (i := 3) (v := ?vd3) rfl (by kernel_rfl) (by kernel_rfl) (by kernel_rfl) (fun _ _ _ h => h) (Or.inl ⟨by rfl, ?yd3⟩) (by assumption) ?_
            case yd3 => intro w hSw; (try dsimp only at hSw); go_simp <;> with_reducible rfl
            try simp only [List.getElem_toArray, List.getElem_cons_succ, List.getElem_cons_zero, Act.put, List.setIfInBounds_toArray, List.set_cons_zero, List.set_cons_succ]
            refine wpAnyH_take (i := 4) (v := ?vd4) rfl (by kernel_rfl) (by kernel_rfl) (by kernel_rfl) (fun _ _ _ h => h) (Or.inl ⟨by rfl, ?yd4⟩) (by assumption) ?_
            case yd4 => intro w hSw; (try dsimp only at hSw); go_simp <;> with_reducible rfl
            try simp only [List.getElem_toArray, List.getElem_cons_succ, List.getElem_cons_zero, Act.put, List.setIfInBounds_toArray, List.set_cons_zero, List.set_cons_succ]
            refine wpAnyH_take (i := 5) (v := ?vd5) rfl (by kernel_rfl) (by kernel_rfl) (by kernel_rfl) (fun _ _ _ h => h) (Or.inl ⟨by rfl, ?yd5⟩) (by assumption) ?_
            case yd5 => intro w hSw; (try dsimp only at hSw); go_simp <;> with_reducible rfl
            try simp only [List.getElem_toArray, List.getElem_cons_succ, List.getElem_cons_zero, Act.put, List.setIfInBounds_toArray, List.set_cons_zero, List.set_cons_succ]
            refine wpAnyH_take (i := 6) (v := ?vd6) rfl (by kernel_rfl) (by kernel_rfl) (by kernel_rfl) (fun _ _ _ h => h) (Or.inl ⟨by rfl, ?yd6⟩) (by assumption) ?_
            case yd6 => intro w hSw; (try dsimp only at hSw); go_simp <;> with_reducible rfl
            try simp only [List.getElem_toArray, List.getElem_cons_succ, List.getElem_cons_zero, Act.put, List.setIfInBounds_toArray, List.set_cons_zero, List.set_cons_succ]
            refine wpAnyH_take (i := 7) (v := ?vd7) rfl (by kernel_rfl) (by kernel_rfl) (by kernel_rfl) (fun _ _ _ h => h) (Or.inl ⟨by rfl, ?yd7⟩) (by assumption) ?_
            case yd7 => intro w hSw; (try dsimp only at hSw); go_simp <;> with_reducible rfl
            try simp only [List.getElem_toArray, List.getElem_cons_succ, List.getElem_cons_zero, Act.put, List.setIfInBounds_toArray, List.set_cons_zero, List.set_cons_succ]
            refine wpAnyH_take (i := 8) (v := ?vd8) rfl (by kernel_rfl) (by kernel_rfl) (by kernel_rfl) (fun _ _ _ h => h) (Or.inl ⟨by rfl, ?yd8⟩) (by assumption) ?_
            case yd8 => intro w hSw; (try dsimp only at hSw); go_simp <;> with_reducible rfl
            try simp only [List.getElem_toArray, List.getElem_cons_succ, List.getElem_cons_zero, Act.put, List.setIfInBounds_toArray, List.set_cons_zero, List.set_cons_succ]
            refine wpAnyH_take (i := 9) (v := ?vd9) rfl (by kernel_rfl) (by kernel_rfl) (by kernel_rfl) (fun _ _ _ h => h) (Or.inl ⟨by rfl, ?yd9⟩) (by assumption) ?_
            case yd9 => intro w hSw; (try dsimp only at hSw); go_simp <;> with_reducible rfl
            try simp only [List.getElem_toArray, List.getElem_cons_succ, List.getElem_cons_zero, Act.put, List.setIfInBounds_toArray, List.set_cons_zero, List.set_cons_succ]
            refine wpAnyH_take (i := 10) (v := ?vd10) rfl (by kernel_rfl) (by kernel_rfl) (by kernel_rfl) (fun _ _ _ h => h) (Or.inl ⟨by rfl, ?yd10⟩) (by assumption) ?_
            case yd10 => intro w hSw; (try dsimp only at hSw); go_simp <;> with_reducible rfl
            try simp only [List.getElem_toArray, List.getElem_cons_succ, List.getElem_cons_zero, Act.put, List.setIfInBounds_toArray, List.set_cons_zero, List.set_cons_succ]
            refine wpAnyH_take (i := 11) (v := ?vd11) rfl (by kernel_rfl) (by kernel_rfl) (by kernel_rfl) (fun _ _ _ h => h) (Or.inl ⟨by rfl, ?yd11⟩) (by assumption) ?_
            case yd11 => intro w hSw; (try dsimp only at hSw); go_simp <;> with_reducible rfl
            try simp only [List.getElem_toArray, List.getElem_cons_succ, List.getElem_cons_zero, Act.put, List.setIfInBounds_toArray, List.set_cons_zero, List.set_cons_succ]
            refine wpAnyH_take (i := 12) (v := ?vd12) rfl (by kernel_rfl) (by kernel_rfl) (by kernel_rfl) (fun _ _ _ h => h) (Or.inl ⟨by rfl, ?yd12⟩) (by assumption) ?_
            case yd12 => intro w hSw; (try dsimp only at hSw); go_simp <;> with_reducible rfl
            try simp only [List.getElem_toArray, List.getElem_cons_succ, List.getElem_cons_zero, Act.put, List.setIfInBounds_toArray, List.set_cons_zero, List.set_cons_succ]
            refine wpAnyH_ready (rs := [13]) (by kernel_rfl) (by simp) ?_
            refine AllReadyH.cons rfl (fun K hK => ?_) ?zd13
            case zd13 => exact AllReadyH.nil
            go_simp
            refine (FW.out _).mono ?_
            rintro e w9 ⟨rfl, b9⟩
            refine hK.out _ _ (keepTP PA.out PB.out b9 hHeld.1) (fun hNew => ?_)
            clear hHeld b9
            have hHeld := hNew
            clear hNew hK K
            try simp only [List.getElem_toArray, List.getElem_cons_succ, List.getElem_cons_zero, Act.put, List.setIfInBounds_toArray, List.set_cons_zero, List.set_cons_succ]
            refine wpAnyH_take (i := 14) (v := ?vd14) rfl (by kernel_rfl) (by kernel_rfl) (by kernel_rfl) (fun _ _ _ h => h) (Or.inl ⟨by rfl, ?yd14⟩) (by assumption) ?_
            case yd14 => intro w hSw; (try dsimp only at hSw); go_simp <;> with_reducible rfl
            try simp only [List.getElem_toArray, List.getElem_cons_succ, List.getElem_cons_zero, Act.put, List.setIfInBounds_toArray, List.set_cons_zero, List.set_cons_succ]
            refine wpAnyH_take (i := 15) (v := ?vd15) rfl (by kernel_rfl) (by kernel_rfl) (by kernel_rfl) (fun _ _ _ h => h) (Or.inl ⟨by rfl, ?yd15⟩) (by assumption) ?_
            case yd15 => intro w hSw; (try dsimp only at hSw); go_simp <;> with_reducible rfl
            try simp only [List.getElem_toArray, List.getElem_cons_succ, List.getElem_cons_zero, Act.put, List.setIfInBounds_toArray, List.set_cons_zero, List.set_cons_succ]
            refine wpAnyH_take (i := 16) (v := ?vd16) rfl (by kernel_rfl) (by kernel_rfl) (by kernel_rfl) (fun _ _ _ h => h) (Or.inl ⟨by rfl, ?yd16⟩) (by assumption) ?_
            case yd16 => intro w hSw; (try dsimp only at hSw); go_simp <;> with_reducible rfl
            try simp only [List.getElem_toArray, List.getElem_cons_succ, List.getElem_cons_zero, Act.put, List.setIfInBounds_toArray, List.set_cons_zero, List.set_cons_succ]
            refine wpAnyH_done (by kernel_rfl) ?_ _
            go_wp2
            go_ret
            exact ⟨by rw [HF.out]; rfl, bt hbel.out (bt B0.out hHeld.1)⟩
          · have HC2 := HC.out rfl
            clear HNo HC
            go_wp2
            rw [← hwl]
            clear hwl
            refine wp_region_held_drew (S := fun w' => Below wl.heap.size wl w' ∧ w'.cell? ⟨wr.heap.size, 0, none⟩ = some (.int .u32 (t : Int)) ∧ w'.cell? ⟨wr.heap.size, 1, none⟩ = some (.int .u8 (r : Int)) ∧ w'.cell? ⟨wr.heap.size, 2, none⟩ = some (.int .i64 m) ∧ w'.cell? ⟨b, off + j * 3, none⟩ = some (.int .u32 (t0 : Int)) ∧ w'.cell? ⟨b, off + j * 3 + 1, none⟩ = some (.int .u8 (r0 : Int)) ∧ w'.cell? ⟨b, off + j * 3 + 2, none⟩ = some (.int .i64 m0)) (by kernel_rfl) (keepTP PA.out PB.out (drew1 _) (Below.refl _ _)) (fun hHeld => ?_)
            refine wpAnyH_take (i := 0) (v := ?vc0) rfl (by kernel_rfl) (by kernel_rfl) (by kernel_rfl) (fun _ _ _ h => h) (Or.inl ⟨by rfl, ?yc0⟩) (by assumption) ?_
            case yc0 => intro w hSw; (try dsimp only at hSw); go_simp <;> with_reducible rfl
            try simp only [List.getElem_toArray, List.getElem_cons_zero, Act.put, List.setIfInBounds_toArray, List.set_cons_zero, List.set_cons_succ]
            refine wpAnyH_ready (rs := [1]) (by kernel_rfl) (by simp) ?_
            refine AllReadyH.cons rfl (fun K hK => ?_) ?zc1
            case zc1 => exact AllReadyH.nil
            go_simp
            refine (RM.out _).mono ?_
            rintro e w9 ⟨rfl, b9⟩
            refine hK.out _ _ (keepTP PA.out PB.out b9 hHeld.1) (fun hNew => ?_)
            clear hHeld b9
            have hHeld := hNew
            clear hNew hK K
            try simp only [List.getElem_toArray, List.getElem_cons_succ, List.getElem_cons_zero, Act.put, List.setIfInBounds_toArray, List.set_cons_zero, List.set_cons_succ]
            refine wpAnyH_take (i := 2) (v := ?vc2) rfl (by kernel_rfl) (by kernel_rfl) (by kernel_rfl) (fun _ _ _ h => h) (Or.inl ⟨by rfl, ?yc2⟩) (by assumption) ?_
            case yc2 => intro w hSw; (try dsimp only at hSw); go_simp <;> with_reducible rfl
            try simp only [List.getElem_toArray, List.getElem_cons_succ, List.getElem_cons_zero, Act.put, List.setIfInBounds_toArray, List.set_cons_zero, List.set_cons_succ]
            refine wpAnyH_take (i := 3) (v := ?vc3) rfl (by kernel_rfl) (by kernel_rfl) (by kernel_rfl) (fun _ _ _ h => h) (Or.inl ⟨by rfl, ?yc3⟩) (by assumption) ?_
            case yc3 => intro w hSw; (try dsimp only at hSw); go_simp <;> with_reducible rfl
            try simp only [List.getElem_toArray, List.getElem_cons_succ, List.getElem_cons_zero, Act.put, List.setIfInBounds_toArray, List.set_cons_zero, List.set_cons_succ]
            refine wpAnyH_take (i := 4) (v := ?vc4) rfl (by kernel_rfl) (by kernel_rfl) (by kernel_rfl) (fun _ _ _ h => h) (Or.inl ⟨by rfl, ?yc4⟩) (by assumption) ?_
            case yc4 => intro w hSw; (try dsimp only at hSw); go_simp <;> with_reducible rfl
            try simp only [List.getElem_toArray, List.getElem_cons_succ, List.getElem_cons_zero, Act.put, List.setIfInBounds_toArray, List.set_cons_zero, List.set_cons_succ]
            refine wpAnyH_take (i := 5) (v := ?vc5) rfl (by kernel_rfl) (by kernel_rfl) (by kernel_rfl) (fun _ _ _ h => h) (Or.inl ⟨by rfl, ?yc5⟩) (by assumption) ?_
            case yc5 => intro w hSw; (try dsimp only at hSw); go_simp <;> with_reducible rfl
            try simp only [List.getElem_toArray, List.getElem_cons_succ, List.getElem_cons_zero, Act.put, List.setIfInBounds_toArray, List.set_cons_zero, List.set_cons_succ]
            refine wpAnyH_take (i := 6) (v := ?vc6) rfl (by kernel_rfl) (by kernel_rfl) (by kernel_rfl) (fun _ _ _ h => h) (Or.inl ⟨by rfl, ?yc6⟩) (by assumption) ?_
            case yc6 => intro w hSw; (try dsimp only at hSw); go_simp <;> with_reducible rfl
            try simp only [List.getElem_toArray, List.getElem_cons_succ, List.getElem_cons_zero, Act.put, List.setIfInBounds_toArray, List.set_cons_zero, List.set_cons_succ]
            refine wpAnyH_take (i := 7) (v := ?vc7) rfl (by kernel_rfl) (by kernel_rfl) (by kernel_rfl) (fun _ _ _ h => h) (Or.inl ⟨by rfl, ?yc7⟩) (by assumption) ?_
            case yc7 => intro w hSw; (try dsimp only at hSw); go_simp <;> with_reducible rfl
            try simp only [List.getElem_toArray, List.getElem_cons_succ, List.getElem_cons_zero, Act.put, List.setIfInBounds_toArray, List.set_cons_zero, List.set_cons_succ]
            refine wpAnyH_take (i := 8) (v := ?vc8) rfl (by kernel_rfl) (by kernel_rfl) (by kernel_rfl) (fun _ _ _ h => h) (Or.inl ⟨by rfl, ?yc8⟩) (by assumption) ?_
            case yc8 => intro w hSw; (try dsimp only at hSw); go_simp <;> with_reducible rfl
            try simp only [List.getElem_toArray, List.getElem_cons_succ, List.getElem_cons_zero, Act.put, List.setIfInBounds_toArray, List.set_cons_zero, List.set_cons_succ]
            refine wpAnyH_take (i := 9) (v := ?vc9) rfl (by kernel_rfl) (by kernel_rfl) (by kernel_rfl) (fun _ _ _ h => h) (Or.inl ⟨by rfl, ?yc9⟩) (by assumption) ?_
            case yc9 => intro w hSw; (try dsimp only at hSw); go_simp <;> with_reducible rfl
            try simp only [List.getElem_toArray, List.getElem_cons_succ, List.getElem_cons_zero, Act.put, List.setIfInBounds_toArray, List.set_cons_zero, List.set_cons_succ]
            refine wpAnyH_take (i := 10) (v := ?vc10) rfl (by kernel_rfl) (by kernel_rfl) (by kernel_rfl) (fun _ _ _ h => h) (Or.inl ⟨by rfl, ?yc10⟩) (by assumption) ?_
            case yc10 => intro w hSw; (try dsimp only at hSw); go_simp <;> with_reducible rfl
            try simp only [List.getElem_toArray, List.getElem_cons_succ, List.getElem_cons_zero, Act.put, List.setIfInBounds_toArray, List.set_cons_zero, List.set_cons_succ]
            refine wpAnyH_take (i := 11) (v := ?vc11) rfl (by kernel_rfl) (by kernel_rfl) (by kernel_rfl) (fun _ _ _ h => h) (Or.inl ⟨by rfl, ?yc11⟩) (by assumption) ?_
            case yc11 => intro w hSw; (try dsimp only at hSw); go_simp <;> with_reducible rfl
            try simp only [List.getElem_toArray, List.getElem_cons_succ, List.getElem_cons_zero, Act.put, List.setIfInBounds_toArray, List.set_cons_zero, List.set_cons_succ]
            refine wpAnyH_take (i := 12) (v := ?vc12) rfl (by kernel_rfl) (by kernel_rfl) (by kernel_rfl) (fun _ _ _ h => h) (Or.inl ⟨by rfl, ?yc12⟩) (by assumption) ?_
            case yc12 => intro w hSw; (try dsimp only at hSw); go_simp <;> with_reducible rfl
            try simp only [List.getElem_toArray, List.getElem_cons_succ, List.getElem_cons_zero, Act.put, List.setIfInBounds_toArray, List.set_cons_zero, List.set_cons_succ]
            refine wpAnyH_ready (rs := [13]) (by kernel_rfl) (by simp) ?_
            refine AllReadyH.cons rfl (fun K hK => ?_) ?zc13
            case zc13 => exact AllReadyH.nil
            go_simp
            refine (FW.out _).mono ?_
            rintro e w9 ⟨rfl, b9⟩
            refine hK.out _ _ (keepTP PA.out PB.out b9 hHeld.1) (fun hNew => ?_)
            clear hHeld b9
            have hHeld := hNew
            clear hNew hK K
            try simp only [List.getElem_toArray, List.getElem_cons_succ, List.getElem_cons_zero, Act.put, List.setIfInBounds_toArray, List.set_cons_zero, List.set_cons_succ]
            refine wpAnyH_take (i := 14) (v := ?vc14) rfl (by kernel_rfl) (by kernel_rfl) (by kernel_rfl) (fun _ _ _ h => h) (Or.inl ⟨by rfl, ?yc14⟩) (by assumption) ?_
            case yc14 => intro w hSw; (try dsimp only at hSw); go_simp <;> with_reducible rfl
            try simp only [List.getElem_toArray, List.getElem_cons_succ, List.getElem_cons_zero, Act.put, List.setIfInBounds_toArray, List.set_cons_zero, List.set_cons_succ]
            refine wpAnyH_take (i := 15) (v := ?vc15) rfl (by kernel_rfl) (by kernel_rfl) (by kernel_rfl) (fun _ _ _ h => h) (Or.inl ⟨by rfl, ?yc15⟩) (by assumption) ?_
            case yc15 => intro w hSw; (try dsimp only at hSw); go_simp <;> with_reducible rfl
            try simp only [List.getElem_toArray, List.getElem_cons_succ, List.getElem_cons_zero, Act.put, List.setIfInBounds_toArray, List.set_cons_zero, List.set_cons_succ]
            refine wpAnyH_take (i := 16) (v := ?vc16) rfl (by kernel_rfl) (by kernel_rfl) (by kernel_rfl) (fun _ _ _ h => h) (Or.inl ⟨by rfl, ?yc16⟩) (by assumption) ?_
            case yc16 => intro w hSw; (try dsimp only at hSw); go_simp <;> with_reducible rfl
            try simp only [List.getElem_toArray, List.getElem_cons_succ, List.getElem_cons_zero, Act.put, List.setIfInBounds_toArray, List.set_cons_zero, List.set_cons_succ]
            refine wpAnyH_done (by kernel_rfl) ?_ _
            obtain ⟨hH, hA0, hA1, hA2, _, _, _⟩ := hHeld
            go_wp2
            go_roundw
            case rel => exact ⟨k + 1, L + m, by omega, by go_num, rfl, by omega, HL2, HC2.out, Lib.hid (bt hbel.out (bt B0.out hH))⟩
            case measure => simp [intOf]; omega
    · have q1 : decide (k < n) = false := by simpa using hkn
      have hkk : l.take k = l := List.take_of_length_le (by have := HN.out; omega)
      have hc : Chain l := by have := hch.out; rwa [hkk] at this
      have hl : L = long l := by have := hlong.out; rwa [hkk] at this
      by_cases hbig : 4096 < L
      · have t5 : decide (4096 < L) = true := decide_eq_true hbig
        have HF := Lib.hid (HNO.out (mayB_no (fun hM => by have := hM.2.2.2; omega)))
        clear hkk hc hl
        go_wp2
        go_ret
        exact ⟨by rw [HF.out]; rfl, hbel.out⟩
      · have t5 : decide (4096 < L) = false := decide_eq_false hbig
        have HF : Hid (chk l = 0) := by
          show _ = _
          unfold chk
          rw [if_pos ((mayB_iff l).2 ⟨by have := HN.out; omega, by have := HN.out; omega, hc, by omega⟩)]
        clear hkk hc hl
        go_wp2
        go_ret
        exact ⟨by rw [HF.out]; rfl, hbel.out⟩

theorem check_is {v : Value} {l : List Run} {w : World} (hv : Runs w v l) {c : Int} (h : chk l = c) :
    Calls Try.prog 18 #[v] w fun e w' => e = .returned (.int .i64 c) ∧ Below w.heap.size w w' := by
  rw [← h]; exact check_any hv

theorem stands_any {v : Value} {l : List Run} {w : World} (hv : Runs w v l) :
    Calls Try.prog 30 #[v] w fun e w' => e = .returned (.bool (anyB l)) ∧ Below w.heap.size w w' := by
  obtain ⟨ao, cap, rfl⟩ := hv.shape
  obtain ⟨n, hn⟩ : ∃ n, n = l.length := ⟨_, rfl⟩
  obtain ⟨mb, hmb⟩ : ∃ mb, mayB l = mb := ⟨_, rfl⟩
  have M : Hid (Calls Try.prog 18 #[.slice ao l.length cap] w fun e w' => e = .returned (.int .i64 (if mb = true then 0 else 8)) ∧ Below w.heap.size w w') := check_is hv (by unfold chk; rw [hmb])
  have HA : Hid (anyB l = (decide (n = 0) || mb)) := by show _ = _; unfold anyB; rw [hmb, hn]
  rw [← hn] at M ⊢
  rw [HA.out]
  clear hv hmb hn HA
  by_cases h0 : n = 0
  · subst h0
    go_enter Try.func30, Try.ntmps30
    go_wp2
    go_ret
    exact ⟨rfl, Below.refl _ _⟩
  · rw [decide_eq_false h0, Bool.false_or]
    have t1 : ((n : Int) == 0) = false := by simp; omega
    cases mb
    all_goals
      simp only [Bool.false_eq_true, if_false, if_true] at M
      go_enter Try.func30, Try.ntmps30
      go_wp2_with fail
      refine M.out.mono ?_
      rintro e w1 ⟨rfl, b1⟩
      go_wp2
      go_ret
      exact ⟨rfl, b1⟩
theorem stands_is {v : Value} {l : List Run} {w : World} (hv : Runs w v l) {b : Bool} (h : anyB l = b) :
    Calls Try.prog 30 #[v] w fun e w' => e = .returned (.bool b) ∧ Below w.heap.size w w' := by
  rw [← h]; exact stands_any hv
end Go.Proofs.Ytohiidgdpecbdaa.Place

/- octavoref06.cut, Held, First: what each answers. Conditions: the slices' cells are runs that may stand one behind the other. -/
namespace Go.Proofs.Ytohiidgdpecbdaa.Place
open Go.RowKit Stamp
attribute [local go_sem ↓] Go.wp_at_zero Go.wp_at_succ

/-- What is behind the first run. -/
theorem Runs.rest {w : World} {b off n cap : Nat} {x : Run} {q : List Run} (h : Runs w (.slice (some ⟨b, off, none⟩) n cap) (x :: q)) : Runs w (.slice (some (if cap = 1 then ⟨b, off, none⟩ else ⟨b, off + 3, none⟩)) (n - 1) (cap - 1)) q := by
  have hcap := Sees.cap h
  by_cases hc : cap = 1
  · rw [if_pos hc]
    have hq : q = [] := by
      cases q with
      | nil => rfl
      | cons y q => simp at hcap; omega
    subst hq
    refine ⟨rfl, some ⟨b, off, none⟩, cap - 1, by simp at hcap; simp [hcap.1], by simp, by omega, by simp, .inl rfl⟩
  · rw [if_neg hc]
    have := Go.Proofs.Ytohiidgdpecbdaa.Runs.tail h (k := 1) (by simp)
    simpa using this

end Go.Proofs.Ytohiidgdpecbdaa.Place

/- octavoref05: what May, Check, Less, Top and Next answer. Conditions: the slice's cells are stamps. -/
namespace Go.Proofs.Ytohiidgdpecbdaa.Stamp
open Go.RowKit Flo

end Go.Proofs.Ytohiidgdpecbdaa.Stamp

/- octavoref06.Held: what it answers. Conditions: the slices' cells are runs; they may stand one behind the other, at most 100 of them. -/
namespace Go.Proofs.Ytohiidgdpecbdaa.Place
open Go.RowKit Stamp
attribute [local go_sem ↓] Go.wp_at_zero Go.wp_at_succ

/-- How many stamps, as a natural number; and read out of the cells. -/
def nl : List Run → Nat
  | [] => 0
  | x :: p => x.m.toNat + nl p
def tot (w : World) (b off : Nat) : Nat → Nat
  | 0 => 0
  | k + 1 => tot w b off k + (match w.cell? ⟨b, off + k * 3 + 2, none⟩ with | some (.int _ m) => m.toNat | _ => 0)
def totV (w : World) : Value → Nat
  | .slice (some a) n _ => tot w a.block a.off n
  | _ => 0
theorem nl_append : ∀ p q : List Run, nl (p ++ q) = nl p + nl q
  | [], q => by simp [nl]
  | x :: p, q => by simp [nl, nl_append p q]; omega
theorem totV_runs {w : World} {v : Value} {l : List Run} (h : Runs w v l) : totV w v = nl l := by
  obtain ⟨ao, cap, rfl⟩ := h.shape
  cases ao with
  | none =>
    have hc := Sees.cap h
    have : l = [] := List.length_eq_zero_iff.1 (by have := hc.2.2.2 rfl; omega)
    subst this
    rfl
  | some a =>
    by_cases hl : l = []
    · subst hl; rfl
    · have hpos : 0 < l.length := by cases l with | nil => exact absurd rfl hl | cons x p => simp
      obtain ⟨b, off, he, _, _⟩ := h.at 0 hpos
      cases he
      have key : ∀ k, k ≤ l.length → tot w b off k = nl (l.take k) := by
        intro k
        induction k with
        | zero => intro _; rfl
        | succ k ih =>
          intro hk
          obtain ⟨b', off', he, _, _, _, h2⟩ := h.at k (by omega)
          cases he
          rw [tot, ih (by omega), h2, List.take_succ_eq_append_getElem (by omega), nl_append]
          simp [nl, List.getD, List.getElem?_eq_getElem (show k < l.length by omega)]
      show tot w b off l.length = nl l
      rw [key _ (Nat.le_refl _), List.take_length]
end Go.Proofs.Ytohiidgdpecbdaa.Place

/- octavoref06.First, Compare, Begins: what each answers. Conditions: the slices' cells are runs; First: they may stand one behind the other, at most 100 of them. -/
namespace Go.Proofs.Ytohiidgdpecbdaa.Place
open Go.RowKit Stamp
attribute [local go_sem ↓] Go.wp_at_zero Go.wp_at_succ

theorem Any.len {p : List Run} (h : Any p) : p.length ≤ 64 := by
  rcases h with rfl | h
  · simp
  · exact h.2.1
def cmp (p q : List Run) : Int := if anyB p = true ∧ anyB q = true then hold (all p) (all q) else 0
end Go.Proofs.Ytohiidgdpecbdaa.Place

/- octavoref06.Final, Last, All, Ids: what each answers. Conditions: the slice's cells are runs. -/
namespace Go.Proofs.Ytohiidgdpecbdaa.Place
open Go.RowKit Stamp
attribute [local go_sem ↓] Go.wp_at_zero Go.wp_at_succ

/-- The last stamp, or the zero one. -/
def lastV (l : List Run) : Int × Int := if mayB l = true then (((l.getD (l.length - 1) zrun).t : Int) + ((l.getD (l.length - 1) zrun).m - 1), ((l.getD (l.length - 1) zrun).r : Int)) else (0, 0)
theorem up_snoc (t r j : Nat) : up t r (j + 1) = up t r j ++ [mk (t + j) r] := by rw [up_add]; rfl
end Go.Proofs.Ytohiidgdpecbdaa.Place

/- octavoref06.Ids, SameIds, More: what each answers. Conditions: the slices' cells are runs (stamps). -/
namespace Go.Proofs.Ytohiidgdpecbdaa.Place
open Go.RowKit Stamp
attribute [local go_sem ↓] Go.wp_at_zero Go.wp_at_succ
attribute [local go_sem] yielded_undef

end Go.Proofs.Ytohiidgdpecbdaa.Place

/- octavo/place: cut, orNext: what each answers. Conditions: the numbers fit; the slice's cells are runs. -/
namespace Go.Proofs.Ytohiidgdpecbdaa.Place
open Go.RowKit Stamp
attribute [local go_sem ↓] Go.wp_at_zero Go.wp_at_succ

set_option maxHeartbeats 1000000 in
theorem pcut_any (t r : Nat) (m : Int) (n : Nat) (ht : t + n ≤ 1073750000) (hm : 0 ≤ m ∧ m ≤ 4096) (hn : n ≤ 4096) (w : World) :
    Calls Try.prog 53 #[.agg #[.int .u32 (t : Int), .int .u8 (r : Int), .int .i64 m], .int .i64 (n : Int)] w fun e w' => e = .returned (.tuple #[.agg #[.int .u32 (t : Int), .int .u8 (r : Int), .int .i64 (n : Int)], .agg #[.int .u32 ((t : Int) + (n : Int)), .int .u8 (r : Int), .int .i64 (m - n)]]) ∧ Below w.heap.size w w' := by
  have e1 : IntKind.u32.wrap ((t : Int) + (n : Int)) = (t : Int) + (n : Int) := by rw [IntKind.wrap_u32]; omega
  have e2 : IntKind.i64.wrap (m - (n : Int)) = m - (n : Int) := IntWalk.i64_in _ (by omega)
  have e3 : IntKind.u32.wrap (n : Int) = (n : Int) := by rw [IntKind.wrap_u32]; omega
  have e4 : (n : Int) ≤ 4096 := by omega
  obtain ⟨o1, o2⟩ := hm
  have BW := Lib.hid (((Below.refl w.heap.size w).alloc (Nat.le_refl _) (.cells #[.int .u32 (t : Int), .int .u8 (r : Int), .int .i64 m] 31)).alloc (by simp) (.cells #[.int .u32 0, .int .u8 0, .int .i64 0] 31))
  go_enter Try.func53, Try.ntmps53
  go_wp2
  go_region
  go_wp2
  refine bodyPost_ret (v := .tuple #[.agg #[.int .u32 (t : Int), .int .u8 (r : Int), .int .i64 (n : Int)], .agg #[.int .u32 ((t : Int) + (n : Int)), .int .u8 (r : Int), .int .i64 (m - n)]]) (by simp [results, Try.results53, go_sem]) rfl ⟨rfl, ?_⟩
  exact ((((Below.refl _ _).alloc (Nat.le_refl _) _).alloc (by simp) _).alloc (by simp; omega) _).drew

/-- The run to go on with, and the runs behind. -/
def nx (x : Run) : List Run → Run × List Run
  | [] => (x, [])
  | y :: q => if 0 < x.m then (x, y :: q) else (y, q)
set_option maxHeartbeats 1000000 in
theorem orNext_any {v : Value} {x : Run} {p : List Run} {w : World} (hv : Runs w v p) :
    Calls Try.prog 52 #[.agg #[.int .u32 (x.t : Int), .int .u8 (x.r : Int), .int .i64 x.m], v] w fun e w' => ∃ v', e = .returned (.tuple #[.agg #[.int .u32 ((nx x p).1.t : Int), .int .u8 ((nx x p).1.r : Int), .int .i64 (nx x p).1.m], v']) ∧ (∀ W : World, Runs W v p → Runs W v' (nx x p).2) ∧ Below w.heap.size w w' := by
  obtain ⟨ao, cap, rfl⟩ := hv.shape
  have HV := Lib.hid hv
  have B2 := Lib.hid (((Below.refl w.heap.size w).alloc (Nat.le_refl _) (.cells #[.int .u32 (x.t : Int), .int .u8 (x.r : Int), .int .i64 x.m] 31)).alloc (by simp) (.cells #[.int .u32 (x.t : Int), .int .u8 (x.r : Int), .int .i64 x.m] 31))
  by_cases hm : 0 < x.m
  · have e : nx x p = (x, p) := by cases p with | nil => rfl | cons y q => simp [nx, hm]
    rw [e]
    have t1 : decide (0 < x.m) = true := decide_eq_true hm
    obtain ⟨t, r, m, ht, hr, hmm⟩ := x
    simp only at t1 B2 ⊢
    clear e hm hv
    go_enter Try.func52, Try.ntmps52
    go_wp2
    refine bodyPost_ret (v := .tuple #[.agg #[.int .u32 (t : Int), .int .u8 (r : Int), .int .i64 m], .slice ao p.length cap]) (by simp [results, Try.results52, go_sem]) rfl ⟨_, rfl, fun W hW => hW, B2.out⟩
  · have t1 : decide (0 < x.m) = false := decide_eq_false hm
    cases p with
    | nil =>
      have e : nx x [] = (x, []) := rfl
      rw [e]
      obtain ⟨t, r, m, ht, hr, hmm⟩ := x
      simp only [List.length_nil] at t1 B2 HV ⊢
      clear e hm hv
      go_enter Try.func52, Try.ntmps52
      go_wp2
      refine bodyPost_ret (v := .tuple #[.agg #[.int .u32 (t : Int), .int .u8 (r : Int), .int .i64 m], .slice ao 0 cap]) (by simp [results, Try.results52, go_sem]) rfl ⟨_, rfl, fun W hW => hW, B2.out⟩
    | cons y q =>
      have e : nx x (y :: q) = (y, q) := by simp [nx, hm]
      rw [e]
      obtain ⟨b, off, rfl, hb, hx0, hx1, hx2⟩ := hv.at 0 (by simp)
      have hcap := Sees.cap hv
      have RT : Hid (∀ W : World, Runs W (.slice (some ⟨b, off, none⟩) (y :: q).length cap) (y :: q) → Runs W (.slice (some (if cap = 1 then ⟨b, off, none⟩ else ⟨b, off + 3, none⟩)) ((y :: q).length - 1) (cap - 1)) q) := fun W hW => Runs.rest hW
      obtain ⟨n, hn⟩ : ∃ n, n = (y :: q).length := ⟨_, rfl⟩
      rw [← hn] at hcap RT HV ⊢
      have hx0 : w.cell? ⟨b, off, none⟩ = some (.int .u32 (y.t : Int)) := by simpa using hx0
      have hx1 : w.cell? ⟨b, off + 1, none⟩ = some (.int .u8 (y.r : Int)) := by simpa using hx1
      have hx2 : w.cell? ⟨b, off + 2, none⟩ = some (.int .i64 y.m) := by simpa using hx2
      obtain ⟨t, r, m, ht, hr, hmm⟩ := x
      obtain ⟨yt, yr, ym, hyt, hyr, hym⟩ := y
      simp only at hx0 hx1 hx2 t1 ⊢
      have hl1 : 1 ≤ n := by rw [hn]; simp
      have q0 : 0 < n := hl1
      have q1 : (0 : Int) < (n : Int) := by omega
      have q2 : (1 : Int) ≤ (n : Int) := by omega
      have q3 : ((n : Int) == 0) = false := by simp; omega
      have q4 : ¬ n = 0 := by omega
      have hlc : n ≤ cap := hcap.2.1
      have hcm : cap ≤ 9223372036854775807 := hcap.2.2.1
      have hb1 : ¬ b = w.heap.size := by omega
      have hb2 : ¬ b = w.heap.size + 1 := by omega
      have BW := Lib.hid ((((Below.refl w.heap.size w).alloc (Nat.le_refl _) (.cells #[.int .u32 (t : Int), .int .u8 (r : Int), .int .i64 m] 31)).alloc (by simp) (.cells #[.int .u32 (yt : Int), .int .u8 (yr : Int), .int .i64 ym] 31)).drew)
      clear e hm hv hn hcap B2
      by_cases hc : cap = 1
      · subst hc
        obtain rfl : n = 1 := by omega
        go_enter Try.func52, Try.ntmps52
        go_wp2
        go_region
        go_wp2
        refine bodyPost_ret (v := .tuple #[.agg #[.int .u32 (yt : Int), .int .u8 (yr : Int), .int .i64 ym], .slice (some ⟨b, off, none⟩) 0 0]) (by simp [results, Try.results52, go_sem]) rfl ⟨_, rfl, fun W hW => ?_, BW.out⟩
        have h := RT.out W hW
        simp only [if_true] at h
        exact h
      · have hc' : (1 : Int) < (cap : Int) := by omega
        have RT2 : Hid (∀ W : World, Runs W (.slice (some ⟨b, off, none⟩) n cap) (⟨yt, yr, ym, hyt, hyr, hym⟩ :: q) → Runs W (.slice (some ⟨b, off + 3, none⟩) (n - 1) (cap - 1)) q) := fun W hW => by
          have := RT.out W hW
          rwa [if_neg hc] at this
        clear RT
        go_enter Try.func52, Try.ntmps52
        go_wp2
        go_region
        go_wp2
        refine bodyPost_ret (v := .tuple #[.agg #[.int .u32 (yt : Int), .int .u8 (yr : Int), .int .i64 ym], .slice (some ⟨b, off + 3, none⟩) (n - 1) (cap - 1)]) (by simp [results, Try.results52, go_sem]) rfl ⟨_, rfl, RT2.out, BW.out⟩
end Go.Proofs.Ytohiidgdpecbdaa.Place
