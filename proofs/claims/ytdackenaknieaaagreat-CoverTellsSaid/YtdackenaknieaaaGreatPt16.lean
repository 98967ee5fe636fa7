/- octavoref12.Lives, Live: what each answers. Conditions: of Lives: operations that may be, not too many. -/
import Derived.Test.YtdackenaknieaaaGreatPt15
import Derived.Test.YtdackenaknieaaaGreatPt12
import Derived.Test.YtdackenaknieaaaGreatPt14
import Derived.Test.YtdackenaknieaaaGreatPt13

namespace Go.Proofs.YtdackenaknieaaaGreat.Marks
open Go.RowKit Go.WideShapes Stamp Go.Proofs.YtdackenaknieaaaGreat.Place Ops Codes Bags
attribute [local go_sem ↓] Go.wp_at_zero Go.wp_at_succ
attribute [local go_sem] yielded_undef

theorem refHeldM_any {a b : Value} {x y : Opn} {w : World} (ha : Runs w a x.pl) (hb : Runs w b y.pl) (hx : mayO x = true) (hy : mayO y = true) :
    Calls Tryz.prog 114 #[a, b] w fun e w' => e = .returned (.int .i64 (cmp x.pl y.pl)) ∧ Below w.heap.size w w' := by
  have m1 := (mayB_iff _).1 (mayO_parts hx).2.1
  have m2 := (mayB_iff _).1 (mayO_parts hy).2.1
  have e : cmp x.pl y.pl = Go.Proofs.YtdackenaknieaaaGreat.Place.hold (all x.pl) (all y.pl) := by unfold cmp; rw [if_pos ⟨anyB_may (mayO_parts hx).2.1, anyB_may (mayO_parts hy).2.1⟩]
  rw [e]
  exact held_any ha hb m1.2.2.1 m2.2.2.1 (Nat.le_trans m1.2.1 (by decide)) (Nat.le_trans m2.2.1 (by decide))

set_option maxRecDepth 100000 in
set_option maxHeartbeats 16000000 in
theorem refLives_any {v0 : Value} {l : List Opn} {w : World} (hv : OpL w v0 l) (hm : ∀ o ∈ l, mayO o = true) (hl : l.length ≤ 1024) :
    Calls Tryz.prog 74 #[v0] w fun e w' => ∃ v', e = .returned v' ∧ OpL w' v' (livesM l l) ∧ Below w.heap.size w w' := by
  obtain ⟨ao, cap, rfl⟩ := hv.shape
  obtain ⟨n, hn⟩ : ∃ n, n = l.length := ⟨_, rfl⟩
  have hnm : n ≤ 1024 := by omega
  have HV : Hid (∀ W : World, Below w.heap.size w W → OpL W (.slice ao l.length cap) l) := fun W h => hv.keeps h
  have HN := Lib.hid hn
  have HMY := Lib.hid hm
  have EN : Hid (∀ (x : Opn) (W : World), Below w.heap.size w W → Calls Tryz.prog 113 #[.slice ao n cap, .agg #[.int .u32 (x.t : Int), .int .u8 (x.r : Int)]] W fun e w' => e = .returned (.bool (ended l (idO x))) ∧ Below W.heap.size W w') := fun x W h => by
    have := refEnded_any (idO x) (HV.out W h) HMY.out
    rw [← hn] at this
    exact this
  rw [← hn]
  have S0 : Hid (ShrO w w (.slice none 0 0) (livesM l (l.take 0))) := Shr.nil _ _ _ _
  have M0 : Hid (0 = (livesM l (l.take 0)).length) := rfl
  have B0 : Hid (Below w.heap.size w w) := Below.refl _ _
  clear hv hn hl hm
  go_enter Tryz.func74, Tryz.ntmps74
  go_wp2
  go_loopw [3, 4] (fun v i wr => ∃ j m : Nat, j ≤ n ∧ i = .int .i64 (j : Int) ∧ (∃ ao cap, v = .slice ao m cap) ∧ Hid (m = (livesM l (l.take j)).length) ∧ Hid (ShrO w wr v (livesM l (l.take j))) ∧ Hid (Below w.heap.size w wr)) (fun _ i _ => n - (intOf i).toNat)
  case atStart => exact ⟨0, 0, by omega, rfl, ⟨none, 0, rfl⟩, M0, S0, B0⟩
  case round =>
    clear S0 M0 B0
    obtain ⟨j, m, hj, rfl, ⟨aoL, capL, rfl⟩, HM, hshr, hbel⟩ := hrel
    by_cases hjn : j < n
    rotate_left
    · have q3 : decide (j < n) = false := by simpa using hjn
      have hkk : l.take j = l := List.take_of_length_le (by have := HN.out; omega)
      rw [hkk] at hshr
      clear hkk
      go_wp2
      go_ret
      exact ⟨_, rfl, hshr.out.seq hbel.out, hbel.out⟩
    have q3 : decide (j < n) = true := by simpa using hjn
    have q4 : (0 : Int) ≤ (j : Int) := by omega
    have q5 : (j : Int) < (n : Int) := by omega
    have hjl : j < l.length := by rw [← HN.out]; exact hjn
    have hmj : m ≤ j := by have h1 := livesM_le l (l.take j); rw [List.length_take] at h1; have := HM.out; omega
    obtain ⟨bb, oo, u, e, hbb, hru, h0, h1, h2, h3, h4⟩ := opl_at (HV.out w (Below.refl _ _)) j hjl
    subst e
    obtain ⟨x, hx⟩ : ∃ x, x = l[j]'hjl := ⟨_, rfl⟩
    rw [← hx] at hru h0 h1 h2 h4
    have HO : Hid (∀ v : Value, opv x v = .agg #[.int .u8 (x.k : Int), .int .u32 (x.t : Int), .int .u8 (x.r : Int), v, .int .i64 x.p]) := fun v => rfl
    replace h0 := ((hbel.out).cell (p := ⟨bb, oo + j * 5, none⟩) hbb).trans h0
    replace h1 := ((hbel.out).cell (p := ⟨bb, oo + j * 5 + 1, none⟩) hbb).trans h1
    replace h2 := ((hbel.out).cell (p := ⟨bb, oo + j * 5 + 2, none⟩) hbb).trans h2
    replace h3 := ((hbel.out).cell (p := ⟨bb, oo + j * 5 + 3, none⟩) hbb).trans h3
    replace h4 := ((hbel.out).cell (p := ⟨bb, oo + j * 5 + 4, none⟩) hbb).trans h4
    have hbo := hbb
    replace hbb := Nat.lt_of_lt_of_le hbb (hbel.out).size
    obtain ⟨uo, uc, rfl⟩ := hru.shape
    obtain ⟨nu, hnu⟩ : ∃ n, n = x.pl.length := ⟨_, rfl⟩
    have HNU := Lib.hid hnu
    rw [← hnu] at hru h3
    clear hnu
    have hxm : x ∈ l := by rw [hx]; exact List.getElem_mem _
    have MX := Lib.hid (HMY.out x hxm)
    have RX : Hid (Runs w (.slice uo nu uc) x.pl) := hru
    have INN : Hid (opE.inn w [.int .u8 (x.k : Int), .int .u32 (x.t : Int), .int .u8 (x.r : Int), .slice uo nu uc, .int .i64 x.p] x) := ⟨_, rfl, hru⟩
    have ST : Hid (livesM l (l.take (j + 1)) = if x.k = 2 ∧ ended l (idO x) = false then insM (livesM l (l.take j)) x else livesM l (l.take j)) := by unfold Hid; rw [List.take_succ_eq_append_getElem hjl, livesM_snoc, ← hx]; rfl
    have EX := Lib.hid (EN.out x)
    have ML : Hid (∀ y ∈ livesM l (l.take j), mayO y = true) := fun y hy => HMY.out y (List.mem_of_mem_take (mem_livesM.1 hy).1)
    obtain ⟨out, hout⟩ : ∃ z, livesM l (l.take j) = z := ⟨_, rfl⟩
    rw [hout] at HM hshr ST ML
    obtain ⟨en, hen⟩ : ∃ b, ended l (idO x) = b := ⟨_, rfl⟩
    rw [hen] at EX ST
    clear hx hru hxm hout hen
    obtain ⟨k, hk⟩ : ∃ z, x.k = z := ⟨_, rfl⟩
    obtain ⟨t, ht⟩ : ∃ z, x.t = z := ⟨_, rfl⟩
    obtain ⟨r, hr⟩ : ∃ z, x.r = z := ⟨_, rfl⟩
    obtain ⟨p, hp⟩ : ∃ z, x.p = z := ⟨_, rfl⟩
    rw [hk, ht, hr, hp] at HO
    rw [hk] at h0
    rw [ht] at h1
    rw [hr] at h2
    rw [hp] at h4
    rw [hk, ht, hr, hp] at INN
    rw [ht, hr] at EX
    rw [hk] at ST
    have F1 : Hid (FiveAt wr bb (oo + j * 5) (.int .u8 (k : Int)) (.int .u32 (t : Int)) (.int .u8 (r : Int)) (.slice uo nu uc) (.int .i64 p)) := ⟨hbb, h0, h1, h2, h3, h4⟩
    have SK : Hid (∀ w' : World, Below wr.heap.size wr w' → Below wr.heap.size wr w' ∧ w'.cell? ⟨bb, oo + j * 5, none⟩ = some (.int .u8 (k : Int)) ∧ w'.cell? ⟨bb, oo + j * 5 + 1, none⟩ = some (.int .u32 (t : Int)) ∧ w'.cell? ⟨bb, oo + j * 5 + 2, none⟩ = some (.int .u8 (r : Int)) ∧ w'.cell? ⟨bb, oo + j * 5 + 3, none⟩ = some (.slice uo nu uc) ∧ w'.cell? ⟨bb, oo + j * 5 + 4, none⟩ = some (.int .i64 p)) := fun W h => ⟨h, (F1.out.keeps h).2⟩
    clear hk ht hr hp HO
    by_cases hk2 : k = 2
    rotate_left
    · have qk : ((k : Int) == 2) = false := by simp; omega
      rw [show (if k = 2 ∧ en = false then insM out x else out) = out from if_neg (fun h => hk2 h.1)] at ST
      rw [← ST.out] at HM hshr
      go_wp2
      go_roundw
      case rel => exact ⟨j + 1, m, by omega, by go_num, ⟨aoL, capL, rfl⟩, HM, Lib.hid (hshr.out.keeps (Below.refl _ _)), Lib.hid (bt hbel.out (Below.refl _ _))⟩
      case measure => simp [intOf]; omega
    subst hk2
    have ST1 : Hid (en = true → livesM l (l.take (j + 1)) = out) := fun h => by rw [ST.out, h]; exact if_neg (fun h => by cases h.2)
    have ST2 : Hid (en = false → livesM l (l.take (j + 1)) = insM out x) := fun h => by rw [ST.out, h]; exact if_pos ⟨rfl, rfl⟩
    clear ST
    go_wp2_with fail
    refine (EX.out _ hbel.out).mono ?_
    rintro e w5 ⟨rfl, b5⟩
    cases en
    rotate_left
    · have e9 := ST1.out rfl
      rw [← e9] at HM hshr
      clear e9
      go_wp2
      go_roundw
      case rel => exact ⟨j + 1, m, by omega, by go_num, ⟨aoL, capL, rfl⟩, HM, Lib.hid (hshr.out.keeps b5), Lib.hid (bt hbel.out b5)⟩
      case measure => simp [intOf]; omega
    have ST := Lib.hid (ST2.out rfl)
    clear ST1 ST2
    have hsh := Lib.hid (hshr.out.keeps b5)
    have hb2 := Lib.hid (bt hbel.out b5)
    have F2 := Lib.hid (F1.out.keeps b5)
    clear b5 hshr hbel F1 SK EX hbb h0 h1 h2 h3 h4
    have hmo : out.length = m := HM.out.symm
    go_wp2
    go_loopw [5] (fun a wz => ∃ i : Nat, i ≤ m ∧ a = .int .i64 (i : Int) ∧ Hid (∀ k (h : k < out.length), k < i → ahead (out[k]'h) x = true) ∧ Hid (Below w5.heap.size w5 wz)) (fun a _ => m - (intOf a).toNat)
    case atStart => exact ⟨0, by omega, rfl, fun k h hk => by omega, Below.refl _ _⟩
    case round =>
      obtain ⟨i, him, rfl, hah, hbz⟩ := hrel
      have OZ := Lib.hid ((hsh.out.keeps hbz.out).seq (bt hb2.out hbz.out))
      have k0 : i ≤ capL := by have := (shr_fix hsh.out).cap; omega
      have k1 : (0 : Int) ≤ (i : Int) := by omega
      have k2 : (i : Int) ≤ (capL : Int) := by omega
      have k3 : (i : Int) ≤ (m : Int) := by omega
      by_cases hlt : i < m
      · have q6 : decide ((i : Int) < (m : Int)) = true := decide_eq_true (by omega)
        have q7 : decide (i < m) = true := decide_eq_true (by omega)
        have q8 : (i : Int) < (m : Int) := by omega
        have hil : i < out.length := by omega
        obtain ⟨bby, ooy, uy, ey, hbby, hruy, h0y, h1y, h2y, h3y, h4y⟩ := opl_at (OZ.out) i hil
        subst ey
        obtain ⟨xy, hxy⟩ : ∃ x, x = out[i]'hil := ⟨_, rfl⟩
        rw [← hxy] at hruy h0y h1y h2y h4y
        have HOy : Hid (∀ v : Value, opv xy v = .agg #[.int .u8 (xy.k : Int), .int .u32 (xy.t : Int), .int .u8 (xy.r : Int), v, .int .i64 xy.p]) := fun v => rfl
        have hym : xy ∈ out := by rw [hxy]; exact List.getElem_mem _
        have HE : Hid (∀ W : World, Below wr.heap.size wr W → Calls Tryz.prog 114 #[uy, .slice uo nu uc] W fun e w' => e = .returned (.int .i64 (cmp xy.pl x.pl)) ∧ Below W.heap.size W w') := fun W h => refHeldM_any (hruy.keeps h) (RX.out.keeps (bt (bt hb2.out hbz.out) h)) (ML.out xy hym) MX.out
        obtain ⟨c, hc⟩ : ∃ c, cmp xy.pl x.pl = c := ⟨_, rfl⟩
        rw [hc] at HE
        have HAH : Hid (ahead (out[i]'hil) x = decide (c < 0)) := by unfold Hid ahead; rw [← hxy, hc]
        have f3 := ((F2.out.keeps hbz.out).2).2.2.2.1
        have g3 := (F2.out.keeps hbz.out).1
        have SK : Hid (∀ w' : World, Below wr.heap.size wr w' → Below wr.heap.size wr w' ∧ w'.cell? ⟨bb, oo + j * 5 + 3, none⟩ = some (.slice uo nu uc) ∧ w'.cell? ⟨bby, ooy + i * 5 + 3, none⟩ = some uy) := fun W h => ⟨h, (h.cell (p := ⟨bb, oo + j * 5 + 3, none⟩) g3).trans f3, (h.cell (p := ⟨bby, ooy + i * 5 + 3, none⟩) hbby).trans h3y⟩
        clear h0y h1y h2y h3y h4y f3 g3 hbby hruy hym hxy hc HOy
        by_cases hcn : c < 0
        · have q9 : decide (c < 0) = true := decide_eq_true hcn
          have AH : Hid (∀ k (h : k < out.length), k < i + 1 → ahead (out[k]'h) x = true) := fun k h hk => by
            by_cases e : k = i
            · subst e; rw [HAH.out]; exact q9
            · exact hah.out k h (by omega)
          clear HAH hah
          go_wp2
          refine wp_region_held_drew (S := fun w' => Below wr.heap.size wr w' ∧ w'.cell? ⟨bb, oo + j * 5 + 3, none⟩ = some (.slice uo nu uc) ∧ w'.cell? ⟨bby, ooy + i * 5 + 3, none⟩ = some uy) (by kernel_rfl) (SK.out _ (drew1 _)) (fun hHeld => ?_)
          refine wpAnyH_take (i := 0) (v := ?vd0) rfl (by kernel_rfl) (by kernel_rfl) (by kernel_rfl) (fun _ _ _ h => h) (Or.inl ⟨by rfl, ?yd0⟩) (by assumption) ?_
          case yd0 => intro w hSw; (try dsimp only at hSw); go_simp <;> with_reducible rfl
          try simp only [List.getElem_toArray, List.getElem_cons_zero, Act.put, List.setIfInBounds_toArray, List.set_cons_zero, List.set_cons_succ]
          refine wpAnyH_take (i := 1) (v := ?vd1) rfl (by kernel_rfl) (by kernel_rfl) (by kernel_rfl) (fun _ _ _ h => h) (Or.inl ⟨by rfl, ?yd1⟩) (by assumption) ?_
          case yd1 => intro w hSw; (try dsimp only at hSw); go_simp <;> with_reducible rfl
          try simp only [List.getElem_toArray, List.getElem_cons_succ, List.getElem_cons_zero, Act.put, List.setIfInBounds_toArray, List.set_cons_zero, List.set_cons_succ]
          refine wpAnyH_take (i := 2) (v := ?vd2) rfl (by kernel_rfl) (by kernel_rfl) (by kernel_rfl) (fun _ _ _ h => h) (Or.inl ⟨by rfl, ?yd2⟩) (by assumption) ?_
          case yd2 => intro w hSw; (try dsimp only at hSw); go_simp <;> with_reducible rfl
          try simp only [List.getElem_toArray, List.getElem_cons_succ, List.getElem_cons_zero, Act.put, List.setIfInBounds_toArray, List.set_cons_zero, List.set_cons_succ]
          refine wpAnyH_take (i := 3) (v := ?vd3) rfl (by kernel_rfl) (by kernel_rfl) (by kernel_rfl) (fun _ _ _ h => h) (Or.inl ⟨by rfl, ?yd3⟩) (by assumption) ?_
          case yd3 => intro w hSw; (try dsimp only at hSw); go_simp <;> with_reducible rfl
          try simp only [List.getElem_toArray, List.getElem_cons_succ, List.getElem_cons_zero, Act.put, List.setIfInBounds_toArray, List.set_cons_zero, List.set_cons_succ]
          refine wpAnyH_take (i := 4) (v := ?vd4) rfl (by kernel_rfl) (by kernel_rfl) (by kernel_rfl) (fun _ _ _ h => h) (Or.inl ⟨by rfl, ?yd4⟩) (by assumption) ?_
          case yd4 => intro w hSw; (try dsimp only at hSw); go_simp <;> with_reducible rfl
          try simp only [List.getElem_toArray, List.getElem_cons_succ, List.getElem_cons_zero, Act.put, List.setIfInBounds_toArray, List.set_cons_zero, List.set_cons_succ]
          refine wpAnyH_take (i := 5) (v := ?vd5) rfl (by kernel_rfl) (by kernel_rfl) (by kernel_rfl) (fun _ _ _ h => h) (Or.inl ⟨by rfl, ?yd5⟩) (by assumption) ?_
          case yd5 => intro w hSw; (try dsimp only at hSw); go_simp <;> with_reducible rfl
          try simp only [List.getElem_toArray, List.getElem_cons_succ, List.getElem_cons_zero, Act.put, List.setIfInBounds_toArray, List.set_cons_zero, List.set_cons_succ]
          refine wpAnyH_take (i := 6) (v := ?vd6) rfl (by kernel_rfl) (by kernel_rfl) (by kernel_rfl) (fun _ _ _ h => h) (Or.inl ⟨by rfl, ?yd6⟩) (by assumption) ?_
          case yd6 => intro w hSw; (try dsimp only at hSw); go_simp <;> with_reducible rfl
          try simp only [List.getElem_toArray, List.getElem_cons_succ, List.getElem_cons_zero, Act.put, List.setIfInBounds_toArray, List.set_cons_zero, List.set_cons_succ]
          refine wpAnyH_take (i := 7) (v := ?vd7) rfl (by kernel_rfl) (by kernel_rfl) (by kernel_rfl) (fun _ _ _ h => h) (Or.inl ⟨by rfl, ?yd7⟩) (by assumption) ?_
          case yd7 => intro w hSw; (try dsimp only at hSw); go_simp <;> with_reducible rfl
          try simp only [List.getElem_toArray, List.getElem_cons_succ, List.getElem_cons_zero, Act.put, List.setIfInBounds_toArray, List.set_cons_zero, List.set_cons_succ]
          refine wpAnyH_take (i := 8) (v := ?vd8) rfl (by kernel_rfl) (by kernel_rfl) (by kernel_rfl) (fun _ _ _ h => h) (Or.inl ⟨by rfl, ?yd8⟩) (by assumption) ?_
          case yd8 => intro w hSw; (try dsimp only at hSw); go_simp <;> with_reducible rfl
          try simp only [List.getElem_toArray, List.getElem_cons_succ, List.getElem_cons_zero, Act.put, List.setIfInBounds_toArray, List.set_cons_zero, List.set_cons_succ]
          refine wpAnyH_take (i := 9) (v := ?vd9) rfl (by kernel_rfl) (by kernel_rfl) (by kernel_rfl) (fun _ _ _ h => h) (Or.inl ⟨by rfl, ?yd9⟩) (by assumption) ?_
          case yd9 => intro w hSw; (try dsimp only at hSw); go_simp <;> with_reducible rfl
          try simp only [List.getElem_toArray, List.getElem_cons_succ, List.getElem_cons_zero, Act.put, List.setIfInBounds_toArray, List.set_cons_zero, List.set_cons_succ]
          refine wpAnyH_take (i := 10) (v := ?vd10) rfl (by kernel_rfl) (by kernel_rfl) (by kernel_rfl) (fun _ _ _ h => h) (Or.inl ⟨by rfl, ?yd10⟩) (by assumption) ?_
          case yd10 => intro w hSw; (try dsimp only at hSw); go_simp <;> with_reducible rfl
          try simp only [List.getElem_toArray, List.getElem_cons_succ, List.getElem_cons_zero, Act.put, List.setIfInBounds_toArray, List.set_cons_zero, List.set_cons_succ]
          refine wpAnyH_take (i := 11) (v := ?vd11) rfl (by kernel_rfl) (by kernel_rfl) (by kernel_rfl) (fun _ _ _ h => h) (Or.inl ⟨by rfl, ?yd11⟩) (by assumption) ?_
          case yd11 => intro w hSw; (try dsimp only at hSw); go_simp <;> with_reducible rfl
          try simp only [List.getElem_toArray, List.getElem_cons_succ, List.getElem_cons_zero, Act.put, List.setIfInBounds_toArray, List.set_cons_zero, List.set_cons_succ]
          refine wpAnyH_take (i := 12) (v := ?vd12) rfl (by kernel_rfl) (by kernel_rfl) (by kernel_rfl) (fun _ _ _ h => h) (Or.inl ⟨by rfl, ?yd12⟩) (by assumption) ?_
          case yd12 => intro w hSw; (try dsimp only at hSw); go_simp <;> with_reducible rfl
          try simp only [List.getElem_toArray, List.getElem_cons_succ, List.getElem_cons_zero, Act.put, List.setIfInBounds_toArray, List.set_cons_zero, List.set_cons_succ]
          refine wpAnyH_take (i := 13) (v := ?vd13) rfl (by kernel_rfl) (by kernel_rfl) (by kernel_rfl) (fun _ _ _ h => h) (Or.inl ⟨by rfl, ?yd13⟩) (by assumption) ?_
          case yd13 => intro w hSw; (try dsimp only at hSw); go_simp <;> with_reducible rfl
          try simp only [List.getElem_toArray, List.getElem_cons_succ, List.getElem_cons_zero, Act.put, List.setIfInBounds_toArray, List.set_cons_zero, List.set_cons_succ]
          refine wpAnyH_take (i := 14) (v := ?vd14) rfl (by kernel_rfl) (by kernel_rfl) (by kernel_rfl) (fun _ _ _ h => h) (Or.inl ⟨by rfl, ?yd14⟩) (by assumption) ?_
          case yd14 => intro w hSw; (try dsimp only at hSw); go_simp <;> with_reducible rfl
          try simp only [List.getElem_toArray, List.getElem_cons_succ, List.getElem_cons_zero, Act.put, List.setIfInBounds_toArray, List.set_cons_zero, List.set_cons_succ]
          refine wpAnyH_ready (rs := [15]) (by kernel_rfl) (by simp) ?_
          refine AllReadyH.cons rfl (fun K hK => ?_) ?zd15
          case zd15 => exact AllReadyH.nil
          go_simp
          refine (HE.out _ hHeld.1).mono ?_
          rintro e w9d15 ⟨rfl, b9⟩
          refine hK.out _ _ (SK.out _ (bt hHeld.1 b9)) (fun hNew => ?_)
          clear hHeld
          have hHeld := hNew
          clear hNew hK K
          try simp only [List.getElem_toArray, List.getElem_cons_succ, List.getElem_cons_zero, Act.put, List.setIfInBounds_toArray, List.set_cons_zero, List.set_cons_succ]
          refine wpAnyH_take (i := 16) (v := ?vd16) rfl (by kernel_rfl) (by kernel_rfl) (by kernel_rfl) (fun _ _ _ h => h) (Or.inl ⟨by rfl, ?yd16⟩) (by assumption) ?_
          case yd16 => intro w hSw; (try dsimp only at hSw); go_simp <;> with_reducible rfl
          try simp only [List.getElem_toArray, List.getElem_cons_succ, List.getElem_cons_zero, Act.put, List.setIfInBounds_toArray, List.set_cons_zero, List.set_cons_succ]
          refine wpAnyH_take (i := 17) (v := ?vd17) rfl (by kernel_rfl) (by kernel_rfl) (by kernel_rfl) (fun _ _ _ h => h) (Or.inl ⟨by rfl, ?yd17⟩) (by assumption) ?_
          case yd17 => intro w hSw; (try dsimp only at hSw); go_simp <;> with_reducible rfl
          try simp only [List.getElem_toArray, List.getElem_cons_succ, List.getElem_cons_zero, Act.put, List.setIfInBounds_toArray, List.set_cons_zero, List.set_cons_succ]
          refine wpAnyH_done (by kernel_rfl) ?_ _
          go_wp2
          go_roundw
          case rel => exact ⟨i + 1, by omega, by go_num, AH, Lib.hid (bt hbz.out hHeld.1)⟩
          case measure => simp [intOf]; omega
        · have q9 : decide (c < 0) = false := decide_eq_false hcn
          have AT : Hid (atM out x = i) := atM_is (by omega) hah.out (fun h => by rw [HAH.out]; exact q9)
          clear HAH
          go_wp2
          refine wp_region_held_drew (S := fun w' => Below wr.heap.size wr w' ∧ w'.cell? ⟨bb, oo + j * 5 + 3, none⟩ = some (.slice uo nu uc) ∧ w'.cell? ⟨bby, ooy + i * 5 + 3, none⟩ = some uy) (by kernel_rfl) (SK.out _ (drew1 _)) (fun hHeld => ?_)
          refine wpAnyH_take (i := 0) (v := ?ve0) rfl (by kernel_rfl) (by kernel_rfl) (by kernel_rfl) (fun _ _ _ h => h) (Or.inl ⟨by rfl, ?ye0⟩) (by assumption) ?_
          case ye0 => intro w hSw; (try dsimp only at hSw); go_simp <;> with_reducible rfl
          try simp only [List.getElem_toArray, List.getElem_cons_zero, Act.put, List.setIfInBounds_toArray, List.set_cons_zero, List.set_cons_succ]
          refine wpAnyH_take (i := 1) (v := ?ve1) rfl (by kernel_rfl) (by kernel_rfl) (by kernel_rfl) (fun _ _ _ h => h) (Or.inl ⟨by rfl, ?ye1⟩) (by assumption) ?_
          case ye1 => intro w hSw; (try dsimp only at hSw); go_simp <;> with_reducible rfl
          try simp only [List.getElem_toArray, List.getElem_cons_succ, List.getElem_cons_zero, Act.put, List.setIfInBounds_toArray, List.set_cons_zero, List.set_cons_succ]
          refine wpAnyH_take (i := 2) (v := ?ve2) rfl (by kernel_rfl) (by kernel_rfl) (by kernel_rfl) (fun _ _ _ h => h) (Or.inl ⟨by rfl, ?ye2⟩) (by assumption) ?_
          case ye2 => intro w hSw; (try dsimp only at hSw); go_simp <;> with_reducible rfl
          try simp only [List.getElem_toArray, List.getElem_cons_succ, List.getElem_cons_zero, Act.put, List.setIfInBounds_toArray, List.set_cons_zero, List.set_cons_succ]
          refine wpAnyH_take (i := 3) (v := ?ve3) rfl (by kernel_rfl) (by kernel_rfl) (by kernel_rfl) (fun _ _ _ h => h) (Or.inl ⟨by rfl, ?ye3⟩) (by assumption) ?_
          case ye3 => intro w hSw; (try dsimp only at hSw); go_simp <;> with_reducible rfl
          try simp only [List.getElem_toArray, List.getElem_cons_succ, List.getElem_cons_zero, Act.put, List.setIfInBounds_toArray, List.set_cons_zero, List.set_cons_succ]
          refine wpAnyH_take (i := 4) (v := ?ve4) rfl (by kernel_rfl) (by kernel_rfl) (by kernel_rfl) (fun _ _ _ h => h) (Or.inl ⟨by rfl, ?ye4⟩) (by assumption) ?_
          case ye4 => intro w hSw; (try dsimp only at hSw); go_simp <;> with_reducible rfl
          try simp only [List.getElem_toArray, List.getElem_cons_succ, List.getElem_cons_zero, Act.put, List.setIfInBounds_toArray, List.set_cons_zero, List.set_cons_succ]
          refine wpAnyH_take (i := 5) (v := ?ve5) rfl (by kernel_rfl) (by kernel_rfl) (by kernel_rfl) (fun _ _ _ h => h) (Or.inl ⟨by rfl, ?ye5⟩) (by assumption) ?_
          case ye5 => intro w hSw; (try dsimp only at hSw); go_simp <;> with_reducible rfl
          try simp only [List.getElem_toArray, List.getElem_cons_succ, List.getElem_cons_zero, Act.put, List.setIfInBounds_toArray, List.set_cons_zero, List.set_cons_succ]
          refine wpAnyH_take (i := 6) (v := ?ve6) rfl (by kernel_rfl) (by kernel_rfl) (by kernel_rfl) (fun _ _ _ h => h) (Or.inl ⟨by rfl, ?ye6⟩) (by assumption) ?_
          case ye6 => intro w hSw; (try dsimp only at hSw); go_simp <;> with_reducible rfl
          try simp only [List.getElem_toArray, List.getElem_cons_succ, List.getElem_cons_zero, Act.put, List.setIfInBounds_toArray, List.set_cons_zero, List.set_cons_succ]
          refine wpAnyH_take (i := 7) (v := ?ve7) rfl (by kernel_rfl) (by kernel_rfl) (by kernel_rfl) (fun _ _ _ h => h) (Or.inl ⟨by rfl, ?ye7⟩) (by assumption) ?_
          case ye7 => intro w hSw; (try dsimp only at hSw); go_simp <;> with_reducible rfl
          try simp only [List.getElem_toArray, List.getElem_cons_succ, List.getElem_cons_zero, Act.put, List.setIfInBounds_toArray, List.set_cons_zero, List.set_cons_succ]
          refine wpAnyH_take (i := 8) (v := ?ve8) rfl (by kernel_rfl) (by kernel_rfl) (by kernel_rfl) (fun _ _ _ h => h) (Or.inl ⟨by rfl, ?ye8⟩) (by assumption) ?_
          case ye8 => intro w hSw; (try dsimp only at hSw); go_simp <;> with_reducible rfl
          try simp only [List.getElem_toArray, List.getElem_cons_succ, List.getElem_cons_zero, Act.put, List.setIfInBounds_toArray, List.set_cons_zero, List.set_cons_succ]
          refine wpAnyH_take (i := 9) (v := ?ve9) rfl (by kernel_rfl) (by kernel_rfl) (by kernel_rfl) (fun _ _ _ h => h) (Or.inl ⟨by rfl, ?ye9⟩) (by assumption) ?_
          case ye9 => intro w hSw; (try dsimp only at hSw); go_simp <;> with_reducible rfl
          try simp only [List.getElem_toArray, List.getElem_cons_succ, List.getElem_cons_zero, Act.put, List.setIfInBounds_toArray, List.set_cons_zero, List.set_cons_succ]
          refine wpAnyH_take (i := 10) (v := ?ve10) rfl (by kernel_rfl) (by kernel_rfl) (by kernel_rfl) (fun _ _ _ h => h) (Or.inl ⟨by rfl, ?ye10⟩) (by assumption) ?_
          case ye10 => intro w hSw; (try dsimp only at hSw); go_simp <;> with_reducible rfl
          try simp only [List.getElem_toArray, List.getElem_cons_succ, List.getElem_cons_zero, Act.put, List.setIfInBounds_toArray, List.set_cons_zero, List.set_cons_succ]
          refine wpAnyH_take (i := 11) (v := ?ve11) rfl (by kernel_rfl) (by kernel_rfl) (by kernel_rfl) (fun _ _ _ h => h) (Or.inl ⟨by rfl, ?ye11⟩) (by assumption) ?_
          case ye11 => intro w hSw; (try dsimp only at hSw); go_simp <;> with_reducible rfl
          try simp only [List.getElem_toArray, List.getElem_cons_succ, List.getElem_cons_zero, Act.put, List.setIfInBounds_toArray, List.set_cons_zero, List.set_cons_succ]
          refine wpAnyH_take (i := 12) (v := ?ve12) rfl (by kernel_rfl) (by kernel_rfl) (by kernel_rfl) (fun _ _ _ h => h) (Or.inl ⟨by rfl, ?ye12⟩) (by assumption) ?_
          case ye12 => intro w hSw; (try dsimp only at hSw); go_simp <;> with_reducible rfl
          try simp only [List.getElem_toArray, List.getElem_cons_succ, List.getElem_cons_zero, Act.put, List.setIfInBounds_toArray, List.set_cons_zero, List.set_cons_succ]
          refine wpAnyH_take (i := 13) (v := ?ve13) rfl (by kernel_rfl) (by kernel_rfl) (by kernel_rfl) (fun _ _ _ h => h) (Or.inl ⟨by rfl, ?ye13⟩) (by assumption) ?_
          case ye13 => intro w hSw; (try dsimp only at hSw); go_simp <;> with_reducible rfl
          try simp only [List.getElem_toArray, List.getElem_cons_succ, List.getElem_cons_zero, Act.put, List.setIfInBounds_toArray, List.set_cons_zero, List.set_cons_succ]
          refine wpAnyH_take (i := 14) (v := ?ve14) rfl (by kernel_rfl) (by kernel_rfl) (by kernel_rfl) (fun _ _ _ h => h) (Or.inl ⟨by rfl, ?ye14⟩) (by assumption) ?_
          case ye14 => intro w hSw; (try dsimp only at hSw); go_simp <;> with_reducible rfl
          try simp only [List.getElem_toArray, List.getElem_cons_succ, List.getElem_cons_zero, Act.put, List.setIfInBounds_toArray, List.set_cons_zero, List.set_cons_succ]
          refine wpAnyH_ready (rs := [15]) (by kernel_rfl) (by simp) ?_
          refine AllReadyH.cons rfl (fun K hK => ?_) ?ze15
          case ze15 => exact AllReadyH.nil
          go_simp
          refine (HE.out _ hHeld.1).mono ?_
          rintro e w9e15 ⟨rfl, b9⟩
          refine hK.out _ _ (SK.out _ (bt hHeld.1 b9)) (fun hNew => ?_)
          clear hHeld
          have hHeld := hNew
          clear hNew hK K
          try simp only [List.getElem_toArray, List.getElem_cons_succ, List.getElem_cons_zero, Act.put, List.setIfInBounds_toArray, List.set_cons_zero, List.set_cons_succ]
          refine wpAnyH_take (i := 16) (v := ?ve16) rfl (by kernel_rfl) (by kernel_rfl) (by kernel_rfl) (fun _ _ _ h => h) (Or.inl ⟨by rfl, ?ye16⟩) (by assumption) ?_
          case ye16 => intro w hSw; (try dsimp only at hSw); go_simp <;> with_reducible rfl
          try simp only [List.getElem_toArray, List.getElem_cons_succ, List.getElem_cons_zero, Act.put, List.setIfInBounds_toArray, List.set_cons_zero, List.set_cons_succ]
          refine wpAnyH_take (i := 17) (v := ?ve17) rfl (by kernel_rfl) (by kernel_rfl) (by kernel_rfl) (fun _ _ _ h => h) (Or.inl ⟨by rfl, ?ye17⟩) (by assumption) ?_
          case ye17 => intro w hSw; (try dsimp only at hSw); go_simp <;> with_reducible rfl
          try simp only [List.getElem_toArray, List.getElem_cons_succ, List.getElem_cons_zero, Act.put, List.setIfInBounds_toArray, List.set_cons_zero, List.set_cons_succ]
          refine wpAnyH_done (by kernel_rfl) ?_ _
          have SZ := Lib.hid ((hsh.out.keeps hbz.out).keeps hHeld.1)
          have BZ := Lib.hid (bt (bt hb2.out hbz.out) hHeld.1)
          have FZ := Lib.hid (F2.out.keeps (bt hbz.out hHeld.1))
          clear hHeld OZ hsh hb2 F2 hbz hah
          rcases shr_drop SZ.out him with ⟨e1, -, -, -⟩ | ⟨ab, aof, a', e1, hif, hpart⟩
          · cases e1
          have PT := Lib.hid hpart
          cases e1
          clear hpart
          try dsimp only at hif
          have HN1 : Hid (i = ([] : List Opn).length + (out.take i).length) := by unfold Hid; rw [List.length_nil, List.length_take]; omega
          have HN2 : Hid (i = (out.take i).length) := by unfold Hid; rw [List.length_take]; omega
          have HN3 : Hid (m + 1 = (out.take i ++ [x]).length + (out.drop i).length) := by unfold Hid; rw [List.length_append, List.length_take, List.length_drop, List.length_singleton]; omega
          have HTK : Hid (Seq (fixE (fixE opE w) w9e15) w9e15 (.slice (some ⟨bby, ooy, none⟩) i capL) (out.take i)) := (shr_fix SZ.out).take (m := i) (by omega)
          go_wp2_with (at_builtin; refine wpList_append_shr (E := fixE opE w) Tryz.underlying33 op_info rfl (w0 := w9e15) (by rfl) (.tmp 48) (.tmp 51) (by rfl) (by rfl) (Shr.nil _ _ _ _) (by rfl) HTK.out HN1.out (by omega) (by omega) (Nat.le_refl _) ?_)
          rintro v6 w6 s6 a6 c6 rfl b6
          have S6 := Lib.hid s6
          have W6 := Lib.hid b6
          obtain ⟨h0, h1, h2, h3, h4⟩ := (FZ.out.keeps b6).2
          clear s6 b6 FZ HTK
          go_wp2_with (at_builtin; refine wpList_append_enc (E := fixE opE w) Tryz.underlying33 op_info rfl (w0 := w9e15) (wp := w6) (by rfl) (.tmp 53) (.tmp 58) (by rfl) (by rfl) S6.out (G := w6.heap.size) (by rfl) rfl (c := #[.int .u8 2, .int .u32 (t : Int), .int .u8 (r : Int), .slice uo nu uc, .int .i64 p]) INN.out HN2.out (by omega) (by omega) W6.out.size ?_)
          rintro v7 w7 s7 a7 c7 rfl b7
          have S7 := Lib.hid s7
          have W7 := Lib.hid (W6.out.trans b7)
          clear s7 b7 S6 W6 h0 h1 h2 h3 h4
          have P7 : Hid (Seq (fixE (fixE opE w) w9e15) w7 (.slice (some a') (m - i) (capL - i)) (out.drop i)) := (Seq.keeps PT.out W7.out)
          go_wp2_with (at_builtin; refine wpList_append_shr (E := fixE opE w) Tryz.underlying33 op_info rfl (w0 := w9e15) (by rfl) (.tmp 60) (.tmp 63) (by rfl) (by rfl) S7.out (by rfl) P7.out HN3.out (by omega) (by omega) W7.out.size ?_)
          rintro v8 w8 s8 a8 c8 rfl b8
          have S8 := Lib.hid s8
          have B8 := Lib.hid (bt BZ.out (W7.out.trans b8))
          have O8 : Hid (ShrO w w8 (.slice a8 (m + 1) c8) (livesM l (l.take (j + 1)))) := by
            unfold Hid
            have h9 := shr_unfix S8.out BZ.out.size
            rw [ST.out]
            unfold insM
            rw [AT.out]
            simpa using h9
          have M8 : Hid (m + 1 = (livesM l (l.take (j + 1))).length) := by unfold Hid; rw [ST.out, insM_len]; omega
          clear S8
          go_wp2
          go_roundw
          case rel => exact ⟨j + 1, m + 1, by omega, by go_num, ⟨a8, c8, rfl⟩, M8, O8, B8⟩
          case measure => simp [intOf]; omega
      · have him3 : ¬ (i : Int) < (m : Int) := by omega
        have q6 : decide ((i : Int) < (m : Int)) = false := decide_eq_false (by omega)
        have q7 : decide (i < m) = false := decide_eq_false (by omega)
        have AT : Hid (atM out x = i) := atM_is (by omega) hah.out (fun h => by omega)
        have SK : Hid (∀ w' : World, Below wr.heap.size wr w' → Below wr.heap.size wr w' ∧ True) := fun W h => ⟨h, trivial⟩
        go_wp2
        refine wp_region_held_drew (S := fun w' => Below wr.heap.size wr w' ∧ True) (by kernel_rfl) (SK.out _ (drew1 _)) (fun hHeld => ?_)
        refine wpAnyH_take (i := 0) (v := ?vf0) rfl (by kernel_rfl) (by kernel_rfl) (by kernel_rfl) (fun _ _ _ h => h) (Or.inl ⟨by rfl, ?yf0⟩) (by assumption) ?_
        case yf0 => intro w hSw; (try dsimp only at hSw); go_simp <;> with_reducible rfl
        try simp only [List.getElem_toArray, List.getElem_cons_zero, Act.put, List.setIfInBounds_toArray, List.set_cons_zero, List.set_cons_succ]
        refine wpAnyH_take (i := 1) (v := ?vf1) rfl (by kernel_rfl) (by kernel_rfl) (by kernel_rfl) (fun _ _ _ h => h) (Or.inl ⟨by rfl, ?yf1⟩) (by assumption) ?_
        case yf1 => intro w hSw; (try dsimp only at hSw); go_simp <;> with_reducible rfl
        try simp only [List.getElem_toArray, List.getElem_cons_succ, List.getElem_cons_zero, Act.put, List.setIfInBounds_toArray, List.set_cons_zero, List.set_cons_succ]
        refine wpAnyH_take (i := 2) (v := ?vf2) rfl (by kernel_rfl) (by kernel_rfl) (by kernel_rfl) (fun _ _ _ h => h) (Or.inl ⟨by rfl, ?yf2⟩) (by assumption) ?_
        case yf2 => intro w hSw; (try dsimp only at hSw); go_simp <;> with_reducible rfl
        try simp only [List.getElem_toArray, List.getElem_cons_succ, List.getElem_cons_zero, Act.put, List.setIfInBounds_toArray, List.set_cons_zero, List.set_cons_succ]
        refine wpAnyH_take (i := 3) (v := ?vf3) rfl (by kernel_rfl) (by kernel_rfl) (by kernel_rfl) (fun _ _ _ h => h) (Or.inl ⟨by rfl, ?yf3⟩) (by assumption) ?_
        case yf3 => intro w hSw; (try dsimp only at hSw); go_simp <;> with_reducible rfl
        try simp only [List.getElem_toArray, List.getElem_cons_succ, List.getElem_cons_zero, Act.put, List.setIfInBounds_toArray, List.set_cons_zero, List.set_cons_succ]
        refine wpAnyH_take (i := 4) (v := ?vf4) rfl (by kernel_rfl) (by kernel_rfl) (by kernel_rfl) (fun _ _ _ h => h) (Or.inl ⟨by rfl, ?yf4⟩) (by assumption) ?_
        case yf4 => intro w hSw; (try dsimp only at hSw); go_simp <;> with_reducible rfl
        try simp only [List.getElem_toArray, List.getElem_cons_succ, List.getElem_cons_zero, Act.put, List.setIfInBounds_toArray, List.set_cons_zero, List.set_cons_succ]
        refine wpAnyH_take (i := 5) (v := undef) rfl (by kernel_rfl) (by kernel_rfl) (by kernel_rfl) (fun _ _ _ h => h) (Or.inr ⟨by rfl, rfl⟩) (by assumption) ?_
        try simp only [List.getElem_toArray, List.getElem_cons_succ, List.getElem_cons_zero, Act.put, List.setIfInBounds_toArray, List.set_cons_zero, List.set_cons_succ]
        refine wpAnyH_take (i := 6) (v := undef) rfl (by kernel_rfl) (by kernel_rfl) (by kernel_rfl) (fun _ _ _ h => h) (Or.inr ⟨by rfl, rfl⟩) (by assumption) ?_
        try simp only [List.getElem_toArray, List.getElem_cons_succ, List.getElem_cons_zero, Act.put, List.setIfInBounds_toArray, List.set_cons_zero, List.set_cons_succ]
        refine wpAnyH_take (i := 7) (v := undef) rfl (by kernel_rfl) (by kernel_rfl) (by kernel_rfl) (fun _ _ _ h => h) (Or.inr ⟨by rfl, rfl⟩) (by assumption) ?_
        try simp only [List.getElem_toArray, List.getElem_cons_succ, List.getElem_cons_zero, Act.put, List.setIfInBounds_toArray, List.set_cons_zero, List.set_cons_succ]
        refine wpAnyH_take (i := 8) (v := undef) rfl (by kernel_rfl) (by kernel_rfl) (by kernel_rfl) (fun _ _ _ h => h) (Or.inr ⟨by rfl, rfl⟩) (by assumption) ?_
        try simp only [List.getElem_toArray, List.getElem_cons_succ, List.getElem_cons_zero, Act.put, List.setIfInBounds_toArray, List.set_cons_zero, List.set_cons_succ]
        refine wpAnyH_take (i := 9) (v := undef) rfl (by kernel_rfl) (by kernel_rfl) (by kernel_rfl) (fun _ _ _ h => h) (Or.inr ⟨by rfl, rfl⟩) (by assumption) ?_
        try simp only [List.getElem_toArray, List.getElem_cons_succ, List.getElem_cons_zero, Act.put, List.setIfInBounds_toArray, List.set_cons_zero, List.set_cons_succ]
        refine wpAnyH_take (i := 10) (v := undef) rfl (by kernel_rfl) (by kernel_rfl) (by kernel_rfl) (fun _ _ _ h => h) (Or.inr ⟨by rfl, rfl⟩) (by assumption) ?_
        try simp only [List.getElem_toArray, List.getElem_cons_succ, List.getElem_cons_zero, Act.put, List.setIfInBounds_toArray, List.set_cons_zero, List.set_cons_succ]
        refine wpAnyH_take (i := 11) (v := undef) rfl (by kernel_rfl) (by kernel_rfl) (by kernel_rfl) (fun _ _ _ h => h) (Or.inr ⟨by rfl, rfl⟩) (by assumption) ?_
        try simp only [List.getElem_toArray, List.getElem_cons_succ, List.getElem_cons_zero, Act.put, List.setIfInBounds_toArray, List.set_cons_zero, List.set_cons_succ]
        refine wpAnyH_take (i := 12) (v := undef) rfl (by kernel_rfl) (by kernel_rfl) (by kernel_rfl) (fun _ _ _ h => h) (Or.inr ⟨by rfl, rfl⟩) (by assumption) ?_
        try simp only [List.getElem_toArray, List.getElem_cons_succ, List.getElem_cons_zero, Act.put, List.setIfInBounds_toArray, List.set_cons_zero, List.set_cons_succ]
        refine wpAnyH_take (i := 13) (v := undef) rfl (by kernel_rfl) (by kernel_rfl) (by kernel_rfl) (fun _ _ _ h => h) (Or.inr ⟨by rfl, rfl⟩) (by assumption) ?_
        try simp only [List.getElem_toArray, List.getElem_cons_succ, List.getElem_cons_zero, Act.put, List.setIfInBounds_toArray, List.set_cons_zero, List.set_cons_succ]
        refine wpAnyH_take (i := 14) (v := undef) rfl (by kernel_rfl) (by kernel_rfl) (by kernel_rfl) (fun _ _ _ h => h) (Or.inr ⟨by rfl, rfl⟩) (by assumption) ?_
        try simp only [List.getElem_toArray, List.getElem_cons_succ, List.getElem_cons_zero, Act.put, List.setIfInBounds_toArray, List.set_cons_zero, List.set_cons_succ]
        refine wpAnyH_take (i := 15) (v := undef) rfl (by kernel_rfl) (by kernel_rfl) (by kernel_rfl) (fun _ _ _ h => h) (Or.inr ⟨by rfl, rfl⟩) (by assumption) ?_
        try simp only [List.getElem_toArray, List.getElem_cons_succ, List.getElem_cons_zero, Act.put, List.setIfInBounds_toArray, List.set_cons_zero, List.set_cons_succ]
        refine wpAnyH_take (i := 16) (v := undef) rfl (by kernel_rfl) (by kernel_rfl) (by kernel_rfl) (fun _ _ _ h => h) (Or.inr ⟨by rfl, rfl⟩) (by assumption) ?_
        try simp only [List.getElem_toArray, List.getElem_cons_succ, List.getElem_cons_zero, Act.put, List.setIfInBounds_toArray, List.set_cons_zero, List.set_cons_succ]
        refine wpAnyH_take (i := 17) (v := ?vf17) rfl (by kernel_rfl) (by kernel_rfl) (by kernel_rfl) (fun _ _ _ h => h) (Or.inl ⟨by rfl, ?yf17⟩) (by assumption) ?_
        case yf17 => intro w hSw; (try dsimp only at hSw); go_simp <;> with_reducible rfl
        try simp only [List.getElem_toArray, List.getElem_cons_succ, List.getElem_cons_zero, Act.put, List.setIfInBounds_toArray, List.set_cons_zero, List.set_cons_succ]
        refine wpAnyH_done (by kernel_rfl) ?_ _
        have SZ := Lib.hid ((hsh.out.keeps hbz.out).keeps hHeld.1)
        have BZ := Lib.hid (bt (bt hb2.out hbz.out) hHeld.1)
        have FZ := Lib.hid (F2.out.keeps (bt hbz.out hHeld.1))
        clear hHeld OZ hsh hb2 F2 hbz hah
        generalize wr.drew = WB at SZ BZ FZ ⊢
        rcases shr_drop SZ.out him with ⟨e1, e2, e3, e4⟩ | ⟨ab, aof, a', e1, hif, hpart⟩
        · subst e1 e2 e3 e4
          obtain rfl : i = 0 := by omega
          have HN1 : Hid (0 = ([] : List Opn).length + (([] : List Opn).take 0).length) := by unfold Hid; rw [List.length_nil, List.length_take]; omega
          have HN2 : Hid (0 = (([] : List Opn).take 0).length) := by unfold Hid; rw [List.length_take]; omega
          have HN3 : Hid (0 + 1 = (([] : List Opn).take 0 ++ [x]).length + (([] : List Opn).drop 0).length) := by unfold Hid; rw [List.length_append, List.length_take, List.length_drop, List.length_singleton]; omega
          have HTK : Hid (Seq (fixE (fixE opE w) WB) WB (.slice none 0 0) (([] : List Opn).take 0)) := (shr_fix SZ.out).take (m := 0) (by omega)
          go_wp2_with (at_builtin; refine wpList_append_shr (E := fixE opE w) Tryz.underlying33 op_info rfl (w0 := WB) (by rfl) (.tmp 48) (.tmp 51) (by rfl) (by rfl) (Shr.nil _ _ _ _) (by rfl) HTK.out HN1.out (by omega) (by omega) (Nat.le_refl _) ?_)
          rintro v6 w6 s6 a6 c6 rfl b6
          have S6 := Lib.hid s6
          have W6 := Lib.hid b6
          obtain ⟨h0, h1, h2, h3, h4⟩ := (FZ.out.keeps b6).2
          clear s6 b6 FZ HTK
          go_wp2_with (at_builtin; refine wpList_append_enc (E := fixE opE w) Tryz.underlying33 op_info rfl (w0 := WB) (wp := w6) (by rfl) (.tmp 53) (.tmp 58) (by rfl) (by rfl) S6.out (G := w6.heap.size) (by rfl) rfl (c := #[.int .u8 2, .int .u32 (t : Int), .int .u8 (r : Int), .slice uo nu uc, .int .i64 p]) INN.out HN2.out (by omega) (by omega) W6.out.size ?_)
          rintro v7 w7 s7 a7 c7 rfl b7
          have S7 := Lib.hid s7
          have W7 := Lib.hid (W6.out.trans b7)
          clear s7 b7 S6 W6 h0 h1 h2 h3 h4
          have P7 : Hid (Seq (fixE (fixE opE w) WB) w7 (.slice none 0 0) ([] : List Opn)) := Seq.nil _ _
          go_wp2_with (at_builtin; refine wpList_append_shr (E := fixE opE w) Tryz.underlying33 op_info rfl (w0 := WB) (by rfl) (.tmp 60) (.tmp 63) (by rfl) (by rfl) S7.out (by rfl) P7.out HN3.out (by omega) (by omega) W7.out.size ?_)
          rintro v8 w8 s8 a8 c8 rfl b8
          have S8 := Lib.hid s8
          have B8 := Lib.hid (bt BZ.out (W7.out.trans b8))
          have O8 : Hid (ShrO w w8 (.slice a8 (0 + 1) c8) (livesM l (l.take (j + 1)))) := by
            unfold Hid
            have h9 := shr_unfix S8.out BZ.out.size
            rw [ST.out]
            unfold insM
            rw [AT.out]
            simpa using h9
          have M8 : Hid (0 + 1 = (livesM l (l.take (j + 1))).length) := by unfold Hid; rw [ST.out, insM_len]; omega
          clear S8
          go_wp2
          go_roundw
          case rel => exact ⟨j + 1, 0 + 1, by omega, by go_num, ⟨a8, c8, rfl⟩, M8, O8, B8⟩
          case measure => simp [intOf]; omega
        have PT := Lib.hid hpart
        try dsimp only at hif
        subst e1
        clear hpart
        have HN1 : Hid (i = ([] : List Opn).length + (out.take i).length) := by unfold Hid; rw [List.length_nil, List.length_take]; omega
        have HN2 : Hid (i = (out.take i).length) := by unfold Hid; rw [List.length_take]; omega
        have HN3 : Hid (m + 1 = (out.take i ++ [x]).length + (out.drop i).length) := by unfold Hid; rw [List.length_append, List.length_take, List.length_drop, List.length_singleton]; omega
        have HTK : Hid (Seq (fixE (fixE opE w) WB) WB (.slice (some ⟨ab, aof, none⟩) i capL) (out.take i)) := (shr_fix SZ.out).take (m := i) (by omega)
        go_wp2_with (at_builtin; refine wpList_append_shr (E := fixE opE w) Tryz.underlying33 op_info rfl (w0 := WB) (by rfl) (.tmp 48) (.tmp 51) (by rfl) (by rfl) (Shr.nil _ _ _ _) (by rfl) HTK.out HN1.out (by omega) (by omega) (Nat.le_refl _) ?_)
        rintro v6 w6 s6 a6 c6 rfl b6
        have S6 := Lib.hid s6
        have W6 := Lib.hid b6
        obtain ⟨h0, h1, h2, h3, h4⟩ := (FZ.out.keeps b6).2
        clear s6 b6 FZ HTK
        go_wp2_with (at_builtin; refine wpList_append_enc (E := fixE opE w) Tryz.underlying33 op_info rfl (w0 := WB) (wp := w6) (by rfl) (.tmp 53) (.tmp 58) (by rfl) (by rfl) S6.out (G := w6.heap.size) (by rfl) rfl (c := #[.int .u8 2, .int .u32 (t : Int), .int .u8 (r : Int), .slice uo nu uc, .int .i64 p]) INN.out HN2.out (by omega) (by omega) W6.out.size ?_)
        rintro v7 w7 s7 a7 c7 rfl b7
        have S7 := Lib.hid s7
        have W7 := Lib.hid (W6.out.trans b7)
        clear s7 b7 S6 W6 h0 h1 h2 h3 h4
        have P7 : Hid (Seq (fixE (fixE opE w) WB) w7 (.slice (some a') (m - i) (capL - i)) (out.drop i)) := (Seq.keeps PT.out W7.out)
        go_wp2_with (at_builtin; refine wpList_append_shr (E := fixE opE w) Tryz.underlying33 op_info rfl (w0 := WB) (by rfl) (.tmp 60) (.tmp 63) (by rfl) (by rfl) S7.out (by rfl) P7.out HN3.out (by omega) (by omega) W7.out.size ?_)
        rintro v8 w8 s8 a8 c8 rfl b8
        have S8 := Lib.hid s8
        have B8 := Lib.hid (bt BZ.out (W7.out.trans b8))
        have O8 : Hid (ShrO w w8 (.slice a8 (m + 1) c8) (livesM l (l.take (j + 1)))) := by
          unfold Hid
          have h9 := shr_unfix S8.out BZ.out.size
          rw [ST.out]
          unfold insM
          rw [AT.out]
          simpa using h9
        have M8 : Hid (m + 1 = (livesM l (l.take (j + 1))).length) := by unfold Hid; rw [ST.out, insM_len]; omega
        clear S8
        go_wp2
        go_roundw
        case rel => exact ⟨j + 1, m + 1, by omega, by go_num, ⟨a8, c8, rfl⟩, M8, O8, B8⟩
        case measure => simp [intOf]; omega

end Go.Proofs.YtdackenaknieaaaGreat.Marks

/- octavoref13.Where, Begin, All, Of, Ahead, Span: what each answers. Conditions: the slices' cells are operations, runs. -/
namespace Go.Proofs.YtdackenaknieaaaGreat.Homes
open Go.RowKit Go.WideShapes Stamp Go.Proofs.YtdackenaknieaaaGreat.Place Ops Codes Bags Marks
attribute [local go_sem ↓] Go.wp_at_zero Go.wp_at_succ
attribute [local go_sem] yielded_undef

theorem where_is {live : List Opn} {s : Id} {j : Nat} (hj : j < (sectsM live).length) (h1 : ∀ i (h : i < (sectsM live).length), i < j → (sectsM live)[i]'h ≠ s) (h2 : (sectsM live)[j]'hj = s) : whereM live s = j := by
  have : whereN live s = j := by
    unfold whereN
    rw [List.findIdx_eq hj]
    exact ⟨by simpa using h2, fun i hi => by simpa using h1 i (by omega) hi⟩
  unfold whereM
  rw [this, if_pos (by rw [← sectsM_len]; exact hj)]
theorem where_no {live : List Opn} {s : Id} (h1 : ∀ i (h : i < (sectsM live).length), (sectsM live)[i]'h ≠ s) : whereM live s = -1 := by
  unfold whereM
  rw [if_neg]
  intro h
  have h' : whereN live s < (sectsM live).length := by rw [sectsM_len]; exact h
  have := List.findIdx_getElem (p := fun x => decide (x = s)) (xs := sectsM live) (w := h')
  exact h1 _ h' (of_decide_eq_true this)
theorem getD_get {l : List Id} {j : Nat} (h : j < l.length) : l.getD j zid = l[j]'h := by rw [List.getD_eq_getElem?_getD, List.getElem?_eq_getElem h]; rfl

set_option maxRecDepth 100000 in
set_option maxHeartbeats 4000000 in
theorem refWhere_any {v : Value} {live : List Opn} (s : Id) {w : World} (hv : OpL w v live) (hl : live.length ≤ 1000000) :
    Calls Tryz.prog 75 #[v, .agg #[.int .u32 (s.t : Int), .int .u8 (s.r : Int)]] w fun e w' => e = .returned (.int .i64 (whereM live s)) ∧ Below w.heap.size w w' := by
  have B0 : Hid (Below w.heap.size w (w.alloc (.cells #[.int .u32 (s.t : Int), .int .u8 (s.r : Int)] 28))) := (Below.refl _ _).alloc (Nat.le_refl _) _
  have P0 : Hid (Pair (w.alloc (.cells #[.int .u32 (s.t : Int), .int .u8 (s.r : Int)] 28)) w.heap.size (.int .u32 (s.t : Int)) (.int .u8 (s.r : Int))) := pair_new _ _ _ _
  have SE := Lib.hid (refSections_any (hv.keeps B0.out) hl)
  have HN : Hid (live.length + 1 = (sectsM live).length) := (sectsM_len live).symm
  have HW : Hid (∀ j (hj : j < (sectsM live).length), (∀ i (h : i < (sectsM live).length), i < j → (sectsM live)[i]'h ≠ s) → (sectsM live)[j]'hj = s → whereM live s = j) := fun j hj h1 h2 => where_is hj h1 h2
  have HZ : Hid ((∀ i (h : i < (sectsM live).length), (sectsM live)[i]'h ≠ s) → whereM live s = -1) := fun h => where_no h
  obtain ⟨q, hq⟩ : ∃ q, whereM live s = q := ⟨_, rfl⟩
  rw [hq] at HW HZ ⊢
  obtain ⟨L, hL⟩ : ∃ z, sectsM live = z := ⟨_, rfl⟩
  rw [hL] at SE HN HW HZ
  obtain ⟨n, hn⟩ : ∃ n, live.length + 1 = n := ⟨_, rfl⟩
  rw [hn] at SE HN
  have hnm : n ≤ 1000001 := by omega
  obtain ⟨S, hS⟩ : ∃ z, s = z := ⟨_, rfl⟩
  have HSI : Hid (∀ x : Id, x = s ↔ x.t = s.t ∧ x.r = s.r) := fun x => Id.eq_iff
  rw [hS] at HW HZ
  have HSE : Hid (∀ x : Id, x = S ↔ x.t = s.t ∧ x.r = s.r) := by rw [← hS]; exact HSI.out
  obtain ⟨ts, rs, hts, hrs⟩ := s
  simp only at SE P0 B0 HSE ⊢
  clear hv hq hL hn hl hS HSI
  go_enter Tryz.func75, Tryz.ntmps75
  go_wp2_with fail
  refine SE.out.mono ?_
  rintro e w1 ⟨lo, lc, rfl, o1, b1⟩
  have B1 := Lib.hid (bt B0.out b1)
  have P1 := Lib.hid (P0.out.keeps b1)
  have SI : Hid (∀ W : World, Below w1.heap.size w1 W → Ids W (.slice lo n lc) L) := fun W h => (Go.Proofs.YtdackenaknieaaaGreat.Ids.own o1).keeps h
  have Z1 : Hid (Below w1.heap.size w1 w1) := Below.refl _ _
  clear o1 b1 SE B0 P0
  go_wp2
  go_loopw [6] (fun i wr => ∃ j : Nat, j ≤ n ∧ i = .int .i64 (j : Int) ∧ Hid (∀ k (h : k < L.length), k < j → L[k]'h ≠ S) ∧ Hid (Below w1.heap.size w1 wr)) (fun i _ => n - (intOf i).toNat)
  case atStart => exact ⟨0, by omega, rfl, fun k h hk => by omega, Z1⟩
  case round =>
    clear Z1
    obtain ⟨j, hj, rfl, hno, hbel⟩ := hrel
    have BW := Lib.hid (bt B1.out hbel.out)
    by_cases hjn : j < n
    rotate_left
    · have q3 : decide (j < n) = false := by simpa using hjn
      obtain rfl := HZ.out (fun i h => hno.out i h (by have := HN.out; omega))
      go_wp2
      go_ret
      exact ⟨rfl, BW.out⟩
    have q3 : decide (j < n) = true := by simpa using hjn
    have q4 : (0 : Int) ≤ (j : Int) := by omega
    have q5 : (j : Int) < (n : Int) := by omega
    have hjl : j < L.length := by rw [← HN.out]; exact hjn
    obtain ⟨bb, oo, e, hbb, h0, h1⟩ := Ids.at (SI.out wr hbel.out) j hjl
    subst e
    rw [getD_get hjl] at h0 h1
    obtain ⟨x, hx⟩ : ∃ x, L[j]'hjl = x := ⟨_, rfl⟩
    rw [hx] at h0 h1
    have HX : Hid (L[j]'hjl = x) := hx
    have HXS := Lib.hid (HSE.out x)
    obtain ⟨t, r, ht, hr⟩ := x
    simp only at h0 h1 HXS
    have P2 := (P1.out.keeps hbel.out)
    obtain ⟨hlt, f0, f1⟩ := P2
    clear hx hbb
    by_cases he : t = ts ∧ r = rs
    · obtain ⟨rfl, rfl⟩ := he
      obtain rfl := HW.out j hjl hno.out (by rw [HX.out]; exact HXS.out.2 ⟨rfl, rfl⟩)
      have BD : Hid (Below w.heap.size w wr.drew) := BW.out.drew
      clear HXS HX HW HZ hno
      go_wp2
      go_region
      go_wp2
      go_ret
      exact ⟨rfl, BD.out⟩
    have NO : Hid (∀ k (h : k < L.length), k < j + 1 → L[k]'h ≠ S) := fun k h hk => by
      by_cases e : k = j
      · subst e
        rw [HX.out]
        intro e2
        exact he (HXS.out.1 e2)
      · exact hno.out k h (by omega)
    have BD : Hid (Below w1.heap.size w1 wr.drew) := hbel.out.drew
    have hne : ¬ t = ts ∨ (t = ts ∧ ¬ r = rs) := by
      by_cases h : t = ts
      · exact .inr ⟨h, fun h2 => he ⟨h, h2⟩⟩
      · exact .inl h
    clear HXS HX HW HZ hno he BW
    rcases hne with hne | ⟨rfl, hne⟩
    · have hi : ¬ ((t : Int) = (ts : Int)) := by omega
      go_wp2
      go_region
      go_wp2
      go_roundw
      case rel => exact ⟨j + 1, by omega, by go_num, NO, BD⟩
      case measure => simp [intOf]; omega
    · have hi : ¬ ((r : Int) = (rs : Int)) := by omega
      go_wp2
      go_region
      go_wp2
      go_roundw
      case rel => exact ⟨j + 1, by omega, by go_num, NO, BD⟩
      case measure => simp [intOf]; omega
end Go.Proofs.YtdackenaknieaaaGreat.Homes

/- octavoref13.Begin, All, Of, Ahead, Span: what each answers. Conditions: the slices' cells are operations, runs. -/
namespace Go.Proofs.YtdackenaknieaaaGreat.Homes
open Go.RowKit Go.WideShapes Stamp Go.Proofs.YtdackenaknieaaaGreat.Place Ops Codes Bags Marks
attribute [local go_sem ↓] Go.wp_at_zero Go.wp_at_succ
attribute [local go_sem] yielded_undef

theorem begin_low {live : List Opn} {a : Int} (h : a < 1) : beginM live a = [] := by unfold beginM; rw [if_neg (by omega)]
theorem begin_high {live : List Opn} {a : Int} (h : (live.length : Int) < a) : beginM live a = [] := by unfold beginM; rw [if_neg (by omega)]
theorem lives_fits {l : List Opn} (h : Bag l) : (livesM l l).length ≤ 1024 ∧ ∀ o ∈ livesM l l, mayO o = true := ⟨Nat.le_trans (livesM_le l l) h.1, lives_may h.2.1⟩

end Go.Proofs.YtdackenaknieaaaGreat.Homes

/- What calls of home answer. Conditions: none. -/
namespace Go.Proofs.YtdackenaknieaaaGreat.Homes
open Go.RowKit Go.WideShapes Stamp Go.Proofs.YtdackenaknieaaaGreat.Place Ops Codes Bags Marks
/-- Two rows of the call's own (they may lie in one block), and an error. -/
def TwoR (A B : List Run) (x : Int) (w : World) (e : Ending) (w' : World) : Prop := ∃ va vb, e = .returned (.tuple #[va, vb, .int .i64 x]) ∧ w'.ownsRow w.heap.size 49 3 va A.length (runs A) ∧ w'.ownsRow w.heap.size 49 3 vb B.length (runs B) ∧ Below w.heap.size w w'
/-- A slice value whose cells may be written over: its block lies from base on. -/
def Wk (w : World) (base : Nat) (ao : Option Addr) (n : Nat) : Prop := n = 0 ∨ ∃ g cur, ao = some ⟨g, 0, none⟩ ∧ base ≤ g ∧ w.heap[g]? = some (.cells cur 49 (0, 0)) ∧ n * 3 ≤ cur.size
theorem Wk.of {w : World} {base n cap : Nat} {ao : Option Addr} {cs : List Value} (h : w.ownsRow base 49 3 (.slice ao n cap) n cs) : Wk w base ao n := by
  rcases h.2 with ⟨hv, h0⟩ | ⟨g, c2, cur, hv, hb, h1, h2, h3, h4, h5⟩
  · exact .inl h0
  · obtain ⟨rfl, -, rfl⟩ := Value.slice.inj hv
    exact .inr ⟨g, cur, rfl, hb, h1, by rw [h4]; exact Nat.mul_le_mul_right 3 h2⟩
theorem Wk.keeps {w w' : World} {base n : Nat} {ao : Option Addr} (h : Wk w base ao n) (hb : Below w.heap.size w w') : Wk w' base ao n :=
  h.imp id fun ⟨g, cur, h1, h2, h3, h4⟩ => ⟨g, cur, h1, h2, blk_below hb h3, h4⟩
theorem Wk.set {w : World} {base n g j : Nat} {ao : Option Addr} {u : Value} (h : Wk w base ao n) : Wk (w.setCell ⟨g, j, none⟩ u) base ao n := by
  refine h.imp id fun ⟨q, cur, h1, h2, h3, h4⟩ => ?_
  by_cases e : q = g
  · subst e
    exact ⟨q, _, h1, h2, heap_setCell_same w q j cur _ u h3, by rw [Array.size_setIfInBounds]; exact h4⟩
  · exact ⟨q, cur, h1, h2, (heap_setCell_other w ⟨g, j, none⟩ q u e).trans h3, h4⟩
theorem Wk.at {w : World} {base n k : Nat} {ao : Option Addr} (h : Wk w base ao n) (hk : k < n) : ∃ g u, ao = some ⟨g, 0, none⟩ ∧ base ≤ g ∧ w.cell? ⟨g, k * 3 + 2, none⟩ = some u ∧ w.frozen? ⟨g, k * 3 + 2, none⟩ = false := by
  rcases h with h | ⟨g, cur, h1, h2, h3, h4⟩
  · omega
  · have hj : k * 3 + 2 < cur.size := by omega
    exact ⟨g, cur[k * 3 + 2]'hj, h1, h2, (cell_of_row _ g (k * 3 + 2) cur _ _ h3).trans (Array.getElem?_eq_getElem hj), by simp [World.frozen?, h3]⟩
end Go.Proofs.YtdackenaknieaaaGreat.Homes

/- octavoref13.Ahead, Span: what each answers. Conditions: the slice's cells are operations. -/
namespace Go.Proofs.YtdackenaknieaaaGreat.Homes
open Go.RowKit Go.WideShapes Stamp Go.Proofs.YtdackenaknieaaaGreat.Place Ops Codes Bags Marks
attribute [local go_sem ↓] Go.wp_at_zero Go.wp_at_succ
attribute [local go_sem] yielded_undef

theorem where_lo (live : List Opn) (s : Id) : -1 ≤ whereM live s ∧ whereM live s ≤ live.length := by
  unfold whereM
  split <;> omega
end Go.Proofs.YtdackenaknieaaaGreat.Homes
