/- octavoref12.Lives, Live: what each answers. Conditions: of Lives: operations that may be, not too many. octavoref14.In: what it answers. Conditions: operations that may be, not more than a million; live marks that may be. octavoref14.Is: what it answers. Conditions: an operation that may be; live marks that may be. -/
import Derived.Test.YtohiidgdpecbdaaGreatChecked
import Derived.WalkKit
import Derived.WalkSpells
import Derived.WalkLawsBesides
import Derived.Laws.BytesArg
import Derived.Lib.Hide
import Derived.Deep.LoopGhost
import Derived.Laws.AppendOwnNone
import Derived.Laws.OwnMore
import Derived.WideShapes
import Derived.Maps.AppendAt
import Derived.RegionTactic
import Derived.Deep.RegionHeld3
import Derived.Deep.DrawnRows
import Derived.Deep.QuietTactic
import Derived.BigQuiet
import Derived.IntWalk
import Derived.Deep.DeepCutAuto
import Derived.ScopeJumps
import Derived.Test.YtohiidgdpecbdaaGreatProg
import Derived.LoopTactic
import Derived.Laws.EntriesVeiled
import Derived.RowKit
import Derived.Test.YtohiidgdpecbdaaGreatRw
import Derived.Test.YtohiidgdpecbdaaGreatPk22
import Derived.Test.YtohiidgdpecbdaaGreatPk04
import Derived.Test.YtohiidgdpecbdaaGreatPk21
import Derived.Test.YtohiidgdpecbdaaGreatPk20
import Derived.Test.YtohiidgdpecbdaaGreatPk03
import Derived.Test.YtohiidgdpecbdaaGreatPk02
import Derived.Test.YtohiidgdpecbdaaGreatPk01
import Derived.Test.YtohiidgdpecbdaaGreatPk19
import Derived.Test.YtohiidgdpecbdaaGreatPk23
import Derived.Test.YtohiidgdpecbdaaGreatPk05

namespace Go.Proofs.YtohiidgdpecbdaaGreat.Marks
open Go.RowKit Go.WideShapes Stamp Go.Proofs.YtohiidgdpecbdaaGreat.Place Ops Codes Bags
attribute [local go_sem ↓] Go.wp_at_zero Go.wp_at_succ
attribute [local go_sem] yielded_undef
theorem refHeldM_any {a b : Value} {x y : Opn} {w : World} (ha : Runs w a x.pl) (hb : Runs w b y.pl) (hx : mayO x = true) (hy : mayO y = true) :
    Calls Tryz.prog 62 #[a, b] w fun e w' => e = .returned (.int .i64 (cmp x.pl y.pl)) ∧ Below w.heap.size w w' := by
  have m1 := (mayB_iff _).1 (mayO_parts hx).2.1
  have m2 := (mayB_iff _).1 (mayO_parts hy).2.1
  have e : cmp x.pl y.pl = Go.Proofs.YtohiidgdpecbdaaGreat.Place.hold (all x.pl) (all y.pl) := by unfold cmp; rw [if_pos ⟨anyB_may (mayO_parts hx).2.1, anyB_may (mayO_parts hy).2.1⟩]
  rw [e]
  exact held_any ha hb m1.2.2.1 m2.2.2.1 (Nat.le_trans m1.2.1 (by decide)) (Nat.le_trans m2.2.1 (by decide))
set_option maxRecDepth 100000 in
set_option maxHeartbeats 16000000 in
theorem refLives_any {v0 : Value} {l : List Opn} {w : World} (hv : OpL w v0 l) (hm : ∀ o ∈ l, mayO o = true) (hl : l.length ≤ 1024) :
    Calls Tryz.prog 29 #[v0] w fun e w' => ∃ v', e = .returned v' ∧ OpL w' v' (livesM l l) ∧ Below w.heap.size w w' := by
  obtain ⟨ao, cap, rfl⟩ := hv.shape
  obtain ⟨n, hn⟩ : ∃ n, n = l.length := ⟨_, rfl⟩
  have hnm : n ≤ 1024 := by omega
  have HV : Hid (∀ W : World, Below w.heap.size w W → OpL W (.slice ao l.length cap) l) := fun W h => hv.keeps h
  have HN := Lib.hid hn
  have HMY := Lib.hid hm
  have EN : Hid (∀ (x : Opn) (W : World), Below w.heap.size w W → Calls Tryz.prog 61 #[.slice ao n cap, .agg #[.int .u32 (x.t : Int), .int .u8 (x.r : Int)]] W fun e w' => e = .returned (.bool (ended l (idO x))) ∧ Below W.heap.size W w') := fun x W h => by
    have := refEnded_any (idO x) (HV.out W h) HMY.out
    rw [← hn] at this
    exact this
  rw [← hn]
  have S0 : Hid (ShrO w w (.slice none 0 0) (livesM l (l.take 0))) := Shr.nil _ _ _ _
  have M0 : Hid (0 = (livesM l (l.take 0)).length) := rfl
  have B0 : Hid (Below w.heap.size w w) := Below.refl _ _
  clear hv hn hl hm
  go_enter Tryz.func29, Tryz.ntmps29
  go_wp2
  go_loopw [3, 4] (fun v i wr => ∃ j m : Nat, j ≤ n ∧ i = .int .i64 (j : Int) ∧ (∃ ao cap, v = .slice ao m cap) ∧ Hid (m = (livesM l (l.take j)).length) ∧ Hid (ShrO w wr v (livesM l (l.take j))) ∧ Hid (Below w.heap.size w wr)) (fun _ i _ => n - (intOf i).toNat)
  case atStart => exact ⟨0, 0, by omega, rfl, ⟨none, 0, rfl⟩, M0, S0, B0⟩
  case round =>
    clear S0 M0 B0
    obtain ⟨j, m, hj, rfl, ⟨aoL, capL, rfl⟩, HM, hshr, hbel⟩ := hrel
    by_cases hjn : j < n
    rotate_left
    · have q3 : decide (j < n) = false := by simpa using hjn
      have hkk : l.take j = l := List.take_of_length_le (by have := HN.out; omega)
      rw [hkk] at hshr
      clear hkk
      go_wp2
      go_ret
      exact ⟨_, rfl, hshr.out.seq hbel.out, hbel.out⟩
    have q3 : decide (j < n) = true := by simpa using hjn
    have q4 : (0 : Int) ≤ (j : Int) := by omega
    have q5 : (j : Int) < (n : Int) := by omega
    have hjl : j < l.length := by rw [← HN.out]; exact hjn
    have hmj : m ≤ j := by have h1 := livesM_le l (l.take j); rw [List.length_take] at h1; have := HM.out; omega
    obtain ⟨bb, oo, u, e, hbb, hru, h0, h1, h2, h3, h4⟩ := opl_at (HV.out w (Below.refl _ _)) j hjl
    subst e
    obtain ⟨x, hx⟩ : ∃ x, x = l[j]'hjl := ⟨_, rfl⟩
    rw [← hx] at hru h0 h1 h2 h4
    have HO : Hid (∀ v : Value, opv x v = .agg #[.int .u8 (x.k : Int), .int .u32 (x.t : Int), .int .u8 (x.r : Int), v, .int .i64 x.p]) := fun v => rfl
    replace h0 := ((hbel.out).cell (p := ⟨bb, oo + j * 5, none⟩) hbb).trans h0
    replace h1 := ((hbel.out).cell (p := ⟨bb, oo + j * 5 + 1, none⟩) hbb).trans h1
    replace h2 := ((hbel.out).cell (p := ⟨bb, oo + j * 5 + 2, none⟩) hbb).trans h2
    replace h3 := ((hbel.out).cell (p := ⟨bb, oo + j * 5 + 3, none⟩) hbb).trans h3
    replace h4 := ((hbel.out).cell (p := ⟨bb, oo + j * 5 + 4, none⟩) hbb).trans h4
    have hbo := hbb
    replace hbb := Nat.lt_of_lt_of_le hbb (hbel.out).size
    obtain ⟨uo, uc, rfl⟩ := hru.shape
    obtain ⟨nu, hnu⟩ : ∃ n, n = x.pl.length := ⟨_, rfl⟩
    have HNU := Lib.hid hnu
    rw [← hnu] at hru h3
    clear hnu
    have hxm : x ∈ l := by rw [hx]; exact List.getElem_mem _
    have MX := Lib.hid (HMY.out x hxm)
    have RX : Hid (Runs w (.slice uo nu uc) x.pl) := hru
    have INN : Hid (opE.inn w [.int .u8 (x.k : Int), .int .u32 (x.t : Int), .int .u8 (x.r : Int), .slice uo nu uc, .int .i64 x.p] x) := ⟨_, rfl, hru⟩
    have ST : Hid (livesM l (l.take (j + 1)) = if x.k = 2 ∧ ended l (idO x) = false then insM (livesM l (l.take j)) x else livesM l (l.take j)) := by unfold Hid; rw [List.take_succ_eq_append_getElem hjl, livesM_snoc, ← hx]; rfl
    have EX := Lib.hid (EN.out x)
    have ML : Hid (∀ y ∈ livesM l (l.take j), mayO y = true) := fun y hy => HMY.out y (List.mem_of_mem_take (mem_livesM.1 hy).1)
    obtain ⟨out, hout⟩ : ∃ z, livesM l (l.take j) = z := ⟨_, rfl⟩
    rw [hout] at HM hshr ST ML
    obtain ⟨en, hen⟩ : ∃ b, ended l (idO x) = b := ⟨_, rfl⟩
    rw [hen] at EX ST
    clear hx hru hxm hout hen
    obtain ⟨k, hk⟩ : ∃ z, x.k = z := ⟨_, rfl⟩
    obtain ⟨t, ht⟩ : ∃ z, x.t = z := ⟨_, rfl⟩
    obtain ⟨r, hr⟩ : ∃ z, x.r = z := ⟨_, rfl⟩
    obtain ⟨p, hp⟩ : ∃ z, x.p = z := ⟨_, rfl⟩
    rw [hk, ht, hr, hp] at HO
    rw [hk] at h0
    rw [ht] at h1
    rw [hr] at h2
    rw [hp] at h4
    rw [hk, ht, hr, hp] at INN
    rw [ht, hr] at EX
    rw [hk] at ST
    have F1 : Hid (FiveAt wr bb (oo + j * 5) (.int .u8 (k : Int)) (.int .u32 (t : Int)) (.int .u8 (r : Int)) (.slice uo nu uc) (.int .i64 p)) := ⟨hbb, h0, h1, h2, h3, h4⟩
    have SK : Hid (∀ w' : World, Below wr.heap.size wr w' → Below wr.heap.size wr w' ∧ w'.cell? ⟨bb, oo + j * 5, none⟩ = some (.int .u8 (k : Int)) ∧ w'.cell? ⟨bb, oo + j * 5 + 1, none⟩ = some (.int .u32 (t : Int)) ∧ w'.cell? ⟨bb, oo + j * 5 + 2, none⟩ = some (.int .u8 (r : Int)) ∧ w'.cell? ⟨bb, oo + j * 5 + 3, none⟩ = some (.slice uo nu uc) ∧ w'.cell? ⟨bb, oo + j * 5 + 4, none⟩ = some (.int .i64 p)) := fun W h => ⟨h, (F1.out.keeps h).2⟩
    clear hk ht hr hp HO
    by_cases hk2 : k = 2
    rotate_left
    · have qk : ((k : Int) == 2) = false := by simp; omega
      rw [show (if k = 2 ∧ en = false then insM out x else out) = out from if_neg (fun h => hk2 h.1)] at ST
      rw [← ST.out] at HM hshr
      go_wp2
      go_roundw
      case rel => exact ⟨j + 1, m, by omega, by go_num, ⟨aoL, capL, rfl⟩, HM, Lib.hid (hshr.out.keeps (Below.refl _ _)), Lib.hid (bt hbel.out (Below.refl _ _))⟩
      case measure => simp [intOf]; omega
    subst hk2
    have ST1 : Hid (en = true → livesM l (l.take (j + 1)) = out) := fun h => by rw [ST.out, h]; exact if_neg (fun h => by cases h.2)
    have ST2 : Hid (en = false → livesM l (l.take (j + 1)) = insM out x) := fun h => by rw [ST.out, h]; exact if_pos ⟨rfl, rfl⟩
    clear ST
    go_wp2_with fail
    refine (EX.out _ hbel.out).mono ?_
    rintro e w5 ⟨rfl, b5⟩
    cases en
    rotate_left
    · have e9 := ST1.out rfl
      rw [← e9] at HM hshr
      clear e9
      go_wp2
      go_roundw
      case rel => exact ⟨j + 1, m, by omega, by go_num, ⟨aoL, capL, rfl⟩, HM, Lib.hid (hshr.out.keeps b5), Lib.hid (bt hbel.out b5)⟩
      case measure => simp [intOf]; omega
    have ST := Lib.hid (ST2.out rfl)
    clear ST1 ST2
    have hsh := Lib.hid (hshr.out.keeps b5)
    have hb2 := Lib.hid (bt hbel.out b5)
    have F2 := Lib.hid (F1.out.keeps b5)
    clear b5 hshr hbel F1 SK EX hbb h0 h1 h2 h3 h4
    have hmo : out.length = m := HM.out.symm
    go_wp2
    go_loopw [5] (fun a wz => ∃ i : Nat, i ≤ m ∧ a = .int .i64 (i : Int) ∧ Hid (∀ k (h : k < out.length), k < i → ahead (out[k]'h) x = true) ∧ Hid (Below w5.heap.size w5 wz)) (fun a _ => m - (intOf a).toNat)
    case atStart => exact ⟨0, by omega, rfl, fun k h hk => by omega, Below.refl _ _⟩
    case round =>
      obtain ⟨i, him, rfl, hah, hbz⟩ := hrel
      have OZ := Lib.hid ((hsh.out.keeps hbz.out).seq (bt hb2.out hbz.out))
      have k0 : i ≤ capL := by have := (shr_fix hsh.out).cap; omega
      have k1 : (0 : Int) ≤ (i : Int) := by omega
      have k2 : (i : Int) ≤ (capL : Int) := by omega
      have k3 : (i : Int) ≤ (m : Int) := by omega
      by_cases hlt : i < m
      · have q6 : decide ((i : Int) < (m : Int)) = true := decide_eq_true (by omega)
        have q7 : decide (i < m) = true := decide_eq_true (by omega)
        have q8 : (i : Int) < (m : Int) := by omega
        have hil : i < out.length := by omega
        obtain ⟨bby, ooy, uy, ey, hbby, hruy, h0y, h1y, h2y, h3y, h4y⟩ := opl_at (OZ.out) i hil
        subst ey
        obtain ⟨xy, hxy⟩ : ∃ x, x = out[i]'hil := ⟨_, rfl⟩
        rw [← hxy] at hruy h0y h1y h2y h4y
        have HOy : Hid (∀ v : Value, opv xy v = .agg #[.int .u8 (xy.k : Int), .int .u32 (xy.t : Int), .int .u8 (xy.r : Int), v, .int .i64 xy.p]) := fun v => rfl
        have hym : xy ∈ out := by rw [hxy]; exact List.getElem_mem _
        have HE : Hid (∀ W : World, Below wr.heap.size wr W → Calls Tryz.prog 62 #[uy, .slice uo nu uc] W fun e w' => e = .returned (.int .i64 (cmp xy.pl x.pl)) ∧ Below W.heap.size W w') := fun W h => refHeldM_any (hruy.keeps h) (RX.out.keeps (bt (bt hb2.out hbz.out) h)) (ML.out xy hym) MX.out
        obtain ⟨c, hc⟩ : ∃ c, cmp xy.pl x.pl = c := ⟨_, rfl⟩
        rw [hc] at HE
        have HAH : Hid (ahead (out[i]'hil) x = decide (c < 0)) := by unfold Hid ahead; rw [← hxy, hc]
        have f3 := ((F2.out.keeps hbz.out).2).2.2.2.1
        have g3 := (F2.out.keeps hbz.out).1
        have SK : Hid (∀ w' : World, Below wr.heap.size wr w' → Below wr.heap.size wr w' ∧ w'.cell? ⟨bb, oo + j * 5 + 3, none⟩ = some (.slice uo nu uc) ∧ w'.cell? ⟨bby, ooy + i * 5 + 3, none⟩ = some uy) := fun W h => ⟨h, (h.cell (p := ⟨bb, oo + j * 5 + 3, none⟩) g3).trans f3, (h.cell (p := ⟨bby, ooy + i * 5 + 3, none⟩) hbby).trans h3y⟩
        clear h0y h1y h2y h3y h4y f3 g3 hbby hruy hym hxy hc HOy
        by_cases hcn : c < 0
        · have q9 : decide (c < 0) = true := decide_eq_true hcn
          have AH : Hid (∀ k (h : k < out.length), k < i + 1 → ahead (out[k]'h) x = true) := fun k h hk => by
            by_cases e : k = i
            · subst e; rw [HAH.out]; exact q9
            · exact hah.out k h (by omega)
          clear HAH hah
          go_wp2
          refine wp_region_held_drew (S := fun w' => Below wr.heap.size wr w' ∧ w'.cell? ⟨bb, oo + j * 5 + 3, none⟩ = some (.slice uo nu uc) ∧ w'.cell? ⟨bby, ooy + i * 5 + 3, none⟩ = some uy) (by kernel_rfl) (SK.out _ (drew1 _)) (fun hHeld => ?_)
          refine rN 0 ?_
          refine rN 1 ?_
          refine rN 2 ?_
          refine rN 3 ?_
          refine rN 4 ?_
          refine rN 5 ?_
          refine rN 6 ?_
          refine rN 7 ?_
          refine rN 8 ?_
          refine rN 9 ?_
          refine rN 10 ?_
          refine rN 11 ?_
          refine rN 12 ?_
          refine rN 13 ?_
          refine rN 14 ?_
          refine wpAnyH_ready (rs := [15]) (by kernel_rfl) (by simp) ?_
          refine AllReadyH.cons rfl (fun K hK => ?_) ?zd15
          case zd15 => exact AllReadyH.nil
          go_simp
          refine (HE.out _ hHeld.1).mono ?_
          rintro e w9d15 ⟨rfl, b9⟩
          refine hK.out _ _ (SK.out _ (bt hHeld.1 b9)) (fun hNew => ?_)
          clear hHeld
          have hHeld := hNew
          clear hNew hK K
          refine rX ?_
          refine rN 16 ?_
          refine rN 17 ?_
          refine wpAnyH_done (by kernel_rfl) ?_ _
          go_wp2
          go_roundw
          case rel => exact ⟨i + 1, by omega, by go_num, AH, Lib.hid (bt hbz.out hHeld.1)⟩
          case measure => simp [intOf]; omega
        · have q9 : decide (c < 0) = false := decide_eq_false hcn
          have AT : Hid (atM out x = i) := atM_is (by omega) hah.out (fun h => by rw [HAH.out]; exact q9)
          clear HAH
          go_wp2
          refine wp_region_held_drew (S := fun w' => Below wr.heap.size wr w' ∧ w'.cell? ⟨bb, oo + j * 5 + 3, none⟩ = some (.slice uo nu uc) ∧ w'.cell? ⟨bby, ooy + i * 5 + 3, none⟩ = some uy) (by kernel_rfl) (SK.out _ (drew1 _)) (fun hHeld => ?_)
          refine rN 0 ?_
          refine rN 1 ?_
          refine rN 2 ?_
          refine rN 3 ?_
          refine rN 4 ?_
          refine rN 5 ?_
          refine rN 6 ?_
          refine rN 7 ?_
          refine rN 8 ?_
          refine rN 9 ?_
          refine rN 10 ?_
          refine rN 11 ?_
          refine rN 12 ?_
          refine rN 13 ?_
          refine rN 14 ?_
          refine wpAnyH_ready (rs := [15]) (by kernel_rfl) (by simp) ?_
          refine AllReadyH.cons rfl (fun K hK => ?_) ?ze15
          case ze15 => exact AllReadyH.nil
          go_simp
          refine (HE.out _ hHeld.1).mono ?_
          rintro e w9e15 ⟨rfl, b9⟩
          refine hK.out _ _ (SK.out _ (bt hHeld.1 b9)) (fun hNew => ?_)
          clear hHeld
          have hHeld := hNew
          clear hNew hK K
          refine rX ?_
          refine rN 16 ?_
          refine rN 17 ?_
          refine wpAnyH_done (by kernel_rfl) ?_ _
          have SZ := Lib.hid ((hsh.out.keeps hbz.out).keeps hHeld.1)
          have BZ := Lib.hid (bt (bt hb2.out hbz.out) hHeld.1)
          have FZ := Lib.hid (F2.out.keeps (bt hbz.out hHeld.1))
          clear hHeld OZ hsh hb2 F2 hbz hah
          rcases shr_drop SZ.out him with ⟨e1, -, -, -⟩ | ⟨ab, aof, a', e1, hif, hpart⟩
          · cases e1
          have PT := Lib.hid hpart
          cases e1
          clear hpart
          try dsimp only at hif
          have HN1 : Hid (i = ([] : List Opn).length + (out.take i).length) := by unfold Hid; rw [List.length_nil, List.length_take]; omega
          have HN2 : Hid (i = (out.take i).length) := by unfold Hid; rw [List.length_take]; omega
          have HN3 : Hid (m + 1 = (out.take i ++ [x]).length + (out.drop i).length) := by unfold Hid; rw [List.length_append, List.length_take, List.length_drop, List.length_singleton]; omega
          have HTK : Hid (Seq (fixE (fixE opE w) w9e15) w9e15 (.slice (some ⟨bby, ooy, none⟩) i capL) (out.take i)) := (shr_fix SZ.out).take (m := i) (by omega)
          go_wp2_with (at_builtin; refine wpList_append_shr (E := fixE opE w) Tryz.underlying22 op_info rfl (w0 := w9e15) (by rfl) (.tmp 48) (.tmp 51) (by rfl) (by rfl) (Shr.nil _ _ _ _) (by rfl) HTK.out HN1.out (by omega) (by omega) (Nat.le_refl _) ?_)
          rintro v6 w6 s6 a6 c6 rfl b6
          have S6 := Lib.hid s6
          have W6 := Lib.hid b6
          obtain ⟨h0, h1, h2, h3, h4⟩ := (FZ.out.keeps b6).2
          clear s6 b6 FZ HTK
          go_wp2_with (at_builtin; refine wpList_append_enc (E := fixE opE w) Tryz.underlying22 op_info rfl (w0 := w9e15) (wp := w6) (by rfl) (.tmp 53) (.tmp 58) (by rfl) (by rfl) S6.out (G := w6.heap.size) (by rfl) rfl (c := #[.int .u8 2, .int .u32 (t : Int), .int .u8 (r : Int), .slice uo nu uc, .int .i64 p]) INN.out HN2.out (by omega) (by omega) W6.out.size ?_)
          rintro v7 w7 s7 a7 c7 rfl b7
          have S7 := Lib.hid s7
          have W7 := Lib.hid (W6.out.trans b7)
          clear s7 b7 S6 W6 h0 h1 h2 h3 h4
          have P7 : Hid (Seq (fixE (fixE opE w) w9e15) w7 (.slice (some a') (m - i) (capL - i)) (out.drop i)) := (Seq.keeps PT.out W7.out)
          go_wp2_with (at_builtin; refine wpList_append_shr (E := fixE opE w) Tryz.underlying22 op_info rfl (w0 := w9e15) (by rfl) (.tmp 60) (.tmp 63) (by rfl) (by rfl) S7.out (by rfl) P7.out HN3.out (by omega) (by omega) W7.out.size ?_)
          rintro v8 w8 s8 a8 c8 rfl b8
          have S8 := Lib.hid s8
          have B8 := Lib.hid (bt BZ.out (W7.out.trans b8))
          have O8 : Hid (ShrO w w8 (.slice a8 (m + 1) c8) (livesM l (l.take (j + 1)))) := by
            unfold Hid
            have h9 := shr_unfix S8.out BZ.out.size
            rw [ST.out]
            unfold insM
            rw [AT.out]
            simpa using h9
          have M8 : Hid (m + 1 = (livesM l (l.take (j + 1))).length) := by unfold Hid; rw [ST.out, insM_len]; omega
          clear S8
          go_wp2
          go_roundw
          case rel => exact ⟨j + 1, m + 1, by omega, by go_num, ⟨a8, c8, rfl⟩, M8, O8, B8⟩
          case measure => simp [intOf]; omega
      · have him3 : ¬ (i : Int) < (m : Int) := by omega
        have q6 : decide ((i : Int) < (m : Int)) = false := decide_eq_false (by omega)
        have q7 : decide (i < m) = false := decide_eq_false (by omega)
        have AT : Hid (atM out x = i) := atM_is (by omega) hah.out (fun h => by omega)
        have SK : Hid (∀ w' : World, Below wr.heap.size wr w' → Below wr.heap.size wr w' ∧ True) := fun W h => ⟨h, trivial⟩
        go_wp2
        refine wp_region_held_drew (S := fun w' => Below wr.heap.size wr w' ∧ True) (by kernel_rfl) (SK.out _ (drew1 _)) (fun hHeld => ?_)
        refine rN 0 ?_
        refine rN 1 ?_
        refine rN 2 ?_
        refine rN 3 ?_
        refine rN 4 ?_
        refine rV 5 ?_
        refine rV 6 ?_
        refine rV 7 ?_
        refine rV 8 ?_
        refine rV 9 ?_
        refine rV 10 ?_
        refine rV 11 ?_
        refine rV 12 ?_
        refine rV 13 ?_
        refine rV 14 ?_
        refine rV 15 ?_
        refine rV 16 ?_
        refine rN 17 ?_
        refine wpAnyH_done (by kernel_rfl) ?_ _
        have SZ := Lib.hid ((hsh.out.keeps hbz.out).keeps hHeld.1)
        have BZ := Lib.hid (bt (bt hb2.out hbz.out) hHeld.1)
        have FZ := Lib.hid (F2.out.keeps (bt hbz.out hHeld.1))
        clear hHeld OZ hsh hb2 F2 hbz hah
        generalize wr.drew = WB at SZ BZ FZ ⊢
        rcases shr_drop SZ.out him with ⟨e1, e2, e3, e4⟩ | ⟨ab, aof, a', e1, hif, hpart⟩
        · subst e1 e2 e3 e4
          obtain rfl : i = 0 := by omega
          have HN1 : Hid (0 = ([] : List Opn).length + (([] : List Opn).take 0).length) := by unfold Hid; rw [List.length_nil, List.length_take]; omega
          have HN2 : Hid (0 = (([] : List Opn).take 0).length) := by unfold Hid; rw [List.length_take]; omega
          have HN3 : Hid (0 + 1 = (([] : List Opn).take 0 ++ [x]).length + (([] : List Opn).drop 0).length) := by unfold Hid; rw [List.length_append, List.length_take, List.length_drop, List.length_singleton]; omega
          have HTK : Hid (Seq (fixE (fixE opE w) WB) WB (.slice none 0 0) (([] : List Opn).take 0)) := (shr_fix SZ.out).take (m := 0) (by omega)
          go_wp2_with (at_builtin; refine wpList_append_shr (E := fixE opE w) Tryz.underlying22 op_info rfl (w0 := WB) (by rfl) (.tmp 48) (.tmp 51) (by rfl) (by rfl) (Shr.nil _ _ _ _) (by rfl) HTK.out HN1.out (by omega) (by omega) (Nat.le_refl _) ?_)
          rintro v6 w6 s6 a6 c6 rfl b6
          have S6 := Lib.hid s6
          have W6 := Lib.hid b6
          obtain ⟨h0, h1, h2, h3, h4⟩ := (FZ.out.keeps b6).2
          clear s6 b6 FZ HTK
          go_wp2_with (at_builtin; refine wpList_append_enc (E := fixE opE w) Tryz.underlying22 op_info rfl (w0 := WB) (wp := w6) (by rfl) (.tmp 53) (.tmp 58) (by rfl) (by rfl) S6.out (G := w6.heap.size) (by rfl) rfl (c := #[.int .u8 2, .int .u32 (t : Int), .int .u8 (r : Int), .slice uo nu uc, .int .i64 p]) INN.out HN2.out (by omega) (by omega) W6.out.size ?_)
          rintro v7 w7 s7 a7 c7 rfl b7
          have S7 := Lib.hid s7
          have W7 := Lib.hid (W6.out.trans b7)
          clear s7 b7 S6 W6 h0 h1 h2 h3 h4
          have P7 : Hid (Seq (fixE (fixE opE w) WB) w7 (.slice none 0 0) ([] : List Opn)) := Seq.nil _ _
          go_wp2_with (at_builtin; refine wpList_append_shr (E := fixE opE w) Tryz.underlying22 op_info rfl (w0 := WB) (by rfl) (.tmp 60) (.tmp 63) (by rfl) (by rfl) S7.out (by rfl) P7.out HN3.out (by omega) (by omega) W7.out.size ?_)
          rintro v8 w8 s8 a8 c8 rfl b8
          have S8 := Lib.hid s8
          have B8 := Lib.hid (bt BZ.out (W7.out.trans b8))
          have O8 : Hid (ShrO w w8 (.slice a8 (0 + 1) c8) (livesM l (l.take (j + 1)))) := by
            unfold Hid
            have h9 := shr_unfix S8.out BZ.out.size
            rw [ST.out]
            unfold insM
            rw [AT.out]
            simpa using h9
          have M8 : Hid (0 + 1 = (livesM l (l.take (j + 1))).length) := by unfold Hid; rw [ST.out, insM_len]; omega
          clear S8
          go_wp2
          go_roundw
          case rel => exact ⟨j + 1, 0 + 1, by omega, by go_num, ⟨a8, c8, rfl⟩, M8, O8, B8⟩
          case measure => simp [intOf]; omega
        have PT := Lib.hid hpart
        try dsimp only at hif
        subst e1
        clear hpart
        have HN1 : Hid (i = ([] : List Opn).length + (out.take i).length) := by unfold Hid; rw [List.length_nil, List.length_take]; omega
        have HN2 : Hid (i = (out.take i).length) := by unfold Hid; rw [List.length_take]; omega
        have HN3 : Hid (m + 1 = (out.take i ++ [x]).length + (out.drop i).length) := by unfold Hid; rw [List.length_append, List.length_take, List.length_drop, List.length_singleton]; omega
        have HTK : Hid (Seq (fixE (fixE opE w) WB) WB (.slice (some ⟨ab, aof, none⟩) i capL) (out.take i)) := (shr_fix SZ.out).take (m := i) (by omega)
        go_wp2_with (at_builtin; refine wpList_append_shr (E := fixE opE w) Tryz.underlying22 op_info rfl (w0 := WB) (by rfl) (.tmp 48) (.tmp 51) (by rfl) (by rfl) (Shr.nil _ _ _ _) (by rfl) HTK.out HN1.out (by omega) (by omega) (Nat.le_refl _) ?_)
        rintro v6 w6 s6 a6 c6 rfl b6
        have S6 := Lib.hid s6
        have W6 := Lib.hid b6
        obtain ⟨h0, h1, h2, h3, h4⟩ := (FZ.out.keeps b6).2
        clear s6 b6 FZ HTK
        go_wp2_with (at_builtin; refine wpList_append_enc (E := fixE opE w) Tryz.underlying22 op_info rfl (w0 := WB) (wp := w6) (by rfl) (.tmp 53) (.tmp 58) (by rfl) (by rfl) S6.out (G := w6.heap.size) (by rfl) rfl (c := #[.int .u8 2, .int .u32 (t : Int), .int .u8 (r : Int), .slice uo nu uc, .int .i64 p]) INN.out HN2.out (by omega) (by omega) W6.out.size ?_)
        rintro v7 w7 s7 a7 c7 rfl b7
        have S7 := Lib.hid s7
        have W7 := Lib.hid (W6.out.trans b7)
        clear s7 b7 S6 W6 h0 h1 h2 h3 h4
        have P7 : Hid (Seq (fixE (fixE opE w) WB) w7 (.slice (some a') (m - i) (capL - i)) (out.drop i)) := (Seq.keeps PT.out W7.out)
        go_wp2_with (at_builtin; refine wpList_append_shr (E := fixE opE w) Tryz.underlying22 op_info rfl (w0 := WB) (by rfl) (.tmp 60) (.tmp 63) (by rfl) (by rfl) S7.out (by rfl) P7.out HN3.out (by omega) (by omega) W7.out.size ?_)
        rintro v8 w8 s8 a8 c8 rfl b8
        have S8 := Lib.hid s8
        have B8 := Lib.hid (bt BZ.out (W7.out.trans b8))
        have O8 : Hid (ShrO w w8 (.slice a8 (m + 1) c8) (livesM l (l.take (j + 1)))) := by
          unfold Hid
          have h9 := shr_unfix S8.out BZ.out.size
          rw [ST.out]
          unfold insM
          rw [AT.out]
          simpa using h9
        have M8 : Hid (m + 1 = (livesM l (l.take (j + 1))).length) := by unfold Hid; rw [ST.out, insM_len]; omega
        clear S8
        go_wp2
        go_roundw
        case rel => exact ⟨j + 1, m + 1, by omega, by go_num, ⟨a8, c8, rfl⟩, M8, O8, B8⟩
        case measure => simp [intOf]; omega
end Go.Proofs.YtohiidgdpecbdaaGreat.Marks

namespace Go.Proofs.YtohiidgdpecbdaaGreat.Covers
open Go.RowKit Go.WideShapes Stamp Go.Proofs.YtohiidgdpecbdaaGreat.Place Ops Codes Bags Marks Homes
attribute [local go_sem ↓] Go.wp_at_zero Go.wp_at_succ
attribute [local go_sem] yielded_undef
set_option maxRecDepth 100000 in
set_option maxHeartbeats 16000000 in
theorem refIn14_any {v u0 : Value} {l live : List Opn} (s : Id) {w : World} (hv : OpL w v l) (hu : OpL w u0 live) (hl : l.length ≤ 1000000) (hm : ∀ o ∈ l, mayO o = true) (hmm : ∀ o ∈ live, mayO o = true) :
    Calls Tryz.prog 107 #[v, u0, .agg #[.int .u32 (s.t : Int), .int .u8 (s.r : Int)]] w fun e w' => ∃ v', e = .returned v' ∧ OpL w' v' (inL l live s) ∧ Below w.heap.size w w' := by
  obtain ⟨ao, cap, rfl⟩ := hv.shape
  obtain ⟨n, hn⟩ : ∃ n, n = l.length := ⟨_, rfl⟩
  have hnm : n ≤ 1000000 := by omega
  obtain ⟨wl, hwl⟩ : ∃ x, x = w.alloc (.cells #[.int .u32 (s.t : Int), .int .u8 (s.r : Int)] 25) := ⟨_, rfl⟩
  have B0 : Hid (Below w.heap.size w wl) := by rw [hwl]; exact (Below.refl _ _).alloc (Nat.le_refl _) _
  have P0 : Hid (Pair wl w.heap.size (.int .u32 (s.t : Int)) (.int .u8 (s.r : Int))) := by rw [hwl]; exact pair_new _ _ _ _
  have HW := Lib.hid hwl
  have HV : Hid (∀ W : World, Below wl.heap.size wl W → OpL W (.slice ao l.length cap) l) := fun W h => hv.keeps (bt B0.out h)
  have HN := Lib.hid hn
  have HMY := Lib.hid hm
  have HO0 : Hid (∀ (x : Opn) (y : Value) (W : World), x ∈ l → Runs W y x.pl → Below wl.heap.size wl W → Calls Tryz.prog 132 #[u0, y] W fun e w' => e = .returned (.agg #[.int .u32 ((homeM live x.pl).t : Int), .int .u8 ((homeM live x.pl).r : Int)]) ∧ Below W.heap.size W w') := fun x y W hx hy h => refHome_any (hu.keeps (bt B0.out h)) hy hmm (anyB_may (mayO_parts (hm x hx)).2.1)
  have HPQ : Hid (∀ x : Opn, (contB x && decide (homeM live x.pl = s)) = (contB x && decide ((homeM live x.pl).t = s.t ∧ (homeM live x.pl).r = s.r))) := fun x => by
    congr 1
    exact decide_eq_decide.2 Id.eq_iff
  have S0 : Hid (Shr opE 62 wl wl (.slice none 0 0) ((l.take 0).filter (fun o => contB o && decide (homeM live o.pl = s)))) := Shr.nil _ _ _ _
  have M0 : Hid (0 = ((l.take 0).filter (fun o => contB o && decide (homeM live o.pl = s))).length) := rfl
  have Z0 : Hid (Below wl.heap.size wl wl) := Below.refl _ _
  unfold inL
  rw [← hn]
  obtain ⟨PB, hPB⟩ : ∃ PB : Opn → Bool, (fun o => contB o && decide (homeM live o.pl = s)) = PB := ⟨_, rfl⟩
  have HPB : Hid (∀ x, PB x = (contB x && decide ((homeM live x.pl).t = s.t ∧ (homeM live x.pl).r = s.r))) := fun x => by rw [← hPB]; exact HPQ.out x
  rw [hPB] at S0 M0 ⊢
  obtain ⟨ts, rs, hts, hrs⟩ := s
  simp only at P0 HPB HW ⊢
  obtain ⟨au, cu, rfl⟩ := hu.shape
  obtain ⟨nl, hnl⟩ : ∃ nl, live.length = nl := ⟨_, rfl⟩
  rw [hnl] at HO0 ⊢
  clear hv hn hl hm hu hmm hwl HPQ hPB hnl
  go_enter Tryz.func107, Tryz.ntmps107
  go_wp2
  rw [← HW.out]
  go_loopw [7, 8] (fun v i wr => ∃ j m : Nat, j ≤ n ∧ i = .int .i64 (j : Int) ∧ (∃ ao cap, v = .slice ao m cap) ∧ Hid (m = ((l.take j).filter PB).length) ∧ Hid (Shr opE 62 wl wr v ((l.take j).filter PB)) ∧ Hid (Below wl.heap.size wl wr)) (fun _ i _ => n - (intOf i).toNat)
  case atStart => exact ⟨0, 0, by omega, rfl, ⟨none, 0, rfl⟩, M0, S0, Z0⟩
  case round =>
    clear S0 M0 Z0
    obtain ⟨j, m, hj, rfl, ⟨aoL, capL, rfl⟩, HM, hshr, hbel⟩ := hrel
    by_cases hjn : j < n
    rotate_left
    · have q3 : decide (j < n) = false := by simpa using hjn
      have hkk : l.take j = l := List.take_of_length_le (by have := HN.out; omega)
      rw [hkk] at hshr
      have BE := Lib.hid (bt B0.out hbel.out)
      have SE := Lib.hid (hshr.out.seq hbel.out)
      clear hkk
      go_wp2
      go_ret
      exact ⟨_, rfl, SE.out, BE.out⟩
    have q3 : decide (j < n) = true := by simpa using hjn
    have q4 : (0 : Int) ≤ (j : Int) := by omega
    have q5 : (j : Int) < (n : Int) := by omega
    have hjl : j < l.length := by rw [← HN.out]; exact hjn
    obtain ⟨bb, oo, u, e, hbb, hru, h0, h1, h2, h3, h4⟩ := opl_at (HV.out wl (Below.refl _ _)) j hjl
    subst e
    obtain ⟨x, hx⟩ : ∃ x, x = l[j]'hjl := ⟨_, rfl⟩
    rw [← hx] at hru h0 h1 h2 h4
    have HO : Hid (∀ v : Value, opv x v = .agg #[.int .u8 (x.k : Int), .int .u32 (x.t : Int), .int .u8 (x.r : Int), v, .int .i64 x.p]) := fun v => rfl
    replace h0 := ((hbel.out).cell (p := ⟨bb, oo + j * 5, none⟩) hbb).trans h0
    replace h1 := ((hbel.out).cell (p := ⟨bb, oo + j * 5 + 1, none⟩) hbb).trans h1
    replace h2 := ((hbel.out).cell (p := ⟨bb, oo + j * 5 + 2, none⟩) hbb).trans h2
    replace h3 := ((hbel.out).cell (p := ⟨bb, oo + j * 5 + 3, none⟩) hbb).trans h3
    replace h4 := ((hbel.out).cell (p := ⟨bb, oo + j * 5 + 4, none⟩) hbb).trans h4
    have hbo := hbb
    replace hbb := Nat.lt_of_lt_of_le hbb (hbel.out).size
    obtain ⟨uo, uc, rfl⟩ := hru.shape
    obtain ⟨nu, hnu⟩ : ∃ n, n = x.pl.length := ⟨_, rfl⟩
    have HNU := Lib.hid hnu
    rw [← hnu] at hru h3
    clear hnu
    have hxm : x ∈ l := by rw [hx]; exact List.getElem_mem _
    have INN : Hid (opE.inn wl [.int .u8 (x.k : Int), .int .u32 (x.t : Int), .int .u8 (x.r : Int), .slice uo nu uc, .int .i64 x.p] x) := ⟨_, rfl, hru⟩
    have HX : Hid (∀ W : World, Below wr.heap.size wr W → Calls Tryz.prog 132 #[.slice au nl cu, .slice uo nu uc] W fun e w' => e = .returned (.agg #[.int .u32 ((homeM live x.pl).t : Int), .int .u8 ((homeM live x.pl).r : Int)]) ∧ Below W.heap.size W w') := fun W h => HO0.out x _ W hxm (hru.keeps (bt hbel.out h)) (bt hbel.out h)
    have CX : Hid (∀ W : World, Calls Tryz.prog 131 #[opv x (.slice uo nu uc)] W fun e w' => e = .returned (.bool (contB x)) ∧ Below W.heap.size W w') := fun W => refContent_any W
    have FT := Lib.hid (filter_take (P := PB) hjl)
    rw [← hx] at FT
    have PX := HPB.out x
    obtain ⟨q, hq⟩ : ∃ b, contB x = b := ⟨_, rfl⟩
    rw [hq] at CX PX
    obtain ⟨⟨T, R, hT, hR⟩, hh⟩ : ∃ z, homeM live x.pl = z := ⟨_, rfl⟩
    rw [hh] at HX PX
    simp only at HX PX
    clear hx hru hq hh hxm
    obtain ⟨k, hk⟩ : ∃ z, x.k = z := ⟨_, rfl⟩
    obtain ⟨t, ht⟩ : ∃ z, x.t = z := ⟨_, rfl⟩
    obtain ⟨r, hr⟩ : ∃ z, x.r = z := ⟨_, rfl⟩
    obtain ⟨p, hp⟩ : ∃ z, x.p = z := ⟨_, rfl⟩
    rw [hk, ht, hr, hp] at HO
    rw [hk] at h0
    rw [ht] at h1
    rw [hr] at h2
    rw [hp] at h4
    simp only [HO.out] at CX
    rw [hk, ht, hr, hp] at INN
    have F1 : Hid (FiveAt wr bb (oo + j * 5) (.int .u8 (k : Int)) (.int .u32 (t : Int)) (.int .u8 (r : Int)) (.slice uo nu uc) (.int .i64 p)) := ⟨hbb, h0, h1, h2, h3, h4⟩
    have SK : Hid (∀ w' : World, Below wr.heap.size wr w' → Below wr.heap.size wr w' ∧ w'.cell? ⟨bb, oo + j * 5, none⟩ = some (.int .u8 (k : Int)) ∧ w'.cell? ⟨bb, oo + j * 5 + 1, none⟩ = some (.int .u32 (t : Int)) ∧ w'.cell? ⟨bb, oo + j * 5 + 2, none⟩ = some (.int .u8 (r : Int)) ∧ w'.cell? ⟨bb, oo + j * 5 + 3, none⟩ = some (.slice uo nu uc) ∧ w'.cell? ⟨bb, oo + j * 5 + 4, none⟩ = some (.int .i64 p) ∧ w'.cell? ⟨w.heap.size, 0, none⟩ = some (.int .u32 (ts : Int)) ∧ w'.cell? ⟨w.heap.size, 1, none⟩ = some (.int .u8 (rs : Int))) := fun W h => by
      have a1 := (F1.out.keeps h).2
      have a2 := P0.out.keeps (bt hbel.out h)
      exact ⟨h, a1.1, a1.2.1, a1.2.2.1, a1.2.2.2.1, a1.2.2.2.2, a2.2.1, a2.2.2⟩
    clear hk ht hr hp HO h0 h1 h2 h3 h4
    cases q
    · have FN : Hid ((if PB x = true then [x] else []) = []) := if_neg (by rw [PX]; simp)
      clear HX PX HPB HO0 HV P0 HMY
      go_wp2
      refine wp_region_held_drew (S := fun w' => Below wr.heap.size wr w' ∧ w'.cell? ⟨bb, oo + j * 5, none⟩ = some (.int .u8 (k : Int)) ∧ w'.cell? ⟨bb, oo + j * 5 + 1, none⟩ = some (.int .u32 (t : Int)) ∧ w'.cell? ⟨bb, oo + j * 5 + 2, none⟩ = some (.int .u8 (r : Int)) ∧ w'.cell? ⟨bb, oo + j * 5 + 3, none⟩ = some (.slice uo nu uc) ∧ w'.cell? ⟨bb, oo + j * 5 + 4, none⟩ = some (.int .i64 p) ∧ w'.cell? ⟨w.heap.size, 0, none⟩ = some (.int .u32 (ts : Int)) ∧ w'.cell? ⟨w.heap.size, 1, none⟩ = some (.int .u8 (rs : Int))) (by kernel_rfl) (SK.out _ (drew1 _)) (fun hHeld => ?_)
      refine rN 0 ?_
      refine rN 1 ?_
      refine rN 2 ?_
      refine rN 3 ?_
      refine wpAnyH_ready (rs := [4]) (by kernel_rfl) (by simp) ?_
      refine AllReadyH.cons rfl (fun K hK => ?_) ?za4
      case za4 => exact AllReadyH.nil
      go_simp
      refine (CX.out _).mono ?_
      rintro e w9a4 ⟨rfl, b9⟩
      refine hK.out _ _ (SK.out _ (bt hHeld.1 b9)) (fun hNew => ?_)
      clear hHeld
      have hHeld := hNew
      clear hNew hK K
      refine rX ?_
      refine rN 5 ?_
      refine rV 6 ?_
      refine rV 7 ?_
      refine rV 8 ?_
      refine rV 9 ?_
      refine rV 10 ?_
      refine rV 11 ?_
      refine rV 12 ?_
      refine rV 13 ?_
      refine rV 14 ?_
      refine rN 15 ?_
      refine wpAnyH_done (by kernel_rfl) ?_ _
      rw [FN.out, List.append_nil] at FT
      rw [← FT.out] at HM
      have S2 := Lib.hid (hshr.out.keeps hHeld.1)
      rw [← FT.out] at S2
      have B2 := Lib.hid (bt hbel.out hHeld.1)
      clear hHeld hshr hbel F1 SK
      go_wp2
      go_roundw
      case rel => exact ⟨j + 1, m, by omega, by go_num, ⟨aoL, capL, rfl⟩, HM, S2, B2⟩
      case measure => simp [intOf]; omega
    have hne : ¬ T = ts ∨ (T = ts ∧ ¬ R = rs) ∨ (T = ts ∧ R = rs) := by
      by_cases h : T = ts
      · by_cases h2 : R = rs
        · exact .inr (.inr ⟨h, h2⟩)
        · exact .inr (.inl ⟨h, h2⟩)
      · exact .inl h
    rcases hne with hne | ⟨rfl, hne⟩ | ⟨rfl, rfl⟩
    · have FN : Hid ((if PB x = true then [x] else []) = []) := if_neg (by rw [PX]; simp [hne])
      have hi : ¬ ((T : Int) = (ts : Int)) := by omega
      clear PX HPB HO0 HV P0 HMY
      go_wp2
      refine wp_region_held_drew (S := fun w' => Below wr.heap.size wr w' ∧ w'.cell? ⟨bb, oo + j * 5, none⟩ = some (.int .u8 (k : Int)) ∧ w'.cell? ⟨bb, oo + j * 5 + 1, none⟩ = some (.int .u32 (t : Int)) ∧ w'.cell? ⟨bb, oo + j * 5 + 2, none⟩ = some (.int .u8 (r : Int)) ∧ w'.cell? ⟨bb, oo + j * 5 + 3, none⟩ = some (.slice uo nu uc) ∧ w'.cell? ⟨bb, oo + j * 5 + 4, none⟩ = some (.int .i64 p) ∧ w'.cell? ⟨w.heap.size, 0, none⟩ = some (.int .u32 (ts : Int)) ∧ w'.cell? ⟨w.heap.size, 1, none⟩ = some (.int .u8 (rs : Int))) (by kernel_rfl) (SK.out _ (drew1 _)) (fun hHeld => ?_)
      refine rN 0 ?_
      refine rN 1 ?_
      refine rN 2 ?_
      refine rN 3 ?_
      refine wpAnyH_ready (rs := [4]) (by kernel_rfl) (by simp) ?_
      refine AllReadyH.cons rfl (fun K hK => ?_) ?zb4
      case zb4 => exact AllReadyH.nil
      go_simp
      refine (CX.out _).mono ?_
      rintro e w9b4 ⟨rfl, b9⟩
      refine hK.out _ _ (SK.out _ (bt hHeld.1 b9)) (fun hNew => ?_)
      clear hHeld
      have hHeld := hNew
      clear hNew hK K
      refine rX ?_
      refine rN 5 ?_
      refine rN 6 ?_
      refine rN 7 ?_
      refine rN 8 ?_
      refine rN 9 ?_
      refine rN 10 ?_
      refine rN 11 ?_
      refine rN 13 ?_
      refine wpAnyH_ready (rs := [12]) (by kernel_rfl) (by simp) ?_
      refine AllReadyH.cons rfl (fun K hK => ?_) ?zb12
      case zb12 => exact AllReadyH.nil
      go_simp
      refine (HX.out _ hHeld.1).mono ?_
      rintro e w9b12 ⟨rfl, b9⟩
      refine hK.out _ _ (SK.out _ (bt hHeld.1 b9)) (fun hNew => ?_)
      clear hHeld
      have hHeld := hNew
      clear hNew hK K
      refine rX ?_
      refine rN 14 ?_
      refine rN 15 ?_
      refine wpAnyH_done (by kernel_rfl) ?_ _
      rw [FN.out, List.append_nil] at FT
      rw [← FT.out] at HM
      have S2 := Lib.hid (hshr.out.keeps hHeld.1)
      rw [← FT.out] at S2
      have B2 := Lib.hid (bt hbel.out hHeld.1)
      clear hHeld hshr hbel F1 SK
      go_wp2
      go_roundw
      case rel => exact ⟨j + 1, m, by omega, by go_num, ⟨aoL, capL, rfl⟩, HM, S2, B2⟩
      case measure => simp [intOf]; omega
    · have FN : Hid ((if PB x = true then [x] else []) = []) := if_neg (by rw [PX]; simp [hne])
      have hi : ¬ ((R : Int) = (rs : Int)) := by omega
      clear PX HPB HO0 HV P0 HMY
      go_wp2
      refine wp_region_held_drew (S := fun w' => Below wr.heap.size wr w' ∧ w'.cell? ⟨bb, oo + j * 5, none⟩ = some (.int .u8 (k : Int)) ∧ w'.cell? ⟨bb, oo + j * 5 + 1, none⟩ = some (.int .u32 (t : Int)) ∧ w'.cell? ⟨bb, oo + j * 5 + 2, none⟩ = some (.int .u8 (r : Int)) ∧ w'.cell? ⟨bb, oo + j * 5 + 3, none⟩ = some (.slice uo nu uc) ∧ w'.cell? ⟨bb, oo + j * 5 + 4, none⟩ = some (.int .i64 p) ∧ w'.cell? ⟨w.heap.size, 0, none⟩ = some (.int .u32 (T : Int)) ∧ w'.cell? ⟨w.heap.size, 1, none⟩ = some (.int .u8 (rs : Int))) (by kernel_rfl) (SK.out _ (drew1 _)) (fun hHeld => ?_)
      refine rN 0 ?_
      refine rN 1 ?_
      refine rN 2 ?_
      refine rN 3 ?_
      refine wpAnyH_ready (rs := [4]) (by kernel_rfl) (by simp) ?_
      refine AllReadyH.cons rfl (fun K hK => ?_) ?zc4
      case zc4 => exact AllReadyH.nil
      go_simp
      refine (CX.out _).mono ?_
      rintro e w9c4 ⟨rfl, b9⟩
      refine hK.out _ _ (SK.out _ (bt hHeld.1 b9)) (fun hNew => ?_)
      clear hHeld
      have hHeld := hNew
      clear hNew hK K
      refine rX ?_
      refine rN 5 ?_
      refine rN 6 ?_
      refine rN 7 ?_
      refine rN 8 ?_
      refine rN 9 ?_
      refine rN 10 ?_
      refine rN 11 ?_
      refine rN 13 ?_
      refine wpAnyH_ready (rs := [12]) (by kernel_rfl) (by simp) ?_
      refine AllReadyH.cons rfl (fun K hK => ?_) ?zc12
      case zc12 => exact AllReadyH.nil
      go_simp
      refine (HX.out _ hHeld.1).mono ?_
      rintro e w9c12 ⟨rfl, b9⟩
      refine hK.out _ _ (SK.out _ (bt hHeld.1 b9)) (fun hNew => ?_)
      clear hHeld
      have hHeld := hNew
      clear hNew hK K
      refine rX ?_
      refine rN 14 ?_
      refine rN 15 ?_
      refine wpAnyH_done (by kernel_rfl) ?_ _
      rw [FN.out, List.append_nil] at FT
      rw [← FT.out] at HM
      have S2 := Lib.hid (hshr.out.keeps hHeld.1)
      rw [← FT.out] at S2
      have B2 := Lib.hid (bt hbel.out hHeld.1)
      clear hHeld hshr hbel F1 SK
      go_wp2
      go_roundw
      case rel => exact ⟨j + 1, m, by omega, by go_num, ⟨aoL, capL, rfl⟩, HM, S2, B2⟩
      case measure => simp [intOf]; omega
    · have FN : Hid ((if PB x = true then [x] else []) = [x]) := if_pos (by rw [PX]; simp)
      clear PX HPB HO0 HV P0 HMY
      go_wp2
      refine wp_region_held_drew (S := fun w' => Below wr.heap.size wr w' ∧ w'.cell? ⟨bb, oo + j * 5, none⟩ = some (.int .u8 (k : Int)) ∧ w'.cell? ⟨bb, oo + j * 5 + 1, none⟩ = some (.int .u32 (t : Int)) ∧ w'.cell? ⟨bb, oo + j * 5 + 2, none⟩ = some (.int .u8 (r : Int)) ∧ w'.cell? ⟨bb, oo + j * 5 + 3, none⟩ = some (.slice uo nu uc) ∧ w'.cell? ⟨bb, oo + j * 5 + 4, none⟩ = some (.int .i64 p) ∧ w'.cell? ⟨w.heap.size, 0, none⟩ = some (.int .u32 (T : Int)) ∧ w'.cell? ⟨w.heap.size, 1, none⟩ = some (.int .u8 (R : Int))) (by kernel_rfl) (SK.out _ (drew1 _)) (fun hHeld => ?_)
      refine rN 0 ?_
      refine rN 1 ?_
      refine rN 2 ?_
      refine rN 3 ?_
      refine wpAnyH_ready (rs := [4]) (by kernel_rfl) (by simp) ?_
      refine AllReadyH.cons rfl (fun K hK => ?_) ?zd4
      case zd4 => exact AllReadyH.nil
      go_simp
      refine (CX.out _).mono ?_
      rintro e w9d4 ⟨rfl, b9⟩
      refine hK.out _ _ (SK.out _ (bt hHeld.1 b9)) (fun hNew => ?_)
      clear hHeld
      have hHeld := hNew
      clear hNew hK K
      refine rX ?_
      refine rN 5 ?_
      refine rN 6 ?_
      refine rN 7 ?_
      refine rN 8 ?_
      refine rN 9 ?_
      refine rN 10 ?_
      refine rN 11 ?_
      refine rN 13 ?_
      refine wpAnyH_ready (rs := [12]) (by kernel_rfl) (by simp) ?_
      refine AllReadyH.cons rfl (fun K hK => ?_) ?zd12
      case zd12 => exact AllReadyH.nil
      go_simp
      refine (HX.out _ hHeld.1).mono ?_
      rintro e w9d12 ⟨rfl, b9⟩
      refine hK.out _ _ (SK.out _ (bt hHeld.1 b9)) (fun hNew => ?_)
      clear hHeld
      have hHeld := hNew
      clear hNew hK K
      refine rX ?_
      refine rN 14 ?_
      refine rN 15 ?_
      refine wpAnyH_done (by kernel_rfl) ?_ _
      rw [FN.out] at FT
      have S2 := Lib.hid (hshr.out.keeps hHeld.1)
      have B2 := Lib.hid (bt hbel.out hHeld.1)
      have HZ := Lib.hid B2.out.size
      have hll := filter_take_len (P := PB) (l := l) j
      have HMM := Lib.hid (show (m + 1) * 48 ≤ 140737488355328 ∧ m ≤ 1000000000000 by have := HM.out; have := HN.out; omega)
      obtain ⟨h0, h1, h2, h3, h4⟩ := (F1.out.keeps hHeld.1).2
      clear hHeld hshr hll F1 SK
      go_wp2_with (at_builtin; refine wpList_append_enc (E := opE) Tryz.underlying22 op_info rfl (w0 := wl) (wp := w9d12) (by rfl) (.tmp 31) (.tmp 36) (by rfl) (by rfl) S2.out (G := w9d12.heap.size) (by rfl) rfl (c := #[.int .u8 (k : Int), .int .u32 (t : Int), .int .u8 (r : Int), .slice uo nu uc, .int .i64 p]) INN.out HM.out HMM.out.1 HMM.out.2 HZ.out ?_)
      rintro v6 w6 s6 va vc rfl b6
      have S6 := Lib.hid s6
      rw [← FT.out] at S6
      have M6 : Hid (m + 1 = ((l.take (j + 1)).filter PB).length) := by unfold Hid; rw [FT.out, List.length_append, ← HM.out]; rfl
      have B6 := Lib.hid (B2.out.trans b6)
      clear s6 b6 S2 B2 h0 h1 h2 h3 h4 FT HM FN hbel
      go_wp2
      go_roundw
      case rel => exact ⟨j + 1, m + 1, by omega, by go_num, ⟨va, vc, rfl⟩, M6, S6, B6⟩
      case measure => simp [intOf]; omega
end Go.Proofs.YtohiidgdpecbdaaGreat.Covers

namespace Go.Proofs.YtohiidgdpecbdaaGreat.Covers
open Go.RowKit Go.WideShapes Stamp Go.Proofs.YtohiidgdpecbdaaGreat.Place Ops Codes Bags Marks Homes
attribute [local go_sem ↓] Go.wp_at_zero Go.wp_at_succ
attribute [local go_sem] yielded_undef
theorem refFinal_may {v : Value} {q : List Run} {w : World} (hv : Runs w v q) (hm : mayB q = true) :
    Calls Tryz.prog 100 #[v] w fun e w' => e = .returned (.agg #[.int .u32 (lastV q).1, .int .u8 (lastV q).2]) ∧ Below w.heap.size w w' := by
  have hM := (mayB_iff q).1 hm
  have h1 := chain_one hM.2.2.1 (k := q.length - 1) (by have := hM.1; omega)
  have := final_any hv (k := q.length - 1) (by have := hM.1; omega) rfl h1 (by have := hM.2.1; omega)
  unfold lastV
  rw [if_pos hm]
  exact this
set_option maxRecDepth 100000 in
set_option maxHeartbeats 16000000 in
theorem refIs14_any {v u0 y : Value} {l live : List Opn} (s : Id) {o : Opn} {w : World} (hv : OpL w v l) (hu : OpL w u0 live) (hy : Runs w y o.pl) (ho : mayO o = true) (hmm : ∀ o ∈ live, mayO o = true) :
    Calls Tryz.prog 108 #[v, u0, .agg #[.int .u32 (s.t : Int), .int .u8 (s.r : Int)], opv o y] w fun e w' => e = .returned (.bool (isB l live s o)) ∧ Below w.heap.size w w' := by
  have hmo := (mayO_parts ho).2.1
  have hMo := (mayB_iff _).1 hmo
  obtain ⟨wb, hwb⟩ : ∃ x, x = w.alloc (.cells #[.int .u32 (s.t : Int), .int .u8 (s.r : Int)] 25) := ⟨_, rfl⟩
  obtain ⟨wl, hwl⟩ : ∃ x, x = wb.alloc (.cells #[.int .u8 (o.k : Int), .int .u32 (o.t : Int), .int .u8 (o.r : Int), y, .int .i64 o.p] 62) := ⟨_, rfl⟩
  have hsz : wb.heap.size = w.heap.size + 1 := by rw [hwb]; exact Array.size_push _
  have Bb : Below w.heap.size w wb := by rw [hwb]; exact (Below.refl _ _).alloc (Nat.le_refl _) _
  have Bbl : Below wb.heap.size wb wl := by rw [hwl]; exact (Below.refl _ _).alloc (Nat.le_refl _) _
  have B0 : Hid (Below w.heap.size w wl) := bt Bb Bbl
  have P0 : Hid (Pair wl w.heap.size (.int .u32 (s.t : Int)) (.int .u8 (s.r : Int))) := by
    have : Pair wb w.heap.size (.int .u32 (s.t : Int)) (.int .u8 (s.r : Int)) := by rw [hwb]; exact pair_new _ _ _ _
    exact this.keeps Bbl
  have O0 : Hid (wl.heap[w.heap.size + 1]? = some (.cells #[.int .u8 (o.k : Int), .int .u32 (o.t : Int), .int .u8 (o.r : Int), y, .int .i64 o.p] 62)) := by rw [hwl, ← hsz]; exact blk_new rfl
  have HW : Hid (wl = (w.alloc (.cells #[.int .u32 (s.t : Int), .int .u8 (s.r : Int)] 25)).alloc (.cells #[.int .u8 (o.k : Int), .int .u32 (o.t : Int), .int .u8 (o.r : Int), y, .int .i64 o.p] 62)) := by rw [hwl, hwb]; rfl
  have MA : Hid (∀ W : World, Below wl.heap.size wl W → Calls Tryz.prog 133 #[opv o y] W fun e w' => e = .returned (.int .i64 ((manyN o : Nat) : Int)) ∧ Below W.heap.size W w') := fun W h => refMany_any (hy.keeps (bt B0.out h)) hmo
  have CU : Hid (∀ (W : World) (j : Nat), Below wl.heap.size wl W → j ≤ 5000 → Calls Tryz.prog 134 #[y, .int .i64 (j : Int)] W fun e w' => ∃ v', e = .returned v' ∧ Runs w' v' (cutN o.pl j) ∧ Below W.heap.size W w') := fun W j h hj => refCut_any (hy.keeps (bt B0.out h)) hMo.2.2.1 (by have := hMo.2.1; omega) j hj
  have HO0 : Hid (∀ (W : World) (z : Value) (j : Nat), Below wl.heap.size wl W → Runs W z (cutN o.pl j) → Calls Tryz.prog 132 #[u0, z] W fun e w' => e = .returned (.agg #[.int .u32 ((homeM live (cutN o.pl j)).t : Int), .int .u8 ((homeM live (cutN o.pl j)).r : Int)]) ∧ Below W.heap.size W w') := fun W z j h hz => refHome_any (hu.keeps (bt B0.out h)) hz hmm (any_cutN hmo)
  have FI : Hid (∀ (W : World) (z : Value) (j : Nat), j < manyN o → Runs W z (cutN o.pl (j + 1)) → Calls Tryz.prog 100 #[z] W fun e w' => e = .returned (.agg #[.int .u32 (((all o.pl).getD j zid).t : Int), .int .u8 (((all o.pl).getD j zid).r : Int)]) ∧ Below W.heap.size W w') := fun W z j hj hz => by
    have := refFinal_may hz (may_cutN hmo (by omega))
    rw [last_cutN hmo (by unfold manyN at hj; omega)] at this
    exact this
  have HA : Hid (∀ (W : World) (a : Id), Below wl.heap.size wl W → Calls Tryz.prog 135 #[v, .agg #[.int .u32 (a.t : Int), .int .u8 (a.r : Int)]] W fun e w' => e = .returned (.bool (hasO l a)) ∧ Below W.heap.size W w') := fun W a h => refHasO_any a (hv.keeps (bt B0.out h))
  have HI : Hid (isB l live s o = true ↔ ∀ k, k < manyN o → homeM live (cutN o.pl (k + 1)) = s → hasO l ((all o.pl).getD k zid) = true) := isB_iff
  have hmn : manyN o ≤ 4096 := Nat.le_trans (Nat.sub_le _ _) (all_pos hmo).2.1
  obtain ⟨ao, cap, rfl⟩ := hv.shape
  obtain ⟨au, cu, rfl⟩ := hu.shape
  obtain ⟨yo, yc, rfl⟩ := hy.shape
  have HOV : Hid (∀ v : Value, opv o v = .agg #[.int .u8 (o.k : Int), .int .u32 (o.t : Int), .int .u8 (o.r : Int), v, .int .i64 o.p]) := fun v => rfl
  obtain ⟨n, hn⟩ : ∃ n, l.length = n := ⟨_, rfl⟩
  obtain ⟨nl, hnl⟩ : ∃ n, live.length = n := ⟨_, rfl⟩
  obtain ⟨ny, hny⟩ : ∃ n, o.pl.length = n := ⟨_, rfl⟩
  obtain ⟨M, hM⟩ : ∃ M, manyN o = M := ⟨_, rfl⟩
  rw [hn] at HA ⊢
  rw [hnl] at HO0 ⊢
  rw [hny] at MA CU O0 HW ⊢
  rw [hM] at MA FI HI hmn
  obtain ⟨I, hI⟩ : ∃ I, isB l live s o = I := ⟨_, rfl⟩
  rw [hI] at HI ⊢
  obtain ⟨hf, hhf⟩ : ∃ hf : Nat → Id, hf = fun j => homeM live (cutN o.pl j) := ⟨_, rfl⟩
  have HO1 : Hid (∀ (W : World) (z : Value) (j : Nat), Below wl.heap.size wl W → Runs W z (cutN o.pl j) → Calls Tryz.prog 132 #[.slice au nl cu, z] W fun e w' => e = .returned (.agg #[.int .u32 ((hf j).t : Int), .int .u8 ((hf j).r : Int)]) ∧ Below W.heap.size W w') := by rw [hhf]; exact HO0.out
  have HI1 : Hid (I = true ↔ ∀ k, k < M → ((hf (k + 1)).t = s.t ∧ (hf (k + 1)).r = s.r) → hasO l ((all o.pl).getD k zid) = true) := by
    unfold Hid
    rw [HI.out, hhf]
    constructor
    · intro h k hk e; exact h k hk (Id.eq_iff.2 e)
    · intro h k hk e; exact h k hk (Id.eq_iff.1 e)
  obtain ⟨af, haf⟩ : ∃ af : Nat → Id, af = fun k => (all o.pl).getD k zid := ⟨_, rfl⟩
  have FI1 : Hid (∀ (W : World) (z : Value) (j : Nat), j < M → Runs W z (cutN o.pl (j + 1)) → Calls Tryz.prog 100 #[z] W fun e w' => e = .returned (.agg #[.int .u32 ((af j).t : Int), .int .u8 ((af j).r : Int)]) ∧ Below W.heap.size W w') := by rw [haf]; exact FI.out
  have HI2 : Hid (I = true ↔ ∀ k, k < M → ((hf (k + 1)).t = s.t ∧ (hf (k + 1)).r = s.r) → hasO l (af k) = true) := by rw [haf]; exact HI1.out
  rw [HOV.out] at MA ⊢
  obtain ⟨ts, rs, hts, hrs⟩ := s
  simp only at P0 HI2 HW ⊢
  clear hv hu hy ho hmm hmo hMo hwb hwl hsz Bb Bbl hn hnl hny hM hI hhf haf HO0 HI HI1 FI
  obtain ⟨k, hk⟩ : ∃ z, o.k = z := ⟨_, rfl⟩
  obtain ⟨t, ht⟩ : ∃ z, o.t = z := ⟨_, rfl⟩
  obtain ⟨r, hr⟩ : ∃ z, o.r = z := ⟨_, rfl⟩
  obtain ⟨p, hp⟩ : ∃ z, o.p = z := ⟨_, rfl⟩
  rw [hk, ht, hr, hp] at MA O0 HW ⊢
  clear hk ht hr hp HOV
  have Z0 : Hid (Below wl.heap.size wl wl) := Below.refl _ _
  have hb0 : Hid (∀ i, i + 1 < 1 → ((hf (i + 1)).t = ts ∧ (hf (i + 1)).r = rs) → hasO l (af i) = true) := fun i hi => by omega
  go_enter Tryz.func108, Tryz.ntmps108
  go_wp2
  rw [← HW.out]
  go_loopw [9] (fun i wr => ∃ j : Nat, 1 ≤ j ∧ j ≤ M + 1 ∧ i = .int .i64 (j : Int) ∧ Hid (∀ i, i + 1 < j → ((hf (i + 1)).t = ts ∧ (hf (i + 1)).r = rs) → hasO l (af i) = true) ∧ Hid (Below wl.heap.size wl wr)) (fun i _ => M + 1 - (intOf i).toNat)
  case atStart => exact ⟨1, by omega, by omega, rfl, hb0, Z0⟩
  case round =>
    clear Z0 hb0
    obtain ⟨j, hj1, hj, rfl, hall, hbel⟩ := hrel
    have O1 := blk_below hbel.out O0.out
    obtain ⟨x0, x1, x2, x3, x4⟩ := cells5 O1
    clear O1
    go_wp2_with fail
    refine (MA.out _ hbel.out).mono ?_
    rintro e w1 ⟨rfl, b1⟩
    have B1 := Lib.hid (bt hbel.out b1)
    clear b1 x0 x1 x2 x3 x4 hbel
    by_cases hjM : j ≤ M
    rotate_left
    · have q3 : decide ((j : Int) ≤ (M : Int)) = false := decide_eq_false (by omega)
      have q3' : decide (j ≤ M) = false := decide_eq_false hjM
      obtain rfl : I = true := HI2.out.2 (fun i hi => hall.out i (by omega))
      have BE := Lib.hid (bt B0.out B1.out)
      clear HI2 hall MA CU HO1 FI1 HA
      go_wp2
      go_ret
      exact ⟨rfl, BE.out⟩
    have q3 : decide ((j : Int) ≤ (M : Int)) = true := decide_eq_true (by omega)
    have q3' : decide (j ≤ M) = true := decide_eq_true hjM
    obtain ⟨x0, x1, x2, x3, x4⟩ := cells5 (blk_below B1.out O0.out)
    go_wp2_with fail
    refine (CU.out _ j B1.out (by omega)).mono ?_
    rintro e w2 ⟨vp, rfl, r2, b2⟩
    obtain ⟨i, rfl⟩ : ∃ i, j = i + 1 := ⟨j - 1, by omega⟩
    have B2 := Lib.hid (bt B1.out b2)
    have R2 : Hid (∀ W : World, Below w2.heap.size w2 W → Runs W vp (cutN o.pl (i + 1))) := fun W h => r2.keeps h
    have HX : Hid (∀ W : World, Below w2.heap.size w2 W → Calls Tryz.prog 132 #[.slice au nl cu, vp] W fun e w' => e = .returned (.agg #[.int .u32 ((hf (i + 1)).t : Int), .int .u8 ((hf (i + 1)).r : Int)]) ∧ Below W.heap.size W w') := fun W h => HO1.out W vp (i + 1) (bt B2.out h) (R2.out W h)
    have FX : Hid (∀ W : World, Below w2.heap.size w2 W → Calls Tryz.prog 100 #[vp] W fun e w' => e = .returned (.agg #[.int .u32 ((af i).t : Int), .int .u8 ((af i).r : Int)]) ∧ Below W.heap.size W w') := fun W h => FI1.out W vp i (by omega) (R2.out W h)
    have AX : Hid (∀ W : World, Below w2.heap.size w2 W → Calls Tryz.prog 135 #[.slice ao n cap, .agg #[.int .u32 ((af i).t : Int), .int .u8 ((af i).r : Int)]] W fun e w' => e = .returned (.bool (hasO l (af i))) ∧ Below W.heap.size W w') := fun W h => HA.out W (af i) (bt B2.out h)
    obtain ⟨vpo, vpc, rfl⟩ := r2.shape
    obtain ⟨np, hnp⟩ : ∃ n, (cutN o.pl (i + 1)).length = n := ⟨_, rfl⟩
    rw [hnp] at HX FX ⊢
    have SK : Hid (∀ w' : World, Below w2.heap.size w2 w' → Below w2.heap.size w2 w' ∧ w'.cell? ⟨w.heap.size, 0, none⟩ = some (.int .u32 (ts : Int)) ∧ w'.cell? ⟨w.heap.size, 1, none⟩ = some (.int .u8 (rs : Int))) := fun W h => by
      have a2 := P0.out.keeps (bt B2.out h)
      exact ⟨h, a2.2.1, a2.2.2⟩
    have HST : Hid (((hf (i + 1)).t = ts ∧ (hf (i + 1)).r = rs → hasO l (af i) = true) → ∀ i2, i2 + 1 < i + 1 + 1 → ((hf (i2 + 1)).t = ts ∧ (hf (i2 + 1)).r = rs) → hasO l (af i2) = true) := fun h i2 h2 h3 => by
      by_cases e : i2 = i
      · subst e; exact h h3
      · exact hall.out i2 (by omega) h3
    have HNO : Hid ((hf (i + 1)).t = ts → (hf (i + 1)).r = rs → hasO l (af i) = false → I = false) := fun h1 h2 h3 => by
      cases hI : I
      · rfl
      · have := HI2.out.1 hI i (by omega) ⟨h1, h2⟩
        rw [h3] at this
        cases this
    obtain ⟨⟨T, R, hT, hR⟩, hh⟩ : ∃ z, hf (i + 1) = z := ⟨_, rfl⟩
    rw [hh] at HX HST HNO
    obtain ⟨⟨fT, fR, hfT, hfR⟩, hfa⟩ : ∃ z, af i = z := ⟨_, rfl⟩
    rw [hfa] at FX AX HST HNO
    simp only at HX FX AX HST HNO
    obtain ⟨b, hb⟩ : ∃ b, hasO l ⟨fT, fR, hfT, hfR⟩ = b := ⟨_, rfl⟩
    rw [hb] at AX HNO
    have HB := Lib.hid hb
    have ei : ((i + 1 : Nat) : Int) = (i : Int) + 1 := by omega
    clear b2 r2 x0 x1 x2 x3 x4 hall HI2 MA CU HO1 FI1 HA hh hfa hb R2 hnp
    have hne : ¬ T = ts ∨ (T = ts ∧ ¬ R = rs) ∨ (T = ts ∧ R = rs) := by
      by_cases h : T = ts
      · by_cases h2 : R = rs
        · exact .inr (.inr ⟨h, h2⟩)
        · exact .inr (.inl ⟨h, h2⟩)
      · exact .inl h
    rcases hne with hne | ⟨rfl, hne⟩ | ⟨rfl, rfl⟩
    · have hi : ¬ ((T : Int) = (ts : Int)) := by omega
      have NO := Lib.hid (HST.out (fun h => absurd h.1 hne))
      clear HST HNO HB FX AX
      go_wp2
      refine wp_region_held_drew (S := fun w' => Below w2.heap.size w2 w' ∧ w'.cell? ⟨w.heap.size, 0, none⟩ = some (.int .u32 (ts : Int)) ∧ w'.cell? ⟨w.heap.size, 1, none⟩ = some (.int .u8 (rs : Int))) (by kernel_rfl) (SK.out _ (drew1 _)) (fun hHeld => ?_)
      refine rN 0 ?_
      refine rN 1 ?_
      refine rN 3 ?_
      refine wpAnyH_ready (rs := [2]) (by kernel_rfl) (by simp) ?_
      refine AllReadyH.cons rfl (fun K hK => ?_) ?za2
      case za2 => exact AllReadyH.nil
      go_simp
      refine (HX.out _ hHeld.1).mono ?_
      rintro e w9a2 ⟨rfl, b9⟩
      refine hK.out _ _ (SK.out _ (bt hHeld.1 b9)) (fun hNew => ?_)
      clear hHeld
      have hHeld := hNew
      clear hNew hK K
      refine rX ?_
      refine rN 4 ?_
      refine rN 5 ?_
      refine rV 6 ?_
      refine rV 7 ?_
      refine rV 8 ?_
      refine rV 9 ?_
      refine rV 10 ?_
      refine rN 11 ?_
      refine wpAnyH_done (by kernel_rfl) ?_ _
      have BD := Lib.hid (bt B2.out hHeld.1)
      clear hHeld
      go_wp2
      go_roundw
      case rel => exact ⟨i + 1 + 1, by omega, by omega, by go_num, NO, BD⟩
      case measure => simp [intOf]; omega
    · have hi : ¬ ((R : Int) = (rs : Int)) := by omega
      have NO := Lib.hid (HST.out (fun h => absurd h.2 hne))
      clear HST HNO HB FX AX
      go_wp2
      refine wp_region_held_drew (S := fun w' => Below w2.heap.size w2 w' ∧ w'.cell? ⟨w.heap.size, 0, none⟩ = some (.int .u32 (T : Int)) ∧ w'.cell? ⟨w.heap.size, 1, none⟩ = some (.int .u8 (rs : Int))) (by kernel_rfl) (SK.out _ (drew1 _)) (fun hHeld => ?_)
      refine rN 0 ?_
      refine rN 1 ?_
      refine rN 3 ?_
      refine wpAnyH_ready (rs := [2]) (by kernel_rfl) (by simp) ?_
      refine AllReadyH.cons rfl (fun K hK => ?_) ?zb2
      case zb2 => exact AllReadyH.nil
      go_simp
      refine (HX.out _ hHeld.1).mono ?_
      rintro e w9b2 ⟨rfl, b9⟩
      refine hK.out _ _ (SK.out _ (bt hHeld.1 b9)) (fun hNew => ?_)
      clear hHeld
      have hHeld := hNew
      clear hNew hK K
      refine rX ?_
      refine rN 4 ?_
      refine rN 5 ?_
      refine rV 6 ?_
      refine rV 7 ?_
      refine rV 8 ?_
      refine rV 9 ?_
      refine rV 10 ?_
      refine rN 11 ?_
      refine wpAnyH_done (by kernel_rfl) ?_ _
      have BD := Lib.hid (bt B2.out hHeld.1)
      clear hHeld
      go_wp2
      go_roundw
      case rel => exact ⟨i + 1 + 1, by omega, by omega, by go_num, NO, BD⟩
      case measure => simp [intOf]; omega
    cases b
    · obtain rfl := HNO.out rfl rfl rfl
      clear HST HNO HB
      go_wp2
      refine wp_region_held_drew (S := fun w' => Below w2.heap.size w2 w' ∧ w'.cell? ⟨w.heap.size, 0, none⟩ = some (.int .u32 (T : Int)) ∧ w'.cell? ⟨w.heap.size, 1, none⟩ = some (.int .u8 (R : Int))) (by kernel_rfl) (SK.out _ (drew1 _)) (fun hHeld => ?_)
      refine rN 0 ?_
      refine rN 1 ?_
      refine rN 3 ?_
      refine wpAnyH_ready (rs := [2]) (by kernel_rfl) (by simp) ?_
      refine AllReadyH.cons rfl (fun K hK => ?_) ?zc2
      case zc2 => exact AllReadyH.nil
      go_simp
      refine (HX.out _ hHeld.1).mono ?_
      rintro e w9c2 ⟨rfl, b9⟩
      refine hK.out _ _ (SK.out _ (bt hHeld.1 b9)) (fun hNew => ?_)
      clear hHeld
      have hHeld := hNew
      clear hNew hK K
      refine rX ?_
      refine rN 4 ?_
      refine rN 5 ?_
      refine rN 6 ?_
      refine rN 7 ?_
      refine wpAnyH_ready (rs := [8]) (by kernel_rfl) (by simp) ?_
      refine AllReadyH.cons rfl (fun K hK => ?_) ?zc8
      case zc8 => exact AllReadyH.nil
      go_simp
      refine (FX.out _ hHeld.1).mono ?_
      rintro e w9c8 ⟨rfl, b9⟩
      refine hK.out _ _ (SK.out _ (bt hHeld.1 b9)) (fun hNew => ?_)
      clear hHeld
      have hHeld := hNew
      clear hNew hK K
      refine rX ?_
      refine wpAnyH_ready (rs := [9]) (by kernel_rfl) (by simp) ?_
      refine AllReadyH.cons rfl (fun K hK => ?_) ?zc9
      case zc9 => exact AllReadyH.nil
      go_simp
      refine (AX.out _ hHeld.1).mono ?_
      rintro e w9c9 ⟨rfl, b9⟩
      refine hK.out _ _ (SK.out _ (bt hHeld.1 b9)) (fun hNew => ?_)
      clear hHeld
      have hHeld := hNew
      clear hNew hK K
      refine rX ?_
      refine rN 10 ?_
      refine rN 11 ?_
      refine wpAnyH_done (by kernel_rfl) ?_ _
      have BE := Lib.hid (bt B0.out (bt B2.out hHeld.1))
      clear hHeld
      go_wp2
      go_ret
      exact ⟨rfl, BE.out⟩
    have NO := Lib.hid (HST.out (fun _ => HB.out))
    clear HST HNO HB
    go_wp2
    refine wp_region_held_drew (S := fun w' => Below w2.heap.size w2 w' ∧ w'.cell? ⟨w.heap.size, 0, none⟩ = some (.int .u32 (T : Int)) ∧ w'.cell? ⟨w.heap.size, 1, none⟩ = some (.int .u8 (R : Int))) (by kernel_rfl) (SK.out _ (drew1 _)) (fun hHeld => ?_)
    refine rN 0 ?_
    refine rN 1 ?_
    refine rN 3 ?_
    refine wpAnyH_ready (rs := [2]) (by kernel_rfl) (by simp) ?_
    refine AllReadyH.cons rfl (fun K hK => ?_) ?zd2
    case zd2 => exact AllReadyH.nil
    go_simp
    refine (HX.out _ hHeld.1).mono ?_
    rintro e w9d2 ⟨rfl, b9⟩
    refine hK.out _ _ (SK.out _ (bt hHeld.1 b9)) (fun hNew => ?_)
    clear hHeld
    have hHeld := hNew
    clear hNew hK K
    refine rX ?_
    refine rN 4 ?_
    refine rN 5 ?_
    refine rN 6 ?_
    refine rN 7 ?_
    refine wpAnyH_ready (rs := [8]) (by kernel_rfl) (by simp) ?_
    refine AllReadyH.cons rfl (fun K hK => ?_) ?zd8
    case zd8 => exact AllReadyH.nil
    go_simp
    refine (FX.out _ hHeld.1).mono ?_
    rintro e w9d8 ⟨rfl, b9⟩
    refine hK.out _ _ (SK.out _ (bt hHeld.1 b9)) (fun hNew => ?_)
    clear hHeld
    have hHeld := hNew
    clear hNew hK K
    refine rX ?_
    refine wpAnyH_ready (rs := [9]) (by kernel_rfl) (by simp) ?_
    refine AllReadyH.cons rfl (fun K hK => ?_) ?zd9
    case zd9 => exact AllReadyH.nil
    go_simp
    refine (AX.out _ hHeld.1).mono ?_
    rintro e w9d9 ⟨rfl, b9⟩
    refine hK.out _ _ (SK.out _ (bt hHeld.1 b9)) (fun hNew => ?_)
    clear hHeld
    have hHeld := hNew
    clear hNew hK K
    refine rX ?_
    refine rN 10 ?_
    refine rN 11 ?_
    refine wpAnyH_done (by kernel_rfl) ?_ _
    have BD := Lib.hid (bt B2.out hHeld.1)
    clear hHeld
    go_wp2
    go_roundw
    case rel => exact ⟨i + 1 + 1, by omega, by omega, by go_num, NO, BD⟩
    case measure => simp [intOf]; omega
end Go.Proofs.YtohiidgdpecbdaaGreat.Covers
