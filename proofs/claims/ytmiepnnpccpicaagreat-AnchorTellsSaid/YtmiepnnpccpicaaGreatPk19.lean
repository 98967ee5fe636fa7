/- octavoref12.Lives, Live: what each answers. Conditions: of Lives: operations that may be, not too many. octavoref13.Where, Begin, All, Of, Ahead, Span: what each answers. Conditions: the slices' cells are operations, runs. Elements in cells. Conditions: none. octavoref15.put: what it answers. Conditions: elements whose places may be, none or in a row. -/
import Derived.Test.YtmiepnnpccpicaaGreatChecked
import Derived.WalkKit
import Derived.WalkSpells
import Derived.WalkLawsBesides
import Derived.Laws.BytesArg
import Derived.Lib.Hide
import Derived.Deep.LoopGhost
import Derived.Laws.AppendOwnNone
import Derived.Laws.OwnMore
import Derived.WideShapes
import Derived.Maps.AppendAt
import Derived.RegionTactic
import Derived.Deep.RegionHeld3
import Derived.Deep.DrawnRows
import Derived.Deep.QuietTactic
import Derived.BigQuiet
import Derived.IntWalk
import Derived.Deep.DeepCutAuto
import Derived.ScopeJumps
import Derived.Test.YtmiepnnpccpicaaGreatProg
import Derived.LoopTactic
import Derived.Laws.EntriesVeiled
import Derived.RowKit
import Derived.Lib.DecodeN
import Derived.Lib.RuneBytes
import Derived.Test.YtmiepnnpccpicaaGreatRw
import Derived.Test.YtmiepnnpccpicaaGreatPk18
import Derived.Test.YtmiepnnpccpicaaGreatPk04
import Derived.Test.YtmiepnnpccpicaaGreatPk17
import Derived.Test.YtmiepnnpccpicaaGreatPk16
import Derived.Test.YtmiepnnpccpicaaGreatPk03
import Derived.Test.YtmiepnnpccpicaaGreatPk02
import Derived.Test.YtmiepnnpccpicaaGreatPk15
import Derived.Test.YtmiepnnpccpicaaGreatPk01
import Derived.Test.YtmiepnnpccpicaaGreatPk05

namespace Go.Proofs.YtmiepnnpccpicaaGreat.Marks
open Go.RowKit Go.WideShapes Stamp Go.Proofs.YtmiepnnpccpicaaGreat.Place Ops Codes Bags
attribute [local go_sem ↓] Go.wp_at_zero Go.wp_at_succ
attribute [local go_sem] yielded_undef
theorem refHeldM_any {a b : Value} {x y : Opn} {w : World} (ha : Runs w a x.pl) (hb : Runs w b y.pl) (hx : mayO x = true) (hy : mayO y = true) :
    Calls Tryz.prog 67 #[a, b] w fun e w' => e = .returned (.int .i64 (cmp x.pl y.pl)) ∧ Below w.heap.size w w' := by
  have m1 := (mayB_iff _).1 (mayO_parts hx).2.1
  have m2 := (mayB_iff _).1 (mayO_parts hy).2.1
  have e : cmp x.pl y.pl = Go.Proofs.YtmiepnnpccpicaaGreat.Place.hold (all x.pl) (all y.pl) := by unfold cmp; rw [if_pos ⟨anyB_may (mayO_parts hx).2.1, anyB_may (mayO_parts hy).2.1⟩]
  rw [e]
  exact held_any ha hb m1.2.2.1 m2.2.2.1 (Nat.le_trans m1.2.1 (by decide)) (Nat.le_trans m2.2.1 (by decide))
set_option maxRecDepth 100000 in
set_option maxHeartbeats 16000000 in
theorem refLives_any {v0 : Value} {l : List Opn} {w : World} (hv : OpL w v0 l) (hm : ∀ o ∈ l, mayO o = true) (hl : l.length ≤ 1024) :
    Calls Tryz.prog 28 #[v0] w fun e w' => ∃ v', e = .returned v' ∧ OpL w' v' (livesM l l) ∧ Below w.heap.size w w' := by
  obtain ⟨ao, cap, rfl⟩ := hv.shape
  obtain ⟨n, hn⟩ : ∃ n, n = l.length := ⟨_, rfl⟩
  have hnm : n ≤ 1024 := by omega
  have HV : Hid (∀ W : World, Below w.heap.size w W → OpL W (.slice ao l.length cap) l) := fun W h => hv.keeps h
  have HN := Lib.hid hn
  have HMY := Lib.hid hm
  have EN : Hid (∀ (x : Opn) (W : World), Below w.heap.size w W → Calls Tryz.prog 66 #[.slice ao n cap, .agg #[.int .u32 (x.t : Int), .int .u8 (x.r : Int)]] W fun e w' => e = .returned (.bool (ended l (idO x))) ∧ Below W.heap.size W w') := fun x W h => by
    have := refEnded_any (idO x) (HV.out W h) HMY.out
    rw [← hn] at this
    exact this
  rw [← hn]
  have S0 : Hid (ShrO w w (.slice none 0 0) (livesM l (l.take 0))) := Shr.nil _ _ _ _
  have M0 : Hid (0 = (livesM l (l.take 0)).length) := rfl
  have B0 : Hid (Below w.heap.size w w) := Below.refl _ _
  clear hv hn hl hm
  go_enter Tryz.func28, Tryz.ntmps28
  go_wp2
  go_loopw [3, 4] (fun v i wr => ∃ j m : Nat, j ≤ n ∧ i = .int .i64 (j : Int) ∧ (∃ ao cap, v = .slice ao m cap) ∧ Hid (m = (livesM l (l.take j)).length) ∧ Hid (ShrO w wr v (livesM l (l.take j))) ∧ Hid (Below w.heap.size w wr)) (fun _ i _ => n - (intOf i).toNat)
  case atStart => exact ⟨0, 0, by omega, rfl, ⟨none, 0, rfl⟩, M0, S0, B0⟩
  case round =>
    clear S0 M0 B0
    obtain ⟨j, m, hj, rfl, ⟨aoL, capL, rfl⟩, HM, hshr, hbel⟩ := hrel
    by_cases hjn : j < n
    rotate_left
    · have q3 : decide (j < n) = false := by simpa using hjn
      have hkk : l.take j = l := List.take_of_length_le (by have := HN.out; omega)
      rw [hkk] at hshr
      clear hkk
      go_wp2
      go_ret
      exact ⟨_, rfl, hshr.out.seq hbel.out, hbel.out⟩
    have q3 : decide (j < n) = true := by simpa using hjn
    have q4 : (0 : Int) ≤ (j : Int) := by omega
    have q5 : (j : Int) < (n : Int) := by omega
    have hjl : j < l.length := by rw [← HN.out]; exact hjn
    have hmj : m ≤ j := by have h1 := livesM_le l (l.take j); rw [List.length_take] at h1; have := HM.out; omega
    obtain ⟨bb, oo, u, e, hbb, hru, h0, h1, h2, h3, h4⟩ := opl_at (HV.out w (Below.refl _ _)) j hjl
    subst e
    obtain ⟨x, hx⟩ : ∃ x, x = l[j]'hjl := ⟨_, rfl⟩
    rw [← hx] at hru h0 h1 h2 h4
    have HO : Hid (∀ v : Value, opv x v = .agg #[.int .u8 (x.k : Int), .int .u32 (x.t : Int), .int .u8 (x.r : Int), v, .int .i64 x.p]) := fun v => rfl
    replace h0 := ((hbel.out).cell (p := ⟨bb, oo + j * 5, none⟩) hbb).trans h0
    replace h1 := ((hbel.out).cell (p := ⟨bb, oo + j * 5 + 1, none⟩) hbb).trans h1
    replace h2 := ((hbel.out).cell (p := ⟨bb, oo + j * 5 + 2, none⟩) hbb).trans h2
    replace h3 := ((hbel.out).cell (p := ⟨bb, oo + j * 5 + 3, none⟩) hbb).trans h3
    replace h4 := ((hbel.out).cell (p := ⟨bb, oo + j * 5 + 4, none⟩) hbb).trans h4
    have hbo := hbb
    replace hbb := Nat.lt_of_lt_of_le hbb (hbel.out).size
    obtain ⟨uo, uc, rfl⟩ := hru.shape
    obtain ⟨nu, hnu⟩ : ∃ n, n = x.pl.length := ⟨_, rfl⟩
    have HNU := Lib.hid hnu
    rw [← hnu] at hru h3
    clear hnu
    have hxm : x ∈ l := by rw [hx]; exact List.getElem_mem _
    have MX := Lib.hid (HMY.out x hxm)
    have RX : Hid (Runs w (.slice uo nu uc) x.pl) := hru
    have INN : Hid (opE.inn w [.int .u8 (x.k : Int), .int .u32 (x.t : Int), .int .u8 (x.r : Int), .slice uo nu uc, .int .i64 x.p] x) := ⟨_, rfl, hru⟩
    have ST : Hid (livesM l (l.take (j + 1)) = if x.k = 2 ∧ ended l (idO x) = false then insM (livesM l (l.take j)) x else livesM l (l.take j)) := by unfold Hid; rw [List.take_succ_eq_append_getElem hjl, livesM_snoc, ← hx]; rfl
    have EX := Lib.hid (EN.out x)
    have ML : Hid (∀ y ∈ livesM l (l.take j), mayO y = true) := fun y hy => HMY.out y (List.mem_of_mem_take (mem_livesM.1 hy).1)
    obtain ⟨out, hout⟩ : ∃ z, livesM l (l.take j) = z := ⟨_, rfl⟩
    rw [hout] at HM hshr ST ML
    obtain ⟨en, hen⟩ : ∃ b, ended l (idO x) = b := ⟨_, rfl⟩
    rw [hen] at EX ST
    clear hx hru hxm hout hen
    obtain ⟨k, hk⟩ : ∃ z, x.k = z := ⟨_, rfl⟩
    obtain ⟨t, ht⟩ : ∃ z, x.t = z := ⟨_, rfl⟩
    obtain ⟨r, hr⟩ : ∃ z, x.r = z := ⟨_, rfl⟩
    obtain ⟨p, hp⟩ : ∃ z, x.p = z := ⟨_, rfl⟩
    rw [hk, ht, hr, hp] at HO
    rw [hk] at h0
    rw [ht] at h1
    rw [hr] at h2
    rw [hp] at h4
    rw [hk, ht, hr, hp] at INN
    rw [ht, hr] at EX
    rw [hk] at ST
    have F1 : Hid (FiveAt wr bb (oo + j * 5) (.int .u8 (k : Int)) (.int .u32 (t : Int)) (.int .u8 (r : Int)) (.slice uo nu uc) (.int .i64 p)) := ⟨hbb, h0, h1, h2, h3, h4⟩
    have SK : Hid (∀ w' : World, Below wr.heap.size wr w' → Below wr.heap.size wr w' ∧ w'.cell? ⟨bb, oo + j * 5, none⟩ = some (.int .u8 (k : Int)) ∧ w'.cell? ⟨bb, oo + j * 5 + 1, none⟩ = some (.int .u32 (t : Int)) ∧ w'.cell? ⟨bb, oo + j * 5 + 2, none⟩ = some (.int .u8 (r : Int)) ∧ w'.cell? ⟨bb, oo + j * 5 + 3, none⟩ = some (.slice uo nu uc) ∧ w'.cell? ⟨bb, oo + j * 5 + 4, none⟩ = some (.int .i64 p)) := fun W h => ⟨h, (F1.out.keeps h).2⟩
    clear hk ht hr hp HO
    by_cases hk2 : k = 2
    rotate_left
    · have qk : ((k : Int) == 2) = false := by simp; omega
      rw [show (if k = 2 ∧ en = false then insM out x else out) = out from if_neg (fun h => hk2 h.1)] at ST
      rw [← ST.out] at HM hshr
      go_wp2
      go_roundw
      case rel => exact ⟨j + 1, m, by omega, by go_num, ⟨aoL, capL, rfl⟩, HM, Lib.hid (hshr.out.keeps (Below.refl _ _)), Lib.hid (bt hbel.out (Below.refl _ _))⟩
      case measure => simp [intOf]; omega
    subst hk2
    have ST1 : Hid (en = true → livesM l (l.take (j + 1)) = out) := fun h => by rw [ST.out, h]; exact if_neg (fun h => by cases h.2)
    have ST2 : Hid (en = false → livesM l (l.take (j + 1)) = insM out x) := fun h => by rw [ST.out, h]; exact if_pos ⟨rfl, rfl⟩
    clear ST
    go_wp2_with fail
    refine (EX.out _ hbel.out).mono ?_
    rintro e w5 ⟨rfl, b5⟩
    cases en
    rotate_left
    · have e9 := ST1.out rfl
      rw [← e9] at HM hshr
      clear e9
      go_wp2
      go_roundw
      case rel => exact ⟨j + 1, m, by omega, by go_num, ⟨aoL, capL, rfl⟩, HM, Lib.hid (hshr.out.keeps b5), Lib.hid (bt hbel.out b5)⟩
      case measure => simp [intOf]; omega
    have ST := Lib.hid (ST2.out rfl)
    clear ST1 ST2
    have hsh := Lib.hid (hshr.out.keeps b5)
    have hb2 := Lib.hid (bt hbel.out b5)
    have F2 := Lib.hid (F1.out.keeps b5)
    clear b5 hshr hbel F1 SK EX hbb h0 h1 h2 h3 h4
    have hmo : out.length = m := HM.out.symm
    go_wp2
    go_loopw [5] (fun a wz => ∃ i : Nat, i ≤ m ∧ a = .int .i64 (i : Int) ∧ Hid (∀ k (h : k < out.length), k < i → ahead (out[k]'h) x = true) ∧ Hid (Below w5.heap.size w5 wz)) (fun a _ => m - (intOf a).toNat)
    case atStart => exact ⟨0, by omega, rfl, fun k h hk => by omega, Below.refl _ _⟩
    case round =>
      obtain ⟨i, him, rfl, hah, hbz⟩ := hrel
      have OZ := Lib.hid ((hsh.out.keeps hbz.out).seq (bt hb2.out hbz.out))
      have k0 : i ≤ capL := by have := (shr_fix hsh.out).cap; omega
      have k1 : (0 : Int) ≤ (i : Int) := by omega
      have k2 : (i : Int) ≤ (capL : Int) := by omega
      have k3 : (i : Int) ≤ (m : Int) := by omega
      by_cases hlt : i < m
      · have q6 : decide ((i : Int) < (m : Int)) = true := decide_eq_true (by omega)
        have q7 : decide (i < m) = true := decide_eq_true (by omega)
        have q8 : (i : Int) < (m : Int) := by omega
        have hil : i < out.length := by omega
        obtain ⟨bby, ooy, uy, ey, hbby, hruy, h0y, h1y, h2y, h3y, h4y⟩ := opl_at (OZ.out) i hil
        subst ey
        obtain ⟨xy, hxy⟩ : ∃ x, x = out[i]'hil := ⟨_, rfl⟩
        rw [← hxy] at hruy h0y h1y h2y h4y
        have HOy : Hid (∀ v : Value, opv xy v = .agg #[.int .u8 (xy.k : Int), .int .u32 (xy.t : Int), .int .u8 (xy.r : Int), v, .int .i64 xy.p]) := fun v => rfl
        have hym : xy ∈ out := by rw [hxy]; exact List.getElem_mem _
        have HE : Hid (∀ W : World, Below wr.heap.size wr W → Calls Tryz.prog 67 #[uy, .slice uo nu uc] W fun e w' => e = .returned (.int .i64 (cmp xy.pl x.pl)) ∧ Below W.heap.size W w') := fun W h => refHeldM_any (hruy.keeps h) (RX.out.keeps (bt (bt hb2.out hbz.out) h)) (ML.out xy hym) MX.out
        obtain ⟨c, hc⟩ : ∃ c, cmp xy.pl x.pl = c := ⟨_, rfl⟩
        rw [hc] at HE
        have HAH : Hid (ahead (out[i]'hil) x = decide (c < 0)) := by unfold Hid ahead; rw [← hxy, hc]
        have f3 := ((F2.out.keeps hbz.out).2).2.2.2.1
        have g3 := (F2.out.keeps hbz.out).1
        have SK : Hid (∀ w' : World, Below wr.heap.size wr w' → Below wr.heap.size wr w' ∧ w'.cell? ⟨bb, oo + j * 5 + 3, none⟩ = some (.slice uo nu uc) ∧ w'.cell? ⟨bby, ooy + i * 5 + 3, none⟩ = some uy) := fun W h => ⟨h, (h.cell (p := ⟨bb, oo + j * 5 + 3, none⟩) g3).trans f3, (h.cell (p := ⟨bby, ooy + i * 5 + 3, none⟩) hbby).trans h3y⟩
        clear h0y h1y h2y h3y h4y f3 g3 hbby hruy hym hxy hc HOy
        by_cases hcn : c < 0
        · have q9 : decide (c < 0) = true := decide_eq_true hcn
          have AH : Hid (∀ k (h : k < out.length), k < i + 1 → ahead (out[k]'h) x = true) := fun k h hk => by
            by_cases e : k = i
            · subst e; rw [HAH.out]; exact q9
            · exact hah.out k h (by omega)
          clear HAH hah
          go_wp2
          refine wp_region_held_drew (S := fun w' => Below wr.heap.size wr w' ∧ w'.cell? ⟨bb, oo + j * 5 + 3, none⟩ = some (.slice uo nu uc) ∧ w'.cell? ⟨bby, ooy + i * 5 + 3, none⟩ = some uy) (by kernel_rfl) (SK.out _ (drew1 _)) (fun hHeld => ?_)
          refine rN 0 ?_
          refine rN 1 ?_
          refine rN 2 ?_
          refine rN 3 ?_
          refine rN 4 ?_
          refine rN 5 ?_
          refine rN 6 ?_
          refine rN 7 ?_
          refine rN 8 ?_
          refine rN 9 ?_
          refine rN 10 ?_
          refine rN 11 ?_
          refine rN 12 ?_
          refine rN 13 ?_
          refine rN 14 ?_
          refine wpAnyH_ready (rs := [15]) (by kernel_rfl) (by simp) ?_
          refine AllReadyH.cons rfl (fun K hK => ?_) ?zd15
          case zd15 => exact AllReadyH.nil
          go_simp
          refine (HE.out _ hHeld.1).mono ?_
          rintro e w9d15 ⟨rfl, b9⟩
          refine hK.out _ _ (SK.out _ (bt hHeld.1 b9)) (fun hNew => ?_)
          clear hHeld
          have hHeld := hNew
          clear hNew hK K
          refine rX ?_
          refine rN 16 ?_
          refine rN 17 ?_
          refine wpAnyH_done (by kernel_rfl) ?_ _
          go_wp2
          go_roundw
          case rel => exact ⟨i + 1, by omega, by go_num, AH, Lib.hid (bt hbz.out hHeld.1)⟩
          case measure => simp [intOf]; omega
        · have q9 : decide (c < 0) = false := decide_eq_false hcn
          have AT : Hid (atM out x = i) := atM_is (by omega) hah.out (fun h => by rw [HAH.out]; exact q9)
          clear HAH
          go_wp2
          refine wp_region_held_drew (S := fun w' => Below wr.heap.size wr w' ∧ w'.cell? ⟨bb, oo + j * 5 + 3, none⟩ = some (.slice uo nu uc) ∧ w'.cell? ⟨bby, ooy + i * 5 + 3, none⟩ = some uy) (by kernel_rfl) (SK.out _ (drew1 _)) (fun hHeld => ?_)
          refine rN 0 ?_
          refine rN 1 ?_
          refine rN 2 ?_
          refine rN 3 ?_
          refine rN 4 ?_
          refine rN 5 ?_
          refine rN 6 ?_
          refine rN 7 ?_
          refine rN 8 ?_
          refine rN 9 ?_
          refine rN 10 ?_
          refine rN 11 ?_
          refine rN 12 ?_
          refine rN 13 ?_
          refine rN 14 ?_
          refine wpAnyH_ready (rs := [15]) (by kernel_rfl) (by simp) ?_
          refine AllReadyH.cons rfl (fun K hK => ?_) ?ze15
          case ze15 => exact AllReadyH.nil
          go_simp
          refine (HE.out _ hHeld.1).mono ?_
          rintro e w9e15 ⟨rfl, b9⟩
          refine hK.out _ _ (SK.out _ (bt hHeld.1 b9)) (fun hNew => ?_)
          clear hHeld
          have hHeld := hNew
          clear hNew hK K
          refine rX ?_
          refine rN 16 ?_
          refine rN 17 ?_
          refine wpAnyH_done (by kernel_rfl) ?_ _
          have SZ := Lib.hid ((hsh.out.keeps hbz.out).keeps hHeld.1)
          have BZ := Lib.hid (bt (bt hb2.out hbz.out) hHeld.1)
          have FZ := Lib.hid (F2.out.keeps (bt hbz.out hHeld.1))
          clear hHeld OZ hsh hb2 F2 hbz hah
          rcases shr_drop SZ.out him with ⟨e1, -, -, -⟩ | ⟨ab, aof, a', e1, hif, hpart⟩
          · cases e1
          have PT := Lib.hid hpart
          cases e1
          clear hpart
          try dsimp only at hif
          have HN1 : Hid (i = ([] : List Opn).length + (out.take i).length) := by unfold Hid; rw [List.length_nil, List.length_take]; omega
          have HN2 : Hid (i = (out.take i).length) := by unfold Hid; rw [List.length_take]; omega
          have HN3 : Hid (m + 1 = (out.take i ++ [x]).length + (out.drop i).length) := by unfold Hid; rw [List.length_append, List.length_take, List.length_drop, List.length_singleton]; omega
          have HTK : Hid (Seq (fixE (fixE opE w) w9e15) w9e15 (.slice (some ⟨bby, ooy, none⟩) i capL) (out.take i)) := (shr_fix SZ.out).take (m := i) (by omega)
          go_wp2_with (at_builtin; refine wpList_append_shr (E := fixE opE w) Tryz.underlying22 op_info rfl (w0 := w9e15) (by rfl) (.tmp 48) (.tmp 51) (by rfl) (by rfl) (Shr.nil _ _ _ _) (by rfl) HTK.out HN1.out (by omega) (by omega) (Nat.le_refl _) ?_)
          rintro v6 w6 s6 a6 c6 rfl b6
          have S6 := Lib.hid s6
          have W6 := Lib.hid b6
          obtain ⟨h0, h1, h2, h3, h4⟩ := (FZ.out.keeps b6).2
          clear s6 b6 FZ HTK
          go_wp2_with (at_builtin; refine wpList_append_enc (E := fixE opE w) Tryz.underlying22 op_info rfl (w0 := w9e15) (wp := w6) (by rfl) (.tmp 53) (.tmp 58) (by rfl) (by rfl) S6.out (G := w6.heap.size) (by rfl) rfl (c := #[.int .u8 2, .int .u32 (t : Int), .int .u8 (r : Int), .slice uo nu uc, .int .i64 p]) INN.out HN2.out (by omega) (by omega) W6.out.size ?_)
          rintro v7 w7 s7 a7 c7 rfl b7
          have S7 := Lib.hid s7
          have W7 := Lib.hid (W6.out.trans b7)
          clear s7 b7 S6 W6 h0 h1 h2 h3 h4
          have P7 : Hid (Seq (fixE (fixE opE w) w9e15) w7 (.slice (some a') (m - i) (capL - i)) (out.drop i)) := (Seq.keeps PT.out W7.out)
          go_wp2_with (at_builtin; refine wpList_append_shr (E := fixE opE w) Tryz.underlying22 op_info rfl (w0 := w9e15) (by rfl) (.tmp 60) (.tmp 63) (by rfl) (by rfl) S7.out (by rfl) P7.out HN3.out (by omega) (by omega) W7.out.size ?_)
          rintro v8 w8 s8 a8 c8 rfl b8
          have S8 := Lib.hid s8
          have B8 := Lib.hid (bt BZ.out (W7.out.trans b8))
          have O8 : Hid (ShrO w w8 (.slice a8 (m + 1) c8) (livesM l (l.take (j + 1)))) := by
            unfold Hid
            have h9 := shr_unfix S8.out BZ.out.size
            rw [ST.out]
            unfold insM
            rw [AT.out]
            simpa using h9
          have M8 : Hid (m + 1 = (livesM l (l.take (j + 1))).length) := by unfold Hid; rw [ST.out, insM_len]; omega
          clear S8
          go_wp2
          go_roundw
          case rel => exact ⟨j + 1, m + 1, by omega, by go_num, ⟨a8, c8, rfl⟩, M8, O8, B8⟩
          case measure => simp [intOf]; omega
      · have him3 : ¬ (i : Int) < (m : Int) := by omega
        have q6 : decide ((i : Int) < (m : Int)) = false := decide_eq_false (by omega)
        have q7 : decide (i < m) = false := decide_eq_false (by omega)
        have AT : Hid (atM out x = i) := atM_is (by omega) hah.out (fun h => by omega)
        have SK : Hid (∀ w' : World, Below wr.heap.size wr w' → Below wr.heap.size wr w' ∧ True) := fun W h => ⟨h, trivial⟩
        go_wp2
        refine wp_region_held_drew (S := fun w' => Below wr.heap.size wr w' ∧ True) (by kernel_rfl) (SK.out _ (drew1 _)) (fun hHeld => ?_)
        refine rN 0 ?_
        refine rN 1 ?_
        refine rN 2 ?_
        refine rN 3 ?_
        refine rN 4 ?_
        refine rV 5 ?_
        refine rV 6 ?_
        refine rV 7 ?_
        refine rV 8 ?_
        refine rV 9 ?_
        refine rV 10 ?_
        refine rV 11 ?_
        refine rV 12 ?_
        refine rV 13 ?_
        refine rV 14 ?_
        refine rV 15 ?_
        refine rV 16 ?_
        refine rN 17 ?_
        refine wpAnyH_done (by kernel_rfl) ?_ _
        have SZ := Lib.hid ((hsh.out.keeps hbz.out).keeps hHeld.1)
        have BZ := Lib.hid (bt (bt hb2.out hbz.out) hHeld.1)
        have FZ := Lib.hid (F2.out.keeps (bt hbz.out hHeld.1))
        clear hHeld OZ hsh hb2 F2 hbz hah
        generalize wr.drew = WB at SZ BZ FZ ⊢
        rcases shr_drop SZ.out him with ⟨e1, e2, e3, e4⟩ | ⟨ab, aof, a', e1, hif, hpart⟩
        · subst e1 e2 e3 e4
          obtain rfl : i = 0 := by omega
          have HN1 : Hid (0 = ([] : List Opn).length + (([] : List Opn).take 0).length) := by unfold Hid; rw [List.length_nil, List.length_take]; omega
          have HN2 : Hid (0 = (([] : List Opn).take 0).length) := by unfold Hid; rw [List.length_take]; omega
          have HN3 : Hid (0 + 1 = (([] : List Opn).take 0 ++ [x]).length + (([] : List Opn).drop 0).length) := by unfold Hid; rw [List.length_append, List.length_take, List.length_drop, List.length_singleton]; omega
          have HTK : Hid (Seq (fixE (fixE opE w) WB) WB (.slice none 0 0) (([] : List Opn).take 0)) := (shr_fix SZ.out).take (m := 0) (by omega)
          go_wp2_with (at_builtin; refine wpList_append_shr (E := fixE opE w) Tryz.underlying22 op_info rfl (w0 := WB) (by rfl) (.tmp 48) (.tmp 51) (by rfl) (by rfl) (Shr.nil _ _ _ _) (by rfl) HTK.out HN1.out (by omega) (by omega) (Nat.le_refl _) ?_)
          rintro v6 w6 s6 a6 c6 rfl b6
          have S6 := Lib.hid s6
          have W6 := Lib.hid b6
          obtain ⟨h0, h1, h2, h3, h4⟩ := (FZ.out.keeps b6).2
          clear s6 b6 FZ HTK
          go_wp2_with (at_builtin; refine wpList_append_enc (E := fixE opE w) Tryz.underlying22 op_info rfl (w0 := WB) (wp := w6) (by rfl) (.tmp 53) (.tmp 58) (by rfl) (by rfl) S6.out (G := w6.heap.size) (by rfl) rfl (c := #[.int .u8 2, .int .u32 (t : Int), .int .u8 (r : Int), .slice uo nu uc, .int .i64 p]) INN.out HN2.out (by omega) (by omega) W6.out.size ?_)
          rintro v7 w7 s7 a7 c7 rfl b7
          have S7 := Lib.hid s7
          have W7 := Lib.hid (W6.out.trans b7)
          clear s7 b7 S6 W6 h0 h1 h2 h3 h4
          have P7 : Hid (Seq (fixE (fixE opE w) WB) w7 (.slice none 0 0) ([] : List Opn)) := Seq.nil _ _
          go_wp2_with (at_builtin; refine wpList_append_shr (E := fixE opE w) Tryz.underlying22 op_info rfl (w0 := WB) (by rfl) (.tmp 60) (.tmp 63) (by rfl) (by rfl) S7.out (by rfl) P7.out HN3.out (by omega) (by omega) W7.out.size ?_)
          rintro v8 w8 s8 a8 c8 rfl b8
          have S8 := Lib.hid s8
          have B8 := Lib.hid (bt BZ.out (W7.out.trans b8))
          have O8 : Hid (ShrO w w8 (.slice a8 (0 + 1) c8) (livesM l (l.take (j + 1)))) := by
            unfold Hid
            have h9 := shr_unfix S8.out BZ.out.size
            rw [ST.out]
            unfold insM
            rw [AT.out]
            simpa using h9
          have M8 : Hid (0 + 1 = (livesM l (l.take (j + 1))).length) := by unfold Hid; rw [ST.out, insM_len]; omega
          clear S8
          go_wp2
          go_roundw
          case rel => exact ⟨j + 1, 0 + 1, by omega, by go_num, ⟨a8, c8, rfl⟩, M8, O8, B8⟩
          case measure => simp [intOf]; omega
        have PT := Lib.hid hpart
        try dsimp only at hif
        subst e1
        clear hpart
        have HN1 : Hid (i = ([] : List Opn).length + (out.take i).length) := by unfold Hid; rw [List.length_nil, List.length_take]; omega
        have HN2 : Hid (i = (out.take i).length) := by unfold Hid; rw [List.length_take]; omega
        have HN3 : Hid (m + 1 = (out.take i ++ [x]).length + (out.drop i).length) := by unfold Hid; rw [List.length_append, List.length_take, List.length_drop, List.length_singleton]; omega
        have HTK : Hid (Seq (fixE (fixE opE w) WB) WB (.slice (some ⟨ab, aof, none⟩) i capL) (out.take i)) := (shr_fix SZ.out).take (m := i) (by omega)
        go_wp2_with (at_builtin; refine wpList_append_shr (E := fixE opE w) Tryz.underlying22 op_info rfl (w0 := WB) (by rfl) (.tmp 48) (.tmp 51) (by rfl) (by rfl) (Shr.nil _ _ _ _) (by rfl) HTK.out HN1.out (by omega) (by omega) (Nat.le_refl _) ?_)
        rintro v6 w6 s6 a6 c6 rfl b6
        have S6 := Lib.hid s6
        have W6 := Lib.hid b6
        obtain ⟨h0, h1, h2, h3, h4⟩ := (FZ.out.keeps b6).2
        clear s6 b6 FZ HTK
        go_wp2_with (at_builtin; refine wpList_append_enc (E := fixE opE w) Tryz.underlying22 op_info rfl (w0 := WB) (wp := w6) (by rfl) (.tmp 53) (.tmp 58) (by rfl) (by rfl) S6.out (G := w6.heap.size) (by rfl) rfl (c := #[.int .u8 2, .int .u32 (t : Int), .int .u8 (r : Int), .slice uo nu uc, .int .i64 p]) INN.out HN2.out (by omega) (by omega) W6.out.size ?_)
        rintro v7 w7 s7 a7 c7 rfl b7
        have S7 := Lib.hid s7
        have W7 := Lib.hid (W6.out.trans b7)
        clear s7 b7 S6 W6 h0 h1 h2 h3 h4
        have P7 : Hid (Seq (fixE (fixE opE w) WB) w7 (.slice (some a') (m - i) (capL - i)) (out.drop i)) := (Seq.keeps PT.out W7.out)
        go_wp2_with (at_builtin; refine wpList_append_shr (E := fixE opE w) Tryz.underlying22 op_info rfl (w0 := WB) (by rfl) (.tmp 60) (.tmp 63) (by rfl) (by rfl) S7.out (by rfl) P7.out HN3.out (by omega) (by omega) W7.out.size ?_)
        rintro v8 w8 s8 a8 c8 rfl b8
        have S8 := Lib.hid s8
        have B8 := Lib.hid (bt BZ.out (W7.out.trans b8))
        have O8 : Hid (ShrO w w8 (.slice a8 (m + 1) c8) (livesM l (l.take (j + 1)))) := by
          unfold Hid
          have h9 := shr_unfix S8.out BZ.out.size
          rw [ST.out]
          unfold insM
          rw [AT.out]
          simpa using h9
        have M8 : Hid (m + 1 = (livesM l (l.take (j + 1))).length) := by unfold Hid; rw [ST.out, insM_len]; omega
        clear S8
        go_wp2
        go_roundw
        case rel => exact ⟨j + 1, m + 1, by omega, by go_num, ⟨a8, c8, rfl⟩, M8, O8, B8⟩
        case measure => simp [intOf]; omega
end Go.Proofs.YtmiepnnpccpicaaGreat.Marks

namespace Go.Proofs.YtmiepnnpccpicaaGreat.Homes
open Go.RowKit Go.WideShapes Stamp Go.Proofs.YtmiepnnpccpicaaGreat.Place Ops Codes Bags Marks
attribute [local go_sem ↓] Go.wp_at_zero Go.wp_at_succ
attribute [local go_sem] yielded_undef
set_option maxRecDepth 100000 in
set_option maxHeartbeats 4000000 in
theorem refWhere_any {v : Value} {live : List Opn} (s : Id) {w : World} (hv : OpL w v live) (hl : live.length ≤ 1000000) :
    Calls Tryz.prog 91 #[v, .agg #[.int .u32 (s.t : Int), .int .u8 (s.r : Int)]] w fun e w' => e = .returned (.int .i64 (whereM live s)) ∧ Below w.heap.size w w' := by
  have B0 : Hid (Below w.heap.size w (w.alloc (.cells #[.int .u32 (s.t : Int), .int .u8 (s.r : Int)] 25))) := (Below.refl _ _).alloc (Nat.le_refl _) _
  have P0 : Hid (Pair (w.alloc (.cells #[.int .u32 (s.t : Int), .int .u8 (s.r : Int)] 25)) w.heap.size (.int .u32 (s.t : Int)) (.int .u8 (s.r : Int))) := pair_new _ _ _ _
  have SE := Lib.hid (refSections_any (hv.keeps B0.out) hl)
  have HN : Hid (live.length + 1 = (sectsM live).length) := (sectsM_len live).symm
  have HW : Hid (∀ j (hj : j < (sectsM live).length), (∀ i (h : i < (sectsM live).length), i < j → (sectsM live)[i]'h ≠ s) → (sectsM live)[j]'hj = s → whereM live s = j) := fun j hj h1 h2 => where_is hj h1 h2
  have HZ : Hid ((∀ i (h : i < (sectsM live).length), (sectsM live)[i]'h ≠ s) → whereM live s = -1) := fun h => where_no h
  obtain ⟨q, hq⟩ : ∃ q, whereM live s = q := ⟨_, rfl⟩
  rw [hq] at HW HZ ⊢
  obtain ⟨L, hL⟩ : ∃ z, sectsM live = z := ⟨_, rfl⟩
  rw [hL] at SE HN HW HZ
  obtain ⟨n, hn⟩ : ∃ n, live.length + 1 = n := ⟨_, rfl⟩
  rw [hn] at SE HN
  have hnm : n ≤ 1000001 := by omega
  obtain ⟨S, hS⟩ : ∃ z, s = z := ⟨_, rfl⟩
  have HSI : Hid (∀ x : Id, x = s ↔ x.t = s.t ∧ x.r = s.r) := fun x => Id.eq_iff
  rw [hS] at HW HZ
  have HSE : Hid (∀ x : Id, x = S ↔ x.t = s.t ∧ x.r = s.r) := by rw [← hS]; exact HSI.out
  obtain ⟨ts, rs, hts, hrs⟩ := s
  simp only at SE P0 B0 HSE ⊢
  clear hv hq hL hn hl hS HSI
  go_enter Tryz.func91, Tryz.ntmps91
  go_wp2_with fail
  refine SE.out.mono ?_
  rintro e w1 ⟨lo, lc, rfl, o1, b1⟩
  have B1 := Lib.hid (bt B0.out b1)
  have P1 := Lib.hid (P0.out.keeps b1)
  have SI : Hid (∀ W : World, Below w1.heap.size w1 W → Ids W (.slice lo n lc) L) := fun W h => (Go.Proofs.YtmiepnnpccpicaaGreat.Ids.own o1).keeps h
  have Z1 : Hid (Below w1.heap.size w1 w1) := Below.refl _ _
  clear o1 b1 SE B0 P0
  go_wp2
  go_loopw [6] (fun i wr => ∃ j : Nat, j ≤ n ∧ i = .int .i64 (j : Int) ∧ Hid (∀ k (h : k < L.length), k < j → L[k]'h ≠ S) ∧ Hid (Below w1.heap.size w1 wr)) (fun i _ => n - (intOf i).toNat)
  case atStart => exact ⟨0, by omega, rfl, fun k h hk => by omega, Z1⟩
  case round =>
    clear Z1
    obtain ⟨j, hj, rfl, hno, hbel⟩ := hrel
    have BW := Lib.hid (bt B1.out hbel.out)
    by_cases hjn : j < n
    rotate_left
    · have q3 : decide (j < n) = false := by simpa using hjn
      obtain rfl := HZ.out (fun i h => hno.out i h (by have := HN.out; omega))
      go_wp2
      go_ret
      exact ⟨rfl, BW.out⟩
    have q3 : decide (j < n) = true := by simpa using hjn
    have q4 : (0 : Int) ≤ (j : Int) := by omega
    have q5 : (j : Int) < (n : Int) := by omega
    have hjl : j < L.length := by rw [← HN.out]; exact hjn
    obtain ⟨bb, oo, e, hbb, h0, h1⟩ := Ids.at (SI.out wr hbel.out) j hjl
    subst e
    rw [getD_get hjl] at h0 h1
    obtain ⟨x, hx⟩ : ∃ x, L[j]'hjl = x := ⟨_, rfl⟩
    rw [hx] at h0 h1
    have HX : Hid (L[j]'hjl = x) := hx
    have HXS := Lib.hid (HSE.out x)
    obtain ⟨t, r, ht, hr⟩ := x
    simp only at h0 h1 HXS
    have P2 := (P1.out.keeps hbel.out)
    obtain ⟨hlt, f0, f1⟩ := P2
    clear hx hbb
    by_cases he : t = ts ∧ r = rs
    · obtain ⟨rfl, rfl⟩ := he
      obtain rfl := HW.out j hjl hno.out (by rw [HX.out]; exact HXS.out.2 ⟨rfl, rfl⟩)
      have BD : Hid (Below w.heap.size w wr.drew) := BW.out.drew
      clear HXS HX HW HZ hno
      go_wp2
      go_region
      go_wp2
      go_ret
      exact ⟨rfl, BD.out⟩
    have NO : Hid (∀ k (h : k < L.length), k < j + 1 → L[k]'h ≠ S) := fun k h hk => by
      by_cases e : k = j
      · subst e
        rw [HX.out]
        intro e2
        exact he (HXS.out.1 e2)
      · exact hno.out k h (by omega)
    have BD : Hid (Below w1.heap.size w1 wr.drew) := hbel.out.drew
    have hne : ¬ t = ts ∨ (t = ts ∧ ¬ r = rs) := by
      by_cases h : t = ts
      · exact .inr ⟨h, fun h2 => he ⟨h, h2⟩⟩
      · exact .inl h
    clear HXS HX HW HZ hno he BW
    rcases hne with hne | ⟨rfl, hne⟩
    · have hi : ¬ ((t : Int) = (ts : Int)) := by omega
      go_wp2
      go_region
      go_wp2
      go_roundw
      case rel => exact ⟨j + 1, by omega, by go_num, NO, BD⟩
      case measure => simp [intOf]; omega
    · have hi : ¬ ((r : Int) = (rs : Int)) := by omega
      go_wp2
      go_region
      go_wp2
      go_roundw
      case rel => exact ⟨j + 1, by omega, by go_num, NO, BD⟩
      case measure => simp [intOf]; omega
end Go.Proofs.YtmiepnnpccpicaaGreat.Homes

namespace Go.Proofs.YtmiepnnpccpicaaGreat.Views
open Go.RowKit Go.WideShapes Stamp Go.Proofs.YtmiepnnpccpicaaGreat.Place Ops Codes Bags Marks Homes Covers
attribute [local go_sem ↓] Go.wp_at_zero Go.wp_at_succ
attribute [local go_sem] yielded_undef
theorem refHeldE_any {a b : Value} {x y : Opn} {w : World} (ha : Runs w a x.pl) (hb : Runs w b y.pl) (hx : mayO x = true) (hy : mayO y = true) :
    Calls Tryz.prog 67 #[a, b] w fun e w' => e = .returned (.int .i64 (cmp x.pl y.pl)) ∧ Below w.heap.size w w' := by
  have m1 := (mayB_iff _).1 (mayO_parts hx).2.1
  have m2 := (mayB_iff _).1 (mayO_parts hy).2.1
  have e : cmp x.pl y.pl = Go.Proofs.YtmiepnnpccpicaaGreat.Place.hold (all x.pl) (all y.pl) := by unfold cmp; rw [if_pos ⟨anyB_may (mayO_parts hx).2.1, anyB_may (mayO_parts hy).2.1⟩]
  rw [e]
  exact held_any ha hb m1.2.2.1 m2.2.2.1 (Nat.le_trans m1.2.1 (by decide)) (Nat.le_trans m2.2.1 (by decide))
end Go.Proofs.YtmiepnnpccpicaaGreat.Views

namespace Go.Proofs.YtmiepnnpccpicaaGreat.Views
open Go.RowKit Go.WideShapes Stamp Go.Proofs.YtmiepnnpccpicaaGreat.Place Ops Codes Bags Marks Homes Covers
attribute [local go_sem ↓] Go.wp_at_zero Go.wp_at_succ
attribute [local go_sem] yielded_undef
/-- No elements, and no memory; or some. -/
def NonE (v : Value) (c : List Opn) : Prop := v = .slice none 0 0 ∨ c ≠ []
set_option maxRecDepth 100000 in
set_option maxHeartbeats 16000000 in
theorem refPut_any {v u : Value} {c : List Opn} {x : Opn} {w : World} (hv : ElL w v c) (hne : NonE v c) (hu : Runs w u x.pl) (hm : ∀ o ∈ c, mayO o = true) (hx : mayO x = true) (hl : c.length ≤ 1000000) :
    Calls Tryz.prog 105 #[v, elv x u] w fun e w' => ∃ v', e = .returned v' ∧ ElL w' v' (insM c x) ∧ Below w.heap.size w w' := by
  obtain ⟨ao, cap, rfl⟩ := hv.shape
  obtain ⟨uo, uc, rfl⟩ := hu.shape
  have HE0 : Hid (∀ (y : Opn) (z : Value) (W : World), y ∈ c → Runs w z y.pl → Below w.heap.size w W → Calls Tryz.prog 67 #[z, .slice uo x.pl.length uc] W fun e w' => e = .returned (.int .i64 (cmp y.pl x.pl)) ∧ Below W.heap.size W w') := fun y z W hy hz h => refHeldE_any (hz.keeps h) (hu.keeps h) (hm y hy) hx
  have HV := Lib.hid hv
  have INN0 : Hid (elmE.inn w [.int .u32 (x.t : Int), .int .u8 (x.r : Int), .slice uo x.pl.length uc, .int .i64 x.p] x) := ⟨_, rfl, hu⟩
  have HNE : Hid (∀ i, i ≤ c.length → (ao = none ∧ cap = 0 ∧ c = []) ∨ ∃ ab aof a', ao = some ⟨ab, aof, none⟩ ∧ (if cap = i then (some ⟨ab, aof, none⟩ : Option Addr) else some ⟨ab, aof + i * 4, none⟩) = some a' ∧ ElL w (.slice (some a') (c.length - i) (cap - i)) (c.drop i)) := fun i hi => by
    by_cases hc : c = []
    · rcases hne with h | h
      · obtain ⟨e1, -, e3⟩ := Value.slice.inj h
        exact .inl ⟨e1, e3, hc⟩
      · exact absurd hc h
    · obtain ⟨b, off, o', h1, h2, h3⟩ := part_drop hv hi hc
      exact .inr ⟨b, off, _, h1, h2, h3⟩
  have hcap := hv.cap
  obtain ⟨m, hmo⟩ : ∃ m, c.length = m := ⟨_, rfl⟩
  obtain ⟨nu, hnu⟩ : ∃ n, x.pl.length = n := ⟨_, rfl⟩
  rw [hmo] at HV hl HNE hcap ⊢
  rw [hnu] at HE0 INN0 ⊢
  have hcm : m ≤ cap := hcap.2.1
  have HMO := Lib.hid hmo
  unfold elv
  obtain ⟨t, ht⟩ : ∃ z, x.t = z := ⟨_, rfl⟩
  obtain ⟨r, hr⟩ : ∃ z, x.r = z := ⟨_, rfl⟩
  obtain ⟨p, hp⟩ : ∃ z, x.p = z := ⟨_, rfl⟩
  rw [ht, hr, hp] at INN0 ⊢
  obtain ⟨wl, hwl⟩ : ∃ z, z = w.alloc (.cells #[.int .u32 (t : Int), .int .u8 (r : Int), .slice uo nu uc, .int .i64 p] 53) := ⟨_, rfl⟩
  have B0 : Hid (Below w.heap.size w wl) := by rw [hwl]; exact (Below.refl _ _).alloc (Nat.le_refl _) _
  have X0 : Hid (wl.heap[w.heap.size]? = some (.cells #[.int .u32 (t : Int), .int .u8 (r : Int), .slice uo nu uc, .int .i64 p] 53)) := by rw [hwl]; exact blk_new rfl
  have HW := Lib.hid hwl
  clear hv hu hm hx hne hmo hnu ht hr hp hwl hcap
  go_enter Tryz.func105, Tryz.ntmps105
  go_wp2
  rw [← HW.out]
  go_loopw [5] (fun a wz => ∃ i : Nat, i ≤ m ∧ a = .int .i64 (i : Int) ∧ Hid (∀ k (h : k < c.length), k < i → Go.Proofs.YtmiepnnpccpicaaGreat.Marks.ahead (c[k]'h) x = true) ∧ Hid (Below wl.heap.size wl wz)) (fun a _ => m - (intOf a).toNat)
  case atStart => exact ⟨0, by omega, rfl, fun k h hk => by omega, Below.refl _ _⟩
  case round =>
    obtain ⟨i, him, rfl, hah, hbz⟩ := hrel
    have BW := Lib.hid (bt B0.out hbz.out)
    have k0 : i ≤ cap := by omega
    have k1 : (0 : Int) ≤ (i : Int) := by omega
    have k2 : (i : Int) ≤ (cap : Int) := by omega
    have k3 : (i : Int) ≤ (m : Int) := by omega
    obtain ⟨z0, z1, z2, z3⟩ := cells4 (blk_below hbz.out X0.out)
    by_cases hlt : i < m
    · have q6 : decide ((i : Int) < (m : Int)) = true := decide_eq_true (by omega)
      have q7 : decide (i < m) = true := decide_eq_true (by omega)
      have q8 : (i : Int) < (m : Int) := by omega
      have hil : i < c.length := by rw [HMO.out]; exact hlt
      obtain ⟨bb, oo, uy, ey, hbb, hruy, h0, h1, h2, h3⟩ := el_at HV.out i hil
      cases ey
      have HE : Hid (∀ W : World, Below wr.heap.size wr W → Calls Tryz.prog 67 #[uy, .slice uo nu uc] W fun e w' => e = .returned (.int .i64 (cmp (c[i]'hil).pl x.pl)) ∧ Below W.heap.size W w') := fun W h => HE0.out _ uy W (List.getElem_mem _) hruy (bt BW.out h)
      obtain ⟨d, hd⟩ : ∃ d, cmp (c[i]'hil).pl x.pl = d := ⟨_, rfl⟩
      rw [hd] at HE
      have HAH : Hid (Go.Proofs.YtmiepnnpccpicaaGreat.Marks.ahead (c[i]'hil) x = decide (d < 0)) := by unfold Hid Go.Proofs.YtmiepnnpccpicaaGreat.Marks.ahead; rw [hd]
      have f2 := (BW.out.cell (p := ⟨bb, oo + i * 4 + 2, none⟩) hbb).trans h2
      have fb := Nat.lt_of_lt_of_le hbb BW.out.size
      have hlt9 := World.block_lt_of_cell? _ _ z0
      have SK : Hid (∀ w' : World, Below wr.heap.size wr w' → Below wr.heap.size wr w' ∧ w'.cell? ⟨w.heap.size, 0, none⟩ = some (.int .u32 (t : Int)) ∧ w'.cell? ⟨w.heap.size, 1, none⟩ = some (.int .u8 (r : Int)) ∧ w'.cell? ⟨w.heap.size, 2, none⟩ = some (.slice uo nu uc) ∧ w'.cell? ⟨w.heap.size, 3, none⟩ = some (.int .i64 p) ∧ w'.cell? ⟨bb, oo + i * 4 + 2, none⟩ = some uy) := fun W h => ⟨h, (h.cell (p := ⟨w.heap.size, 0, none⟩) hlt9).trans z0, (h.cell (p := ⟨w.heap.size, 1, none⟩) hlt9).trans z1, (h.cell (p := ⟨w.heap.size, 2, none⟩) hlt9).trans z2, (h.cell (p := ⟨w.heap.size, 3, none⟩) hlt9).trans z3, (h.cell (p := ⟨bb, oo + i * 4 + 2, none⟩) fb).trans f2⟩
      clear hruy h0 h1 h2 h3 f2 fb hbb hd hlt9
      by_cases hcn : d < 0
      · have q9 : decide (d < 0) = true := decide_eq_true hcn
        have AH : Hid (∀ k (h : k < c.length), k < i + 1 → Go.Proofs.YtmiepnnpccpicaaGreat.Marks.ahead (c[k]'h) x = true) := fun k h hk => by
          by_cases e : k = i
          · subst e; rw [HAH.out]; exact q9
          · exact hah.out k h (by omega)
        clear HAH hah
        go_wp2
        refine wp_region_held_drew (S := fun w' => Below wr.heap.size wr w' ∧ w'.cell? ⟨w.heap.size, 0, none⟩ = some (.int .u32 (t : Int)) ∧ w'.cell? ⟨w.heap.size, 1, none⟩ = some (.int .u8 (r : Int)) ∧ w'.cell? ⟨w.heap.size, 2, none⟩ = some (.slice uo nu uc) ∧ w'.cell? ⟨w.heap.size, 3, none⟩ = some (.int .i64 p) ∧ w'.cell? ⟨bb, oo + i * 4 + 2, none⟩ = some uy) (by kernel_rfl) (SK.out _ (drew1 _)) (fun hHeld => ?_)
        refine rN 0 ?_
        refine rN 1 ?_
        refine rN 2 ?_
        refine rN 3 ?_
        refine rN 4 ?_
        refine rN 5 ?_
        refine rN 6 ?_
        refine rN 7 ?_
        refine rN 8 ?_
        refine rN 9 ?_
        refine rN 10 ?_
        refine rN 11 ?_
        refine wpAnyH_ready (rs := [12]) (by kernel_rfl) (by simp) ?_
        refine AllReadyH.cons rfl (fun K hK => ?_) ?zd12
        case zd12 => exact AllReadyH.nil
        go_simp
        refine (HE.out _ hHeld.1).mono ?_
        rintro e w9d12 ⟨rfl, b9⟩
        refine hK.out _ _ (SK.out _ (bt hHeld.1 b9)) (fun hNew => ?_)
        clear hHeld
        have hHeld := hNew
        clear hNew hK K
        refine rX ?_
        refine rN 13 ?_
        refine rN 14 ?_
        refine wpAnyH_done (by kernel_rfl) ?_ _
        go_wp2
        go_roundw
        case rel => exact ⟨i + 1, by omega, by go_num, AH, Lib.hid (bt hbz.out hHeld.1)⟩
        case measure => simp [intOf]; omega
      · have q9 : decide (d < 0) = false := decide_eq_false hcn
        have AT : Hid (atM c x = i) := atM_is (by rw [HMO.out]; omega) hah.out (fun h => by rw [HAH.out]; exact q9)
        clear HAH
        go_wp2
        refine wp_region_held_drew (S := fun w' => Below wr.heap.size wr w' ∧ w'.cell? ⟨w.heap.size, 0, none⟩ = some (.int .u32 (t : Int)) ∧ w'.cell? ⟨w.heap.size, 1, none⟩ = some (.int .u8 (r : Int)) ∧ w'.cell? ⟨w.heap.size, 2, none⟩ = some (.slice uo nu uc) ∧ w'.cell? ⟨w.heap.size, 3, none⟩ = some (.int .i64 p) ∧ w'.cell? ⟨bb, oo + i * 4 + 2, none⟩ = some uy) (by kernel_rfl) (SK.out _ (drew1 _)) (fun hHeld => ?_)
        refine rN 0 ?_
        refine rN 1 ?_
        refine rN 2 ?_
        refine rN 3 ?_
        refine rN 4 ?_
        refine rN 5 ?_
        refine rN 6 ?_
        refine rN 7 ?_
        refine rN 8 ?_
        refine rN 9 ?_
        refine rN 10 ?_
        refine rN 11 ?_
        refine wpAnyH_ready (rs := [12]) (by kernel_rfl) (by simp) ?_
        refine AllReadyH.cons rfl (fun K hK => ?_) ?ze12
        case ze12 => exact AllReadyH.nil
        go_simp
        refine (HE.out _ hHeld.1).mono ?_
        rintro e w9e12 ⟨rfl, b9⟩
        refine hK.out _ _ (SK.out _ (bt hHeld.1 b9)) (fun hNew => ?_)
        clear hHeld
        have hHeld := hNew
        clear hNew hK K
        refine rX ?_
        refine rN 13 ?_
        refine rN 14 ?_
        refine wpAnyH_done (by kernel_rfl) ?_ _
        have HHX := (⟨hHeld.2.1, hHeld.2.2.1, hHeld.2.2.2.1, hHeld.2.2.2.2.1⟩ : w9e12.cell? ⟨w.heap.size, 0, none⟩ = some (.int .u32 (t : Int)) ∧ w9e12.cell? ⟨w.heap.size, 1, none⟩ = some (.int .u8 (r : Int)) ∧ w9e12.cell? ⟨w.heap.size, 2, none⟩ = some (.slice uo nu uc) ∧ w9e12.cell? ⟨w.heap.size, 3, none⟩ = some (.int .i64 p))
        have BZ := Lib.hid (bt BW.out hHeld.1)
        obtain ⟨h0, h1, h2, h3⟩ : w9e12.cell? ⟨w.heap.size, 0, none⟩ = some (.int .u32 (t : Int)) ∧ w9e12.cell? ⟨w.heap.size, 1, none⟩ = some (.int .u8 (r : Int)) ∧ w9e12.cell? ⟨w.heap.size, 2, none⟩ = some (.slice uo nu uc) ∧ w9e12.cell? ⟨w.heap.size, 3, none⟩ = some (.int .i64 p) := HHX
        generalize w9e12 = WB at BZ h0 h1 h2 h3 ⊢
        have FX : Hid (∀ W : World, Below WB.heap.size WB W → W.cell? ⟨w.heap.size, 0, none⟩ = some (.int .u32 (t : Int)) ∧ W.cell? ⟨w.heap.size, 1, none⟩ = some (.int .u8 (r : Int)) ∧ W.cell? ⟨w.heap.size, 2, none⟩ = some (.slice uo nu uc) ∧ W.cell? ⟨w.heap.size, 3, none⟩ = some (.int .i64 p)) := fun W h => by
          have hlt := World.block_lt_of_cell? _ _ h0
          exact ⟨(h.cell (p := ⟨w.heap.size, 0, none⟩) hlt).trans h0, (h.cell (p := ⟨w.heap.size, 1, none⟩) hlt).trans h1, (h.cell (p := ⟨w.heap.size, 2, none⟩) hlt).trans h2, (h.cell (p := ⟨w.heap.size, 3, none⟩) hlt).trans h3⟩
        clear hHeld BW hbz hah z0 z1 z2 z3 h0 h1 h2 h3 HE0 SK
        rcases HNE.out i him with ⟨e1, -, -⟩ | ⟨ab, aof, a', e1, hif, hpart⟩
        · cases e1
        have PT := Lib.hid hpart
        cases e1
        clear hpart
        rw [if_neg (by omega)] at hif
        cases hif
        have HN1 : Hid (i = ([] : List Opn).length + (c.take i).length) := by unfold Hid; rw [List.length_nil, List.length_take]; have := HMO.out; omega
        have HN2 : Hid (i = (c.take i).length) := by unfold Hid; rw [List.length_take]; have := HMO.out; omega
        have HN3 : Hid (m + 1 = (c.take i ++ [x]).length + (c.drop i).length) := by unfold Hid; rw [List.length_append, List.length_take, List.length_drop, List.length_singleton]; have := HMO.out; omega
        have HTK : Hid (Seq (fixE (fixE elmE w) WB) WB (.slice (some ⟨bb, oo, none⟩) i cap) (c.take i)) := (seq_fix (seq_fix HV.out BZ.out) (Below.refl _ _)).take (m := i) (by have := HMO.out; omega)
        go_wp2_with (at_builtin; refine wpList_append_shr (E := fixE elmE w) Tryz.underlying48 elm_info rfl (w0 := WB) (by rfl) (.tmp 24) (.tmp 27) (by rfl) (by rfl) (Shr.nil _ _ _ _) (by rfl) HTK.out HN1.out (by omega) (by omega) (Nat.le_refl _) ?_)
        rintro v6 w6 s6 a6 c6 rfl b6
        have S6 := Lib.hid s6
        have W6 := Lib.hid b6
        obtain ⟨h0, h1, h2, h3⟩ := FX.out _ b6
        clear s6 b6 HTK
        go_wp2_with (at_builtin; refine wpList_append_enc (E := fixE elmE w) Tryz.underlying48 elm_info rfl (w0 := WB) (wp := w6) (by rfl) (.tmp 29) (.tmp 31) (by rfl) (by rfl) S6.out (G := w6.heap.size) (by rfl) rfl (c := #[.int .u32 (t : Int), .int .u8 (r : Int), .slice uo nu uc, .int .i64 p]) INN0.out HN2.out (by omega) (by omega) W6.out.size ?_)
        rintro v7 w7 s7 a7 c7 rfl b7
        have S7 := Lib.hid s7
        have W7 := Lib.hid (W6.out.trans b7)
        clear s7 b7 S6 W6 h0 h1 h2 h3
        have P7 : Hid (Seq (fixE (fixE elmE w) WB) w7 (.slice (some ⟨bb, oo + i * 4, none⟩) (m - i) (cap - i)) (c.drop i)) := (seq_fix (seq_fix PT.out BZ.out) (Below.refl _ _)).keeps W7.out
        go_wp2_with (at_builtin; refine wpList_append_shr (E := fixE elmE w) Tryz.underlying48 elm_info rfl (w0 := WB) (by rfl) (.tmp 33) (.tmp 36) (by rfl) (by rfl) S7.out (by rfl) P7.out HN3.out (by omega) (by omega) W7.out.size ?_)
        rintro v8 w8 s8 a8 c8 rfl b8
        have B8 := Lib.hid (bt BZ.out (W7.out.trans b8))
        have O8 : Hid (ElL w8 (.slice a8 (m + 1) c8) (insM c x)) := by
          unfold Hid
          have h9 : Shr (fixE elmE w) 53 WB w8 (.slice a8 (m + 1) c8) (insM c x) := by
            unfold insM
            rw [AT.out]
            simpa using s8
          obtain ⟨cs, k1, k2⟩ := h9
          exact ⟨cs, Sees.own k1, Enc.rows_keep (bt BZ.out (W7.out.trans b8)) (fix_rows.1 k2)⟩
        clear s8 b8 S7 P7
        go_wp2
        go_ret
        exact ⟨_, rfl, O8.out, B8.out⟩
    · have q6 : decide ((i : Int) < (m : Int)) = false := decide_eq_false (by omega)
      have q7 : decide (i < m) = false := decide_eq_false (by omega)
      have AT : Hid (atM c x = i) := atM_is (by rw [HMO.out]; omega) hah.out (fun h => by have := HMO.out; omega)
      have hlt9 := World.block_lt_of_cell? _ _ z0
      have SK : Hid (∀ w' : World, Below wr.heap.size wr w' → Below wr.heap.size wr w' ∧ w'.cell? ⟨w.heap.size, 0, none⟩ = some (.int .u32 (t : Int)) ∧ w'.cell? ⟨w.heap.size, 1, none⟩ = some (.int .u8 (r : Int)) ∧ w'.cell? ⟨w.heap.size, 2, none⟩ = some (.slice uo nu uc) ∧ w'.cell? ⟨w.heap.size, 3, none⟩ = some (.int .i64 p)) := fun W h => ⟨h, (h.cell (p := ⟨w.heap.size, 0, none⟩) hlt9).trans z0, (h.cell (p := ⟨w.heap.size, 1, none⟩) hlt9).trans z1, (h.cell (p := ⟨w.heap.size, 2, none⟩) hlt9).trans z2, (h.cell (p := ⟨w.heap.size, 3, none⟩) hlt9).trans z3⟩
      clear hlt9
      go_wp2
      refine wp_region_held_drew (S := fun w' => Below wr.heap.size wr w' ∧ w'.cell? ⟨w.heap.size, 0, none⟩ = some (.int .u32 (t : Int)) ∧ w'.cell? ⟨w.heap.size, 1, none⟩ = some (.int .u8 (r : Int)) ∧ w'.cell? ⟨w.heap.size, 2, none⟩ = some (.slice uo nu uc) ∧ w'.cell? ⟨w.heap.size, 3, none⟩ = some (.int .i64 p)) (by kernel_rfl) (SK.out _ (drew1 _)) (fun hHeld => ?_)
      refine rN 0 ?_
      refine rN 1 ?_
      refine rN 2 ?_
      refine rN 3 ?_
      refine rN 4 ?_
      refine rV 5 ?_
      refine rV 6 ?_
      refine rV 7 ?_
      refine rV 8 ?_
      refine rV 9 ?_
      refine rV 10 ?_
      refine rV 11 ?_
      refine rV 12 ?_
      refine rV 13 ?_
      refine rN 14 ?_
      refine wpAnyH_done (by kernel_rfl) ?_ _
      have BZ := Lib.hid (bt BW.out hHeld.1)
      obtain ⟨h0, h1, h2, h3⟩ : wr.drew.cell? ⟨w.heap.size, 0, none⟩ = some (.int .u32 (t : Int)) ∧ wr.drew.cell? ⟨w.heap.size, 1, none⟩ = some (.int .u8 (r : Int)) ∧ wr.drew.cell? ⟨w.heap.size, 2, none⟩ = some (.slice uo nu uc) ∧ wr.drew.cell? ⟨w.heap.size, 3, none⟩ = some (.int .i64 p) := hHeld.2
      generalize wr.drew = WB at BZ h0 h1 h2 h3 ⊢
      have FX : Hid (∀ W : World, Below WB.heap.size WB W → W.cell? ⟨w.heap.size, 0, none⟩ = some (.int .u32 (t : Int)) ∧ W.cell? ⟨w.heap.size, 1, none⟩ = some (.int .u8 (r : Int)) ∧ W.cell? ⟨w.heap.size, 2, none⟩ = some (.slice uo nu uc) ∧ W.cell? ⟨w.heap.size, 3, none⟩ = some (.int .i64 p)) := fun W h => by
        have hlt := World.block_lt_of_cell? _ _ h0
        exact ⟨(h.cell (p := ⟨w.heap.size, 0, none⟩) hlt).trans h0, (h.cell (p := ⟨w.heap.size, 1, none⟩) hlt).trans h1, (h.cell (p := ⟨w.heap.size, 2, none⟩) hlt).trans h2, (h.cell (p := ⟨w.heap.size, 3, none⟩) hlt).trans h3⟩
      clear hHeld BW hbz hah z0 z1 z2 z3 h0 h1 h2 h3 HE0 SK
      rcases HNE.out i him with ⟨e1, e2, e3⟩ | ⟨ab, aof, a', e1, hif, hpart⟩
      · subst e1 e2 e3
        obtain rfl : m = 0 := by rw [← HMO.out]; rfl
        obtain rfl : i = 0 := by omega
        have HN1 : Hid (0 = ([] : List Opn).length + (([] : List Opn).take 0).length) := by unfold Hid; rw [List.length_nil, List.length_take]; rfl
        have HN2 : Hid (0 = (([] : List Opn).take 0).length) := by unfold Hid; rw [List.length_take]; rfl
        have HN3 : Hid (0 + 1 = (([] : List Opn).take 0 ++ [x]).length + (([] : List Opn).drop 0).length) := by unfold Hid; rw [List.length_append, List.length_take, List.length_drop, List.length_singleton]; rfl
        have HTK : Hid (Seq (fixE (fixE elmE w) WB) WB (.slice none 0 0) (([] : List Opn).take 0)) := Seq.nil _ _
        go_wp2_with (at_builtin; refine wpList_append_shr (E := fixE elmE w) Tryz.underlying48 elm_info rfl (w0 := WB) (by rfl) (.tmp 24) (.tmp 27) (by rfl) (by rfl) (Shr.nil _ _ _ _) (by rfl) HTK.out HN1.out (by omega) (by omega) (Nat.le_refl _) ?_)
        rintro v6 w6 s6 a6 c6 rfl b6
        have S6 := Lib.hid s6
        have W6 := Lib.hid b6
        obtain ⟨h0, h1, h2, h3⟩ := FX.out _ b6
        clear s6 b6 HTK
        go_wp2_with (at_builtin; refine wpList_append_enc (E := fixE elmE w) Tryz.underlying48 elm_info rfl (w0 := WB) (wp := w6) (by rfl) (.tmp 29) (.tmp 31) (by rfl) (by rfl) S6.out (G := w6.heap.size) (by rfl) rfl (c := #[.int .u32 (t : Int), .int .u8 (r : Int), .slice uo nu uc, .int .i64 p]) INN0.out HN2.out (by omega) (by omega) W6.out.size ?_)
        rintro v7 w7 s7 a7 c7 rfl b7
        have S7 := Lib.hid s7
        have W7 := Lib.hid (W6.out.trans b7)
        clear s7 b7 S6 W6 h0 h1 h2 h3
        have P7 : Hid (Seq (fixE (fixE elmE w) WB) w7 (.slice none 0 0) ([] : List Opn)) := Seq.nil _ _
        go_wp2_with (at_builtin; refine wpList_append_shr (E := fixE elmE w) Tryz.underlying48 elm_info rfl (w0 := WB) (by rfl) (.tmp 33) (.tmp 36) (by rfl) (by rfl) S7.out (by rfl) P7.out HN3.out (by omega) (by omega) W7.out.size ?_)
        rintro v8 w8 s8 a8 c8 rfl b8
        have B8 := Lib.hid (bt BZ.out (W7.out.trans b8))
        have O8 : Hid (ElL w8 (.slice a8 (0 + 1) c8) (insM ([] : List Opn) x)) := by
          unfold Hid
          have h9 : Shr (fixE elmE w) 53 WB w8 (.slice a8 (0 + 1) c8) (insM ([] : List Opn) x) := by
            unfold insM
            rw [AT.out]
            simpa using s8
          obtain ⟨cs, k1, k2⟩ := h9
          exact ⟨cs, Sees.own k1, Enc.rows_keep (bt BZ.out (W7.out.trans b8)) (fix_rows.1 k2)⟩
        clear s8 b8 S7 P7
        go_wp2
        go_ret
        exact ⟨_, rfl, O8.out, B8.out⟩
      have PT := Lib.hid hpart
      try dsimp only at hif
      subst e1
      clear hpart
      have HN1 : Hid (i = ([] : List Opn).length + (c.take i).length) := by unfold Hid; rw [List.length_nil, List.length_take]; have := HMO.out; omega
      have HN2 : Hid (i = (c.take i).length) := by unfold Hid; rw [List.length_take]; have := HMO.out; omega
      have HN3 : Hid (m + 1 = (c.take i ++ [x]).length + (c.drop i).length) := by unfold Hid; rw [List.length_append, List.length_take, List.length_drop, List.length_singleton]; have := HMO.out; omega
      have HTK : Hid (Seq (fixE (fixE elmE w) WB) WB (.slice (some ⟨ab, aof, none⟩) i cap) (c.take i)) := (seq_fix (seq_fix HV.out BZ.out) (Below.refl _ _)).take (m := i) (by have := HMO.out; omega)
      go_wp2_with (at_builtin; refine wpList_append_shr (E := fixE elmE w) Tryz.underlying48 elm_info rfl (w0 := WB) (by rfl) (.tmp 24) (.tmp 27) (by rfl) (by rfl) (Shr.nil _ _ _ _) (by rfl) HTK.out HN1.out (by omega) (by omega) (Nat.le_refl _) ?_)
      rintro v6 w6 s6 a6 c6 rfl b6
      have S6 := Lib.hid s6
      have W6 := Lib.hid b6
      obtain ⟨h0, h1, h2, h3⟩ := FX.out _ b6
      clear s6 b6 HTK
      go_wp2_with (at_builtin; refine wpList_append_enc (E := fixE elmE w) Tryz.underlying48 elm_info rfl (w0 := WB) (wp := w6) (by rfl) (.tmp 29) (.tmp 31) (by rfl) (by rfl) S6.out (G := w6.heap.size) (by rfl) rfl (c := #[.int .u32 (t : Int), .int .u8 (r : Int), .slice uo nu uc, .int .i64 p]) INN0.out HN2.out (by omega) (by omega) W6.out.size ?_)
      rintro v7 w7 s7 a7 c7 rfl b7
      have S7 := Lib.hid s7
      have W7 := Lib.hid (W6.out.trans b7)
      clear s7 b7 S6 W6 h0 h1 h2 h3
      have P7 : Hid (Seq (fixE (fixE elmE w) WB) w7 (.slice (some a') (m - i) (cap - i)) (c.drop i)) := (seq_fix (seq_fix PT.out BZ.out) (Below.refl _ _)).keeps W7.out
      go_wp2_with (at_builtin; refine wpList_append_shr (E := fixE elmE w) Tryz.underlying48 elm_info rfl (w0 := WB) (by rfl) (.tmp 33) (.tmp 36) (by rfl) (by rfl) S7.out (by rfl) P7.out HN3.out (by omega) (by omega) W7.out.size ?_)
      rintro v8 w8 s8 a8 c8 rfl b8
      have B8 := Lib.hid (bt BZ.out (W7.out.trans b8))
      have O8 : Hid (ElL w8 (.slice a8 (m + 1) c8) (insM c x)) := by
        unfold Hid
        have h9 : Shr (fixE elmE w) 53 WB w8 (.slice a8 (m + 1) c8) (insM c x) := by
          unfold insM
          rw [AT.out]
          simpa using s8
        obtain ⟨cs, k1, k2⟩ := h9
        exact ⟨cs, Sees.own k1, Enc.rows_keep (bt BZ.out (W7.out.trans b8)) (fix_rows.1 k2)⟩
      clear s8 b8 S7 P7
      go_wp2
      go_ret
      exact ⟨_, rfl, O8.out, B8.out⟩
end Go.Proofs.YtmiepnnpccpicaaGreat.Views
