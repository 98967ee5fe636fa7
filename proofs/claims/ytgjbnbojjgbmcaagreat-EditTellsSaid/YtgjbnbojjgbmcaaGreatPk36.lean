/- Slices whose elements hold slices of an elder world; append of a whole part to a row of one's own; what is left behind a cut. Conditions: none. Elements in cells. Conditions: none. octavoref15.put: what it answers. Conditions: elements whose places may be, none or in a row. octavoref09.Target, octavoref12.Ended, Joined, Directory: what each answers. Conditions: of Target and Ended: operations that may be. octavoref15.gone: what it answers. Conditions: operations that may be. -/
import Derived.Test.YtgjbnbojjgbmcaaGreatChecked
import Derived.WalkKit
import Derived.WalkSpells
import Derived.WalkLawsBesides
import Derived.Laws.BytesArg
import Derived.Lib.Hide
import Derived.Deep.LoopGhost
import Derived.Laws.AppendOwnNone
import Derived.Laws.OwnMore
import Derived.WideShapes
import Derived.Maps.AppendAt
import Derived.RegionTactic
import Derived.Deep.RegionHeld3
import Derived.Deep.DrawnRows
import Derived.Deep.QuietTactic
import Derived.BigQuiet
import Derived.IntWalk
import Derived.Deep.DeepCutAuto
import Derived.ScopeJumps
import Derived.Test.YtgjbnbojjgbmcaaGreatProg
import Derived.LoopTactic
import Derived.Laws.EntriesVeiled
import Derived.RowKit
import Derived.Lib.DecodeN
import Derived.Lib.RuneBytes
import Derived.Test.YtgjbnbojjgbmcaaGreatRw
import Derived.Test.YtgjbnbojjgbmcaaGreatPk19
import Derived.Test.YtgjbnbojjgbmcaaGreatPk35
import Derived.Test.YtgjbnbojjgbmcaaGreatPk04
import Derived.Test.YtgjbnbojjgbmcaaGreatPk34
import Derived.Test.YtgjbnbojjgbmcaaGreatPk03
import Derived.Test.YtgjbnbojjgbmcaaGreatPk02
import Derived.Test.YtgjbnbojjgbmcaaGreatPk01
import Derived.Test.YtgjbnbojjgbmcaaGreatPk33
import Derived.Test.YtgjbnbojjgbmcaaGreatPk15
import Derived.Test.YtgjbnbojjgbmcaaGreatPk20
import Derived.Test.YtgjbnbojjgbmcaaGreatPk21
import Derived.Test.YtgjbnbojjgbmcaaGreatPk06
import Derived.Test.YtgjbnbojjgbmcaaGreatPk05

namespace Go.Proofs.YtgjbnbojjgbmcaaGreat
open Go.RowKit Go.WideShapes
/-- Elements whose slices lie in an elder world. -/
def fixE {α : Type} (E : Enc α) (w0 : World) : Enc α := ⟨E.sz, E.pos, fun _ cs a => E.inn w0 cs a, E.len, E.one, fun _ h => h⟩
theorem fix_rows {α : Type} {E : Enc α} {w0 w : World} : ∀ {cs : List Value} {l : List α}, (fixE E w0).rows w cs l ↔ E.rows w0 cs l
  | _, [] => Iff.rfl
  | _, _ :: _ => ⟨fun ⟨c, d, h1, h2, h3⟩ => ⟨c, d, h1, h2, fix_rows.1 h3⟩, fun ⟨c, d, h1, h2, h3⟩ => ⟨c, d, h1, h2, fix_rows.2 h3⟩⟩
theorem shr_fix {α : Type} {E : Enc α} {te : TypeId} {w0 w : World} {v : Value} {l : List α} (h : Shr E te w0 w v l) : Seq (fixE E w0) w v l := by
  obtain ⟨cs, h1, h2⟩ := h
  exact ⟨cs, Sees.own h1, fix_rows.2 h2⟩
theorem wpList_append_shr {α : Type} {E : Enc α} {ts te : TypeId} (ht : Tryz.prog.underlying ts = some (.slice te)) {z : Value} {bytes : Nat}
    (hi : (Tryz.prog.info? te).map (fun i => (i.zero, i.size, i.bytes)) = some (some z, E.sz, bytes)) (hzs : z.cells.size = E.sz)
    {w0 wp : World} {ops : Array Oper} {rest : List Oper} {o : Oper} {a : Act} {Q : Exit → Act → World → Prop} (hgd : o.guard = none) (s x : Operand)
    (ho : o.op = .call { callee := .builtin .append, args := #[s, x], argTypes := #[ts, ts] }) {v u : Value} {L M : List α} (hs : a.eval s = v) (hv : Shr E te w0 wp v L)
    (hx : a.eval x = u) (hu : Seq (fixE E w0) wp u M) {n : Nat} (hn : n = L.length + M.length) (h47 : n * bytes ≤ 140737488355328) (h63 : n ≤ 140737488355328) (hbase : w0.heap.size ≤ wp.heap.size)
    (h : ∀ v' w', Shr E te w0 w' v' (L ++ M) → (∃ ao cap, v' = .slice ao n cap) → Below w0.heap.size wp w' → wpList Tryz.prog ops Q rest (a.put o.dst v') w') :
    wpList Tryz.prog ops Q (o :: rest) a wp := by
  subst hn
  obtain ⟨cs, h1, h2⟩ := hv
  obtain ⟨xs, h3, h4⟩ := hu
  refine wpList_append_sees hgd s x ts te ho ht hi hzs E.pos w0.heap.size v L.length cs hs h1 u M.length xs hx h3 (Enc.rows_one (fix_rows.1 h4)) h47 h63 hbase ?_
  intro v' w' o6 _ b6
  exact h v' w' ⟨cs ++ xs, by rw [List.length_append]; exact o6, Enc.rows_append h2 (fix_rows.1 h4)⟩ (Sees.shape (Sees.own o6)) b6
theorem part_none {α : Type} (E : Enc α) (w : World) {ao : Option Addr} {cap : Nat} (hc : cap ≤ 9223372036854775807) (h : ao = none → cap = 0) : Seq E w (.slice ao 0 cap) [] :=
  ⟨[], ⟨by simp, ao, cap, rfl, by simp, hc, h, .inl rfl⟩, rfl⟩
theorem seq_fix {α : Type} {E : Enc α} {w0 w : World} {v : Value} {l : List α} (h : Seq E w0 v l) (hb : Below w0.heap.size w0 w) : Seq (fixE E w0) w v l := by
  obtain ⟨cs, h1, h2⟩ := h
  exact ⟨cs, h1.keeps hb, fix_rows.2 h2⟩
open Go.Proofs.YtgjbnbojjgbmcaaGreat.Place Ops Codes Bags
theorem shr_unfix {w0 WB w : World} {v : Value} {l : List Opn} (h : Shr (fixE opE w0) 38 WB w v l) (hb : w0.heap.size ≤ WB.heap.size) : ShrO w0 w v l := by
  obtain ⟨cs, h1, h2⟩ := h
  exact ⟨cs, op_base h1 hb, fix_rows.1 h2⟩
theorem shr_drop {w0 w : World} {ao : Option Addr} {m cap i : Nat} {l : List Opn} (h : ShrO w0 w (.slice ao m cap) l) (hi : i ≤ m) :
    (ao = none ∧ cap = 0 ∧ m = 0 ∧ l = []) ∨ ∃ ab aof a', ao = some ⟨ab, aof, none⟩ ∧ (if cap = i then (some ⟨ab, aof, none⟩ : Option Addr) else some ⟨ab, aof + i * 5, none⟩) = some a' ∧ Seq (fixE opE w0) w (.slice (some a') (m - i) (cap - i)) (l.drop i) := by
  have hs := shr_fix h
  have hc := hs.cap
  by_cases hl : l = []
  · subst hl
    have hm : m = 0 := hc.1
    subst hm
    obtain rfl : i = 0 := by omega
    cases ao with
    | none => exact .inl ⟨rfl, hc.2.2.2 rfl, rfl, rfl⟩
    | some a =>
      obtain ⟨g, rfl⟩ : ∃ g, a = ⟨g, 0, none⟩ := by
        obtain ⟨cs, h1, _⟩ := h
        rcases h1.2 with h0 | ⟨g, c9, cur, he, _⟩
        · have := h0.1; cases this
        · cases he; exact ⟨g, rfl⟩
      refine .inr ⟨g, 0, if cap = 0 then ⟨g, 0, none⟩ else ⟨g, 0 + 0 * 5, none⟩, rfl, by split <;> rfl, ?_⟩
      exact part_none _ _ hc.2.2.1 (fun h => by cases h)
  · obtain ⟨b, off, o', rfl, hif, hpart⟩ := part_drop hs hi hl
    exact .inr ⟨_, _, _, rfl, hif, hpart⟩
end Go.Proofs.YtgjbnbojjgbmcaaGreat

namespace Go.Proofs.YtgjbnbojjgbmcaaGreat.Views
open Go.RowKit Go.WideShapes Stamp Go.Proofs.YtgjbnbojjgbmcaaGreat.Place Ops Codes Bags Marks Homes Covers
attribute [local go_sem ↓] Go.wp_at_zero Go.wp_at_succ
attribute [local go_sem] yielded_undef
theorem refHeldE_any {a b : Value} {x y : Opn} {w : World} (ha : Runs w a x.pl) (hb : Runs w b y.pl) (hx : mayO x = true) (hy : mayO y = true) :
    Calls Tryz.prog 129 #[a, b] w fun e w' => e = .returned (.int .i64 (cmp x.pl y.pl)) ∧ Below w.heap.size w w' := by
  have m1 := (mayB_iff _).1 (mayO_parts hx).2.1
  have m2 := (mayB_iff _).1 (mayO_parts hy).2.1
  have e : cmp x.pl y.pl = Go.Proofs.YtgjbnbojjgbmcaaGreat.Place.hold (all x.pl) (all y.pl) := by unfold cmp; rw [if_pos ⟨anyB_may (mayO_parts hx).2.1, anyB_may (mayO_parts hy).2.1⟩]
  rw [e]
  exact held_any ha hb m1.2.2.1 m2.2.2.1 (Nat.le_trans m1.2.1 (by decide)) (Nat.le_trans m2.2.1 (by decide))
end Go.Proofs.YtgjbnbojjgbmcaaGreat.Views

namespace Go.Proofs.YtgjbnbojjgbmcaaGreat.Views
open Go.RowKit Go.WideShapes Stamp Go.Proofs.YtgjbnbojjgbmcaaGreat.Place Ops Codes Bags Marks Homes Covers
attribute [local go_sem ↓] Go.wp_at_zero Go.wp_at_succ
attribute [local go_sem] yielded_undef
/-- No elements, and no memory; or some. -/
def NonE (v : Value) (c : List Opn) : Prop := v = .slice none 0 0 ∨ c ≠ []
set_option maxRecDepth 100000 in
set_option maxHeartbeats 16000000 in
theorem refPut_any {v u : Value} {c : List Opn} {x : Opn} {w : World} (hv : ElL w v c) (hne : NonE v c) (hu : Runs w u x.pl) (hm : ∀ o ∈ c, mayO o = true) (hx : mayO x = true) (hl : c.length ≤ 1000000) :
    Calls Tryz.prog 131 #[v, elv x u] w fun e w' => ∃ v', e = .returned v' ∧ ElL w' v' (insM c x) ∧ Below w.heap.size w w' := by
  obtain ⟨ao, cap, rfl⟩ := hv.shape
  obtain ⟨uo, uc, rfl⟩ := hu.shape
  have HE0 : Hid (∀ (y : Opn) (z : Value) (W : World), y ∈ c → Runs w z y.pl → Below w.heap.size w W → Calls Tryz.prog 129 #[z, .slice uo x.pl.length uc] W fun e w' => e = .returned (.int .i64 (cmp y.pl x.pl)) ∧ Below W.heap.size W w') := fun y z W hy hz h => refHeldE_any (hz.keeps h) (hu.keeps h) (hm y hy) hx
  have HV := Lib.hid hv
  have INN0 : Hid (elmE.inn w [.int .u32 (x.t : Int), .int .u8 (x.r : Int), .slice uo x.pl.length uc, .int .i64 x.p] x) := ⟨_, rfl, hu⟩
  have HNE : Hid (∀ i, i ≤ c.length → (ao = none ∧ cap = 0 ∧ c = []) ∨ ∃ ab aof a', ao = some ⟨ab, aof, none⟩ ∧ (if cap = i then (some ⟨ab, aof, none⟩ : Option Addr) else some ⟨ab, aof + i * 4, none⟩) = some a' ∧ ElL w (.slice (some a') (c.length - i) (cap - i)) (c.drop i)) := fun i hi => by
    by_cases hc : c = []
    · rcases hne with h | h
      · obtain ⟨e1, -, e3⟩ := Value.slice.inj h
        exact .inl ⟨e1, e3, hc⟩
      · exact absurd hc h
    · obtain ⟨b, off, o', h1, h2, h3⟩ := part_drop hv hi hc
      exact .inr ⟨b, off, _, h1, h2, h3⟩
  have hcap := hv.cap
  obtain ⟨m, hmo⟩ : ∃ m, c.length = m := ⟨_, rfl⟩
  obtain ⟨nu, hnu⟩ : ∃ n, x.pl.length = n := ⟨_, rfl⟩
  rw [hmo] at HV hl HNE hcap ⊢
  rw [hnu] at HE0 INN0 ⊢
  have hcm : m ≤ cap := hcap.2.1
  have HMO := Lib.hid hmo
  unfold elv
  obtain ⟨t, ht⟩ : ∃ z, x.t = z := ⟨_, rfl⟩
  obtain ⟨r, hr⟩ : ∃ z, x.r = z := ⟨_, rfl⟩
  obtain ⟨p, hp⟩ : ∃ z, x.p = z := ⟨_, rfl⟩
  rw [ht, hr, hp] at INN0 ⊢
  obtain ⟨wl, hwl⟩ : ∃ z, z = w.alloc (.cells #[.int .u32 (t : Int), .int .u8 (r : Int), .slice uo nu uc, .int .i64 p] 91) := ⟨_, rfl⟩
  have B0 : Hid (Below w.heap.size w wl) := by rw [hwl]; exact (Below.refl _ _).alloc (Nat.le_refl _) _
  have X0 : Hid (wl.heap[w.heap.size]? = some (.cells #[.int .u32 (t : Int), .int .u8 (r : Int), .slice uo nu uc, .int .i64 p] 91)) := by rw [hwl]; exact blk_new rfl
  have HW := Lib.hid hwl
  clear hv hu hm hx hne hmo hnu ht hr hp hwl hcap
  go_enter Tryz.func131, Tryz.ntmps131
  go_wp2
  rw [← HW.out]
  go_loopw [5] (fun a wz => ∃ i : Nat, i ≤ m ∧ a = .int .i64 (i : Int) ∧ Hid (∀ k (h : k < c.length), k < i → Go.Proofs.YtgjbnbojjgbmcaaGreat.Marks.ahead (c[k]'h) x = true) ∧ Hid (Below wl.heap.size wl wz)) (fun a _ => m - (intOf a).toNat)
  case atStart => exact ⟨0, by omega, rfl, fun k h hk => by omega, Below.refl _ _⟩
  case round =>
    obtain ⟨i, him, rfl, hah, hbz⟩ := hrel
    have BW := Lib.hid (bt B0.out hbz.out)
    have k0 : i ≤ cap := by omega
    have k1 : (0 : Int) ≤ (i : Int) := by omega
    have k2 : (i : Int) ≤ (cap : Int) := by omega
    have k3 : (i : Int) ≤ (m : Int) := by omega
    obtain ⟨z0, z1, z2, z3⟩ := cells4 (blk_below hbz.out X0.out)
    by_cases hlt : i < m
    · have q6 : decide ((i : Int) < (m : Int)) = true := decide_eq_true (by omega)
      have q7 : decide (i < m) = true := decide_eq_true (by omega)
      have q8 : (i : Int) < (m : Int) := by omega
      have hil : i < c.length := by rw [HMO.out]; exact hlt
      obtain ⟨bb, oo, uy, ey, hbb, hruy, h0, h1, h2, h3⟩ := el_at HV.out i hil
      cases ey
      have HE : Hid (∀ W : World, Below wr.heap.size wr W → Calls Tryz.prog 129 #[uy, .slice uo nu uc] W fun e w' => e = .returned (.int .i64 (cmp (c[i]'hil).pl x.pl)) ∧ Below W.heap.size W w') := fun W h => HE0.out _ uy W (List.getElem_mem _) hruy (bt BW.out h)
      obtain ⟨d, hd⟩ : ∃ d, cmp (c[i]'hil).pl x.pl = d := ⟨_, rfl⟩
      rw [hd] at HE
      have HAH : Hid (Go.Proofs.YtgjbnbojjgbmcaaGreat.Marks.ahead (c[i]'hil) x = decide (d < 0)) := by unfold Hid Go.Proofs.YtgjbnbojjgbmcaaGreat.Marks.ahead; rw [hd]
      have f2 := (BW.out.cell (p := ⟨bb, oo + i * 4 + 2, none⟩) hbb).trans h2
      have fb := Nat.lt_of_lt_of_le hbb BW.out.size
      have hlt9 := World.block_lt_of_cell? _ _ z0
      have SK : Hid (∀ w' : World, Below wr.heap.size wr w' → Below wr.heap.size wr w' ∧ w'.cell? ⟨w.heap.size, 0, none⟩ = some (.int .u32 (t : Int)) ∧ w'.cell? ⟨w.heap.size, 1, none⟩ = some (.int .u8 (r : Int)) ∧ w'.cell? ⟨w.heap.size, 2, none⟩ = some (.slice uo nu uc) ∧ w'.cell? ⟨w.heap.size, 3, none⟩ = some (.int .i64 p) ∧ w'.cell? ⟨bb, oo + i * 4 + 2, none⟩ = some uy) := fun W h => ⟨h, (h.cell (p := ⟨w.heap.size, 0, none⟩) hlt9).trans z0, (h.cell (p := ⟨w.heap.size, 1, none⟩) hlt9).trans z1, (h.cell (p := ⟨w.heap.size, 2, none⟩) hlt9).trans z2, (h.cell (p := ⟨w.heap.size, 3, none⟩) hlt9).trans z3, (h.cell (p := ⟨bb, oo + i * 4 + 2, none⟩) fb).trans f2⟩
      clear hruy h0 h1 h2 h3 f2 fb hbb hd hlt9
      by_cases hcn : d < 0
      · have q9 : decide (d < 0) = true := decide_eq_true hcn
        have AH : Hid (∀ k (h : k < c.length), k < i + 1 → Go.Proofs.YtgjbnbojjgbmcaaGreat.Marks.ahead (c[k]'h) x = true) := fun k h hk => by
          by_cases e : k = i
          · subst e; rw [HAH.out]; exact q9
          · exact hah.out k h (by omega)
        clear HAH hah
        go_wp2
        refine wp_region_held_drew (S := fun w' => Below wr.heap.size wr w' ∧ w'.cell? ⟨w.heap.size, 0, none⟩ = some (.int .u32 (t : Int)) ∧ w'.cell? ⟨w.heap.size, 1, none⟩ = some (.int .u8 (r : Int)) ∧ w'.cell? ⟨w.heap.size, 2, none⟩ = some (.slice uo nu uc) ∧ w'.cell? ⟨w.heap.size, 3, none⟩ = some (.int .i64 p) ∧ w'.cell? ⟨bb, oo + i * 4 + 2, none⟩ = some uy) (by kernel_rfl) (SK.out _ (drew1 _)) (fun hHeld => ?_)
        refine rN 0 ?_
        refine rN 1 ?_
        refine rN 2 ?_
        refine rN 3 ?_
        refine rN 4 ?_
        refine rN 5 ?_
        refine rN 6 ?_
        refine rN 7 ?_
        refine rN 8 ?_
        refine rN 9 ?_
        refine rN 10 ?_
        refine rN 11 ?_
        refine wpAnyH_ready (rs := [12]) (by kernel_rfl) (by simp) ?_
        refine AllReadyH.cons rfl (fun K hK => ?_) ?zd12
        case zd12 => exact AllReadyH.nil
        go_simp
        refine (HE.out _ hHeld.1).mono ?_
        rintro e w9d12 ⟨rfl, b9⟩
        refine hK.out _ _ (SK.out _ (bt hHeld.1 b9)) (fun hNew => ?_)
        clear hHeld
        have hHeld := hNew
        clear hNew hK K
        refine rX ?_
        refine rN 13 ?_
        refine rN 14 ?_
        refine wpAnyH_done (by kernel_rfl) ?_ _
        go_wp2
        go_roundw
        case rel => exact ⟨i + 1, by omega, by go_num, AH, Lib.hid (bt hbz.out hHeld.1)⟩
        case measure => simp [intOf]; omega
      · have q9 : decide (d < 0) = false := decide_eq_false hcn
        have AT : Hid (atM c x = i) := atM_is (by rw [HMO.out]; omega) hah.out (fun h => by rw [HAH.out]; exact q9)
        clear HAH
        go_wp2
        refine wp_region_held_drew (S := fun w' => Below wr.heap.size wr w' ∧ w'.cell? ⟨w.heap.size, 0, none⟩ = some (.int .u32 (t : Int)) ∧ w'.cell? ⟨w.heap.size, 1, none⟩ = some (.int .u8 (r : Int)) ∧ w'.cell? ⟨w.heap.size, 2, none⟩ = some (.slice uo nu uc) ∧ w'.cell? ⟨w.heap.size, 3, none⟩ = some (.int .i64 p) ∧ w'.cell? ⟨bb, oo + i * 4 + 2, none⟩ = some uy) (by kernel_rfl) (SK.out _ (drew1 _)) (fun hHeld => ?_)
        refine rN 0 ?_
        refine rN 1 ?_
        refine rN 2 ?_
        refine rN 3 ?_
        refine rN 4 ?_
        refine rN 5 ?_
        refine rN 6 ?_
        refine rN 7 ?_
        refine rN 8 ?_
        refine rN 9 ?_
        refine rN 10 ?_
        refine rN 11 ?_
        refine wpAnyH_ready (rs := [12]) (by kernel_rfl) (by simp) ?_
        refine AllReadyH.cons rfl (fun K hK => ?_) ?ze12
        case ze12 => exact AllReadyH.nil
        go_simp
        refine (HE.out _ hHeld.1).mono ?_
        rintro e w9e12 ⟨rfl, b9⟩
        refine hK.out _ _ (SK.out _ (bt hHeld.1 b9)) (fun hNew => ?_)
        clear hHeld
        have hHeld := hNew
        clear hNew hK K
        refine rX ?_
        refine rN 13 ?_
        refine rN 14 ?_
        refine wpAnyH_done (by kernel_rfl) ?_ _
        have HHX := (⟨hHeld.2.1, hHeld.2.2.1, hHeld.2.2.2.1, hHeld.2.2.2.2.1⟩ : w9e12.cell? ⟨w.heap.size, 0, none⟩ = some (.int .u32 (t : Int)) ∧ w9e12.cell? ⟨w.heap.size, 1, none⟩ = some (.int .u8 (r : Int)) ∧ w9e12.cell? ⟨w.heap.size, 2, none⟩ = some (.slice uo nu uc) ∧ w9e12.cell? ⟨w.heap.size, 3, none⟩ = some (.int .i64 p))
        have BZ := Lib.hid (bt BW.out hHeld.1)
        obtain ⟨h0, h1, h2, h3⟩ : w9e12.cell? ⟨w.heap.size, 0, none⟩ = some (.int .u32 (t : Int)) ∧ w9e12.cell? ⟨w.heap.size, 1, none⟩ = some (.int .u8 (r : Int)) ∧ w9e12.cell? ⟨w.heap.size, 2, none⟩ = some (.slice uo nu uc) ∧ w9e12.cell? ⟨w.heap.size, 3, none⟩ = some (.int .i64 p) := HHX
        generalize w9e12 = WB at BZ h0 h1 h2 h3 ⊢
        have FX : Hid (∀ W : World, Below WB.heap.size WB W → W.cell? ⟨w.heap.size, 0, none⟩ = some (.int .u32 (t : Int)) ∧ W.cell? ⟨w.heap.size, 1, none⟩ = some (.int .u8 (r : Int)) ∧ W.cell? ⟨w.heap.size, 2, none⟩ = some (.slice uo nu uc) ∧ W.cell? ⟨w.heap.size, 3, none⟩ = some (.int .i64 p)) := fun W h => by
          have hlt := World.block_lt_of_cell? _ _ h0
          exact ⟨(h.cell (p := ⟨w.heap.size, 0, none⟩) hlt).trans h0, (h.cell (p := ⟨w.heap.size, 1, none⟩) hlt).trans h1, (h.cell (p := ⟨w.heap.size, 2, none⟩) hlt).trans h2, (h.cell (p := ⟨w.heap.size, 3, none⟩) hlt).trans h3⟩
        clear hHeld BW hbz hah z0 z1 z2 z3 h0 h1 h2 h3 HE0 SK
        rcases HNE.out i him with ⟨e1, -, -⟩ | ⟨ab, aof, a', e1, hif, hpart⟩
        · cases e1
        have PT := Lib.hid hpart
        cases e1
        clear hpart
        rw [if_neg (by omega)] at hif
        cases hif
        have HN1 : Hid (i = ([] : List Opn).length + (c.take i).length) := by unfold Hid; rw [List.length_nil, List.length_take]; have := HMO.out; omega
        have HN2 : Hid (i = (c.take i).length) := by unfold Hid; rw [List.length_take]; have := HMO.out; omega
        have HN3 : Hid (m + 1 = (c.take i ++ [x]).length + (c.drop i).length) := by unfold Hid; rw [List.length_append, List.length_take, List.length_drop, List.length_singleton]; have := HMO.out; omega
        have HTK : Hid (Seq (fixE (fixE elmE w) WB) WB (.slice (some ⟨bb, oo, none⟩) i cap) (c.take i)) := (seq_fix (seq_fix HV.out BZ.out) (Below.refl _ _)).take (m := i) (by have := HMO.out; omega)
        go_wp2_with (at_builtin; refine wpList_append_shr (E := fixE elmE w) Tryz.underlying52 elm_info rfl (w0 := WB) (by rfl) (.tmp 24) (.tmp 27) (by rfl) (by rfl) (Shr.nil _ _ _ _) (by rfl) HTK.out HN1.out (by omega) (by omega) (Nat.le_refl _) ?_)
        rintro v6 w6 s6 a6 c6 rfl b6
        have S6 := Lib.hid s6
        have W6 := Lib.hid b6
        obtain ⟨h0, h1, h2, h3⟩ := FX.out _ b6
        clear s6 b6 HTK
        go_wp2_with (at_builtin; refine wpList_append_enc (E := fixE elmE w) Tryz.underlying52 elm_info rfl (w0 := WB) (wp := w6) (by rfl) (.tmp 29) (.tmp 31) (by rfl) (by rfl) S6.out (G := w6.heap.size) (by rfl) rfl (c := #[.int .u32 (t : Int), .int .u8 (r : Int), .slice uo nu uc, .int .i64 p]) INN0.out HN2.out (by omega) (by omega) W6.out.size ?_)
        rintro v7 w7 s7 a7 c7 rfl b7
        have S7 := Lib.hid s7
        have W7 := Lib.hid (W6.out.trans b7)
        clear s7 b7 S6 W6 h0 h1 h2 h3
        have P7 : Hid (Seq (fixE (fixE elmE w) WB) w7 (.slice (some ⟨bb, oo + i * 4, none⟩) (m - i) (cap - i)) (c.drop i)) := (seq_fix (seq_fix PT.out BZ.out) (Below.refl _ _)).keeps W7.out
        go_wp2_with (at_builtin; refine wpList_append_shr (E := fixE elmE w) Tryz.underlying52 elm_info rfl (w0 := WB) (by rfl) (.tmp 33) (.tmp 36) (by rfl) (by rfl) S7.out (by rfl) P7.out HN3.out (by omega) (by omega) W7.out.size ?_)
        rintro v8 w8 s8 a8 c8 rfl b8
        have B8 := Lib.hid (bt BZ.out (W7.out.trans b8))
        have O8 : Hid (ElL w8 (.slice a8 (m + 1) c8) (insM c x)) := by
          unfold Hid
          have h9 : Shr (fixE elmE w) 91 WB w8 (.slice a8 (m + 1) c8) (insM c x) := by
            unfold insM
            rw [AT.out]
            simpa using s8
          obtain ⟨cs, k1, k2⟩ := h9
          exact ⟨cs, Sees.own k1, Enc.rows_keep (bt BZ.out (W7.out.trans b8)) (fix_rows.1 k2)⟩
        clear s8 b8 S7 P7
        go_wp2
        go_ret
        exact ⟨_, rfl, O8.out, B8.out⟩
    · have q6 : decide ((i : Int) < (m : Int)) = false := decide_eq_false (by omega)
      have q7 : decide (i < m) = false := decide_eq_false (by omega)
      have AT : Hid (atM c x = i) := atM_is (by rw [HMO.out]; omega) hah.out (fun h => by have := HMO.out; omega)
      have hlt9 := World.block_lt_of_cell? _ _ z0
      have SK : Hid (∀ w' : World, Below wr.heap.size wr w' → Below wr.heap.size wr w' ∧ w'.cell? ⟨w.heap.size, 0, none⟩ = some (.int .u32 (t : Int)) ∧ w'.cell? ⟨w.heap.size, 1, none⟩ = some (.int .u8 (r : Int)) ∧ w'.cell? ⟨w.heap.size, 2, none⟩ = some (.slice uo nu uc) ∧ w'.cell? ⟨w.heap.size, 3, none⟩ = some (.int .i64 p)) := fun W h => ⟨h, (h.cell (p := ⟨w.heap.size, 0, none⟩) hlt9).trans z0, (h.cell (p := ⟨w.heap.size, 1, none⟩) hlt9).trans z1, (h.cell (p := ⟨w.heap.size, 2, none⟩) hlt9).trans z2, (h.cell (p := ⟨w.heap.size, 3, none⟩) hlt9).trans z3⟩
      clear hlt9
      go_wp2
      refine wp_region_held_drew (S := fun w' => Below wr.heap.size wr w' ∧ w'.cell? ⟨w.heap.size, 0, none⟩ = some (.int .u32 (t : Int)) ∧ w'.cell? ⟨w.heap.size, 1, none⟩ = some (.int .u8 (r : Int)) ∧ w'.cell? ⟨w.heap.size, 2, none⟩ = some (.slice uo nu uc) ∧ w'.cell? ⟨w.heap.size, 3, none⟩ = some (.int .i64 p)) (by kernel_rfl) (SK.out _ (drew1 _)) (fun hHeld => ?_)
      refine rN 0 ?_
      refine rN 1 ?_
      refine rN 2 ?_
      refine rN 3 ?_
      refine rN 4 ?_
      refine rV 5 ?_
      refine rV 6 ?_
      refine rV 7 ?_
      refine rV 8 ?_
      refine rV 9 ?_
      refine rV 10 ?_
      refine rV 11 ?_
      refine rV 12 ?_
      refine rV 13 ?_
      refine rN 14 ?_
      refine wpAnyH_done (by kernel_rfl) ?_ _
      have BZ := Lib.hid (bt BW.out hHeld.1)
      obtain ⟨h0, h1, h2, h3⟩ : wr.drew.cell? ⟨w.heap.size, 0, none⟩ = some (.int .u32 (t : Int)) ∧ wr.drew.cell? ⟨w.heap.size, 1, none⟩ = some (.int .u8 (r : Int)) ∧ wr.drew.cell? ⟨w.heap.size, 2, none⟩ = some (.slice uo nu uc) ∧ wr.drew.cell? ⟨w.heap.size, 3, none⟩ = some (.int .i64 p) := hHeld.2
      generalize wr.drew = WB at BZ h0 h1 h2 h3 ⊢
      have FX : Hid (∀ W : World, Below WB.heap.size WB W → W.cell? ⟨w.heap.size, 0, none⟩ = some (.int .u32 (t : Int)) ∧ W.cell? ⟨w.heap.size, 1, none⟩ = some (.int .u8 (r : Int)) ∧ W.cell? ⟨w.heap.size, 2, none⟩ = some (.slice uo nu uc) ∧ W.cell? ⟨w.heap.size, 3, none⟩ = some (.int .i64 p)) := fun W h => by
        have hlt := World.block_lt_of_cell? _ _ h0
        exact ⟨(h.cell (p := ⟨w.heap.size, 0, none⟩) hlt).trans h0, (h.cell (p := ⟨w.heap.size, 1, none⟩) hlt).trans h1, (h.cell (p := ⟨w.heap.size, 2, none⟩) hlt).trans h2, (h.cell (p := ⟨w.heap.size, 3, none⟩) hlt).trans h3⟩
      clear hHeld BW hbz hah z0 z1 z2 z3 h0 h1 h2 h3 HE0 SK
      rcases HNE.out i him with ⟨e1, e2, e3⟩ | ⟨ab, aof, a', e1, hif, hpart⟩
      · subst e1 e2 e3
        obtain rfl : m = 0 := by rw [← HMO.out]; rfl
        obtain rfl : i = 0 := by omega
        have HN1 : Hid (0 = ([] : List Opn).length + (([] : List Opn).take 0).length) := by unfold Hid; rw [List.length_nil, List.length_take]; rfl
        have HN2 : Hid (0 = (([] : List Opn).take 0).length) := by unfold Hid; rw [List.length_take]; rfl
        have HN3 : Hid (0 + 1 = (([] : List Opn).take 0 ++ [x]).length + (([] : List Opn).drop 0).length) := by unfold Hid; rw [List.length_append, List.length_take, List.length_drop, List.length_singleton]; rfl
        have HTK : Hid (Seq (fixE (fixE elmE w) WB) WB (.slice none 0 0) (([] : List Opn).take 0)) := Seq.nil _ _
        go_wp2_with (at_builtin; refine wpList_append_shr (E := fixE elmE w) Tryz.underlying52 elm_info rfl (w0 := WB) (by rfl) (.tmp 24) (.tmp 27) (by rfl) (by rfl) (Shr.nil _ _ _ _) (by rfl) HTK.out HN1.out (by omega) (by omega) (Nat.le_refl _) ?_)
        rintro v6 w6 s6 a6 c6 rfl b6
        have S6 := Lib.hid s6
        have W6 := Lib.hid b6
        obtain ⟨h0, h1, h2, h3⟩ := FX.out _ b6
        clear s6 b6 HTK
        go_wp2_with (at_builtin; refine wpList_append_enc (E := fixE elmE w) Tryz.underlying52 elm_info rfl (w0 := WB) (wp := w6) (by rfl) (.tmp 29) (.tmp 31) (by rfl) (by rfl) S6.out (G := w6.heap.size) (by rfl) rfl (c := #[.int .u32 (t : Int), .int .u8 (r : Int), .slice uo nu uc, .int .i64 p]) INN0.out HN2.out (by omega) (by omega) W6.out.size ?_)
        rintro v7 w7 s7 a7 c7 rfl b7
        have S7 := Lib.hid s7
        have W7 := Lib.hid (W6.out.trans b7)
        clear s7 b7 S6 W6 h0 h1 h2 h3
        have P7 : Hid (Seq (fixE (fixE elmE w) WB) w7 (.slice none 0 0) ([] : List Opn)) := Seq.nil _ _
        go_wp2_with (at_builtin; refine wpList_append_shr (E := fixE elmE w) Tryz.underlying52 elm_info rfl (w0 := WB) (by rfl) (.tmp 33) (.tmp 36) (by rfl) (by rfl) S7.out (by rfl) P7.out HN3.out (by omega) (by omega) W7.out.size ?_)
        rintro v8 w8 s8 a8 c8 rfl b8
        have B8 := Lib.hid (bt BZ.out (W7.out.trans b8))
        have O8 : Hid (ElL w8 (.slice a8 (0 + 1) c8) (insM ([] : List Opn) x)) := by
          unfold Hid
          have h9 : Shr (fixE elmE w) 91 WB w8 (.slice a8 (0 + 1) c8) (insM ([] : List Opn) x) := by
            unfold insM
            rw [AT.out]
            simpa using s8
          obtain ⟨cs, k1, k2⟩ := h9
          exact ⟨cs, Sees.own k1, Enc.rows_keep (bt BZ.out (W7.out.trans b8)) (fix_rows.1 k2)⟩
        clear s8 b8 S7 P7
        go_wp2
        go_ret
        exact ⟨_, rfl, O8.out, B8.out⟩
      have PT := Lib.hid hpart
      try dsimp only at hif
      subst e1
      clear hpart
      have HN1 : Hid (i = ([] : List Opn).length + (c.take i).length) := by unfold Hid; rw [List.length_nil, List.length_take]; have := HMO.out; omega
      have HN2 : Hid (i = (c.take i).length) := by unfold Hid; rw [List.length_take]; have := HMO.out; omega
      have HN3 : Hid (m + 1 = (c.take i ++ [x]).length + (c.drop i).length) := by unfold Hid; rw [List.length_append, List.length_take, List.length_drop, List.length_singleton]; have := HMO.out; omega
      have HTK : Hid (Seq (fixE (fixE elmE w) WB) WB (.slice (some ⟨ab, aof, none⟩) i cap) (c.take i)) := (seq_fix (seq_fix HV.out BZ.out) (Below.refl _ _)).take (m := i) (by have := HMO.out; omega)
      go_wp2_with (at_builtin; refine wpList_append_shr (E := fixE elmE w) Tryz.underlying52 elm_info rfl (w0 := WB) (by rfl) (.tmp 24) (.tmp 27) (by rfl) (by rfl) (Shr.nil _ _ _ _) (by rfl) HTK.out HN1.out (by omega) (by omega) (Nat.le_refl _) ?_)
      rintro v6 w6 s6 a6 c6 rfl b6
      have S6 := Lib.hid s6
      have W6 := Lib.hid b6
      obtain ⟨h0, h1, h2, h3⟩ := FX.out _ b6
      clear s6 b6 HTK
      go_wp2_with (at_builtin; refine wpList_append_enc (E := fixE elmE w) Tryz.underlying52 elm_info rfl (w0 := WB) (wp := w6) (by rfl) (.tmp 29) (.tmp 31) (by rfl) (by rfl) S6.out (G := w6.heap.size) (by rfl) rfl (c := #[.int .u32 (t : Int), .int .u8 (r : Int), .slice uo nu uc, .int .i64 p]) INN0.out HN2.out (by omega) (by omega) W6.out.size ?_)
      rintro v7 w7 s7 a7 c7 rfl b7
      have S7 := Lib.hid s7
      have W7 := Lib.hid (W6.out.trans b7)
      clear s7 b7 S6 W6 h0 h1 h2 h3
      have P7 : Hid (Seq (fixE (fixE elmE w) WB) w7 (.slice (some a') (m - i) (cap - i)) (c.drop i)) := (seq_fix (seq_fix PT.out BZ.out) (Below.refl _ _)).keeps W7.out
      go_wp2_with (at_builtin; refine wpList_append_shr (E := fixE elmE w) Tryz.underlying52 elm_info rfl (w0 := WB) (by rfl) (.tmp 33) (.tmp 36) (by rfl) (by rfl) S7.out (by rfl) P7.out HN3.out (by omega) (by omega) W7.out.size ?_)
      rintro v8 w8 s8 a8 c8 rfl b8
      have B8 := Lib.hid (bt BZ.out (W7.out.trans b8))
      have O8 : Hid (ElL w8 (.slice a8 (m + 1) c8) (insM c x)) := by
        unfold Hid
        have h9 : Shr (fixE elmE w) 91 WB w8 (.slice a8 (m + 1) c8) (insM c x) := by
          unfold insM
          rw [AT.out]
          simpa using s8
        obtain ⟨cs, k1, k2⟩ := h9
        exact ⟨cs, Sees.own k1, Enc.rows_keep (bt BZ.out (W7.out.trans b8)) (fix_rows.1 k2)⟩
      clear s8 b8 S7 P7
      go_wp2
      go_ret
      exact ⟨_, rfl, O8.out, B8.out⟩
end Go.Proofs.YtgjbnbojjgbmcaaGreat.Views

namespace Go.Proofs.YtgjbnbojjgbmcaaGreat.Marks
open Go.RowKit Go.WideShapes Stamp Go.Proofs.YtgjbnbojjgbmcaaGreat.Place Ops Codes Bags
attribute [local go_sem ↓] Go.wp_at_zero Go.wp_at_succ
attribute [local go_sem] yielded_undef
theorem refTarget_any {u : Value} {o : Opn} {w : World} (hu : Runs w u o.pl) (hm : mayO o = true) :
    Calls Tryz.prog 179 #[opv o u] w fun e w' => e = .returned (.agg #[.int .u32 ((tgt o).t : Int), .int .u8 ((tgt o).r : Int)]) ∧ Below w.heap.size w w' := by
  have hm2 := (mayO_parts hm).2.1
  have hM := (mayB_iff _).1 hm2
  have hc := tgt_cells hm
  obtain ⟨kk, hkk⟩ : ∃ k, o.pl.length = k + 1 := ⟨o.pl.length - 1, by have := hM.1; omega⟩
  have FI : Hid (∀ W : World, Below w.heap.size w W → Calls Tryz.prog 97 #[u] W fun e w' => e = .returned (.agg #[.int .u32 ((tgt o).t : Int), .int .u8 ((tgt o).r : Int)]) ∧ Below W.heap.size W w') := fun W hW => by
    have := final_any (hu.keeps hW) hkk rfl (chain_one hM.2.2.1 (by omega)) (by have := hM.2.1; omega)
    rw [hc.1, hc.2]
    unfold lastV
    rw [if_pos hm2, hkk, Nat.add_sub_cancel]
    exact this
  obtain ⟨T, hT⟩ : ∃ T, (tgt o).t = T := ⟨_, rfl⟩
  obtain ⟨R, hR⟩ : ∃ R, (tgt o).r = R := ⟨_, rfl⟩
  rw [hT, hR] at FI ⊢
  obtain ⟨uo, uc, rfl⟩ := hu.shape
  obtain ⟨nu, hnu⟩ : ∃ n, n = o.pl.length := ⟨_, rfl⟩
  rw [← hnu] at FI ⊢
  have B0 : Hid (Below w.heap.size w ((w.alloc (.cells #[.int .u8 (o.k : Int), .int .u32 (o.t : Int), .int .u8 (o.r : Int), .slice uo nu uc, .int .i64 o.p] 38)).alloc (.cells #[.int .u32 0, .int .u8 0] 28))) := ((Below.refl _ _).alloc (Nat.le_refl _) _).alloc (by simp) _
  clear hu hm hm2 hM hc hkk hT hR hnu
  obtain ⟨k, t, r, l, p, hk, ht, hr, hp⟩ := o
  unfold opv
  simp only at B0 ⊢
  clear hk ht hr hp
  go_enter Tryz.func179, Tryz.ntmps179
  go_wp2_with fail
  refine (FI.out _ B0.out).mono ?_
  rintro e w1 ⟨rfl, b1⟩
  obtain ⟨wz, hwz⟩ : ∃ wz, wz = w.alloc (.cells #[.int .u8 (k : Int), .int .u32 (t : Int), .int .u8 (r : Int), .slice uo nu uc, .int .i64 p] 38) := ⟨_, rfl⟩
  have hs : wz.heap.size = w.heap.size + 1 := by rw [hwz]; exact Array.size_push _
  have bz : Below w.heap.size w wz := by rw [hwz]; exact (Below.refl _ _).alloc (Nat.le_refl _) _
  rw [← hwz] at b1 B0
  have hX : w1.heap[wz.heap.size]? = some (.cells #[.int .u32 0, .int .u8 0] 28) := blk_below b1 (blk_new rfl)
  have BW := Lib.hid (bt B0.out b1)
  rw [hs] at hX
  have c0 := cell_of_row _ _ 0 _ _ _ hX
  have c1 := cell_of_row _ _ 1 _ _ _ hX
  have g0 : ∀ o, w1.frozen? ⟨w.heap.size + 1, o, none⟩ = false := fun o => free5 hX o
  clear b1 hwz bz B0 FI
  go_wp2
  refine bodyPost_ret (v := .agg #[.int .u32 (T : Int), .int .u8 (R : Int)]) (by simp [results, Tryz.results179, go_sem, c0, c1]) rfl ⟨rfl, ?_⟩
  exact (BW.out.setCell (p := ⟨w.heap.size + 1, 0, none⟩) (Nat.le_succ _) _).setCell (p := ⟨w.heap.size + 1, 1, none⟩) (Nat.le_succ _) _
set_option maxRecDepth 100000 in
set_option maxHeartbeats 8000000 in
theorem refEnded_any {v : Value} {l : List Opn} (a : Id) {w : World} (hv : OpL w v l) (hm : ∀ o ∈ l, mayO o = true) :
    Calls Tryz.prog 128 #[v, .agg #[.int .u32 (a.t : Int), .int .u8 (a.r : Int)]] w fun e w' => e = .returned (.bool (ended l a)) ∧ Below w.heap.size w w' := by
  obtain ⟨ao, cap, rfl⟩ := hv.shape
  obtain ⟨n, hn⟩ : ∃ n, n = l.length := ⟨_, rfl⟩
  have hmx : n ≤ 9223372036854775807 := by rw [hn]; exact hv.max
  have HV : Hid (∀ W : World, Below w.heap.size w W → OpL W (.slice ao l.length cap) l) := fun W h => hv.keeps h
  have HN := Lib.hid hn
  have HMY := Lib.hid hm
  obtain ⟨q, hq⟩ : ∃ q, ended l a = q := ⟨_, rfl⟩
  have HQ : Hid (∀ o ∈ l, o.k = 4 → tgt o = a → q = true) := fun o ho h4 he => by rw [← hq, ended_iff]; exact ⟨o, ho, h4, he⟩
  have HZ : Hid ((∀ j (h : j < l.length), (l[j]'h).k = 4 → tgt (l[j]'h) ≠ a) → q = false) := fun h => by
    rw [← hq, ended_no]
    intro o ho
    obtain ⟨i, hi, rfl⟩ := List.getElem_of_mem ho
    exact h i hi
  rw [hq, ← hn]
  obtain ⟨A, hA⟩ : ∃ A, A = a := ⟨_, rfl⟩
  rw [← hA] at HQ HZ
  have HA : Hid (∀ x : Id, x = A ↔ x.t = a.t ∧ x.r = a.r) := fun x => by rw [hA, Id.eq_iff]
  obtain ⟨ta, ra, hta, hra⟩ := a
  simp only at HA ⊢
  obtain ⟨wl, hwl⟩ : ∃ x, x = w.alloc (.cells #[.int .u32 (ta : Int), .int .u8 (ra : Int)] 28) := ⟨_, rfl⟩
  have XI : Hid (wl.heap[w.heap.size]? = some (.cells #[.int .u32 (ta : Int), .int .u8 (ra : Int)] 28)) := by rw [hwl]; exact blk_new rfl
  have BL : Hid (Below w.heap.size w wl) := by rw [hwl]; exact (Below.refl _ _).alloc (Nat.le_refl _) _
  have B0 : Hid (Below wl.heap.size wl (w.alloc (.cells #[.int .u32 (ta : Int), .int .u8 (ra : Int)] 28))) := by rw [← hwl]; exact Below.refl _ _
  clear hv hn hq hA hwl hm
  go_enter Tryz.func128, Tryz.ntmps128
  go_wp2
  go_loopw [5] (fun i wr => ∃ j : Nat, j ≤ n ∧ i = .int .i64 (j : Int) ∧ Hid (∀ k (h : k < l.length), k < j → (l[k]'h).k = 4 → tgt (l[k]'h) ≠ A) ∧ Hid (Below wl.heap.size wl wr)) (fun i _ => n - (intOf i).toNat)
  case atStart => exact ⟨0, by omega, rfl, fun k h hk => by omega, B0⟩
  case round =>
    clear B0
    obtain ⟨j, hj, rfl, hno, hbel⟩ := hrel
    have XI2 := Lib.hid (blk_below hbel.out XI.out)
    have BW := Lib.hid (bt BL.out hbel.out)
    by_cases hjn : j < n
    rotate_left
    · have q3 : decide (j < n) = false := by simpa using hjn
      obtain rfl := HZ.out (fun i h => hno.out i h (by have := HN.out; omega))
      go_wp2
      go_ret
      exact ⟨rfl, BW.out⟩
    have q3 : decide (j < n) = true := by simpa using hjn
    have q4 : (0 : Int) ≤ (j : Int) := by omega
    have q5 : (j : Int) < (n : Int) := by omega
    have hjl : j < l.length := by rw [← HN.out]; exact hjn
    obtain ⟨bb, oo, u, e, hbb, hru, h0, h1, h2, h3, h4⟩ := opl_at (HV.out wr BW.out) j hjl
    subst e
    obtain ⟨x, hx⟩ : ∃ x, x = l[j]'hjl := ⟨_, rfl⟩
    rw [← hx] at hru h0 h1 h2 h4
    have HO : Hid (∀ v : Value, opv x v = .agg #[.int .u8 (x.k : Int), .int .u32 (x.t : Int), .int .u8 (x.r : Int), v, .int .i64 x.p]) := fun v => rfl
    have HX : Hid (x = l[j]'hjl) := hx
    have hxm : x ∈ l := by rw [hx]; exact List.getElem_mem _
    have MX := HMY.out x hxm
    have TG : Hid (∀ W : World, Below wr.heap.size wr W → Calls Tryz.prog 179 #[opv x u] W fun e w' => e = .returned (.agg #[.int .u32 ((tgt x).t : Int), .int .u8 ((tgt x).r : Int)]) ∧ Below W.heap.size W w') := fun W h => refTarget_any (hru.keeps h) MX
    have HE := Lib.hid (HA.out (tgt x))
    have HG := Lib.hid (HQ.out x hxm)
    obtain ⟨T, hT⟩ : ∃ T, (tgt x).t = T := ⟨_, rfl⟩
    obtain ⟨R, hR⟩ : ∃ R, (tgt x).r = R := ⟨_, rfl⟩
    rw [hT, hR] at TG HE
    clear hx hru hT hR MX hxm
    obtain ⟨k, hk⟩ : ∃ z, x.k = z := ⟨_, rfl⟩
    obtain ⟨t, ht⟩ : ∃ z, x.t = z := ⟨_, rfl⟩
    obtain ⟨r, hr⟩ : ∃ z, x.r = z := ⟨_, rfl⟩
    obtain ⟨p, hp⟩ : ∃ z, x.p = z := ⟨_, rfl⟩
    rw [hk, ht, hr, hp] at HO
    rw [hk] at h0
    rw [ht] at h1
    rw [hr] at h2
    rw [hp] at h4
    simp only [HO.out] at TG
    have HK : Hid (x.k = k) := hk
    obtain ⟨f0, f1⟩ : wr.cell? ⟨w.heap.size, 0, none⟩ = some (.int .u32 (ta : Int)) ∧ wr.cell? ⟨w.heap.size, 1, none⟩ = some (.int .u8 (ra : Int)) := ⟨cell_of_row _ _ 0 _ _ _ XI2.out, cell_of_row _ _ 1 _ _ _ XI2.out⟩
    have hlt := World.block_lt_of_cell? _ _ f0
    have F1 : Hid (FiveAt wr bb (oo + j * 5) (.int .u8 (k : Int)) (.int .u32 (t : Int)) (.int .u8 (r : Int)) u (.int .i64 p)) := ⟨hbb, h0, h1, h2, h3, h4⟩
    have SK : Hid (∀ w' : World, Below wr.heap.size wr w' → Below wr.heap.size wr w' ∧ w'.cell? ⟨bb, oo + j * 5, none⟩ = some (.int .u8 (k : Int)) ∧ w'.cell? ⟨bb, oo + j * 5 + 1, none⟩ = some (.int .u32 (t : Int)) ∧ w'.cell? ⟨bb, oo + j * 5 + 2, none⟩ = some (.int .u8 (r : Int)) ∧ w'.cell? ⟨bb, oo + j * 5 + 3, none⟩ = some (u) ∧ w'.cell? ⟨bb, oo + j * 5 + 4, none⟩ = some (.int .i64 p) ∧ w'.cell? ⟨w.heap.size, 0, none⟩ = some (.int .u32 (ta : Int)) ∧ w'.cell? ⟨w.heap.size, 1, none⟩ = some (.int .u8 (ra : Int))) := fun W h => by
      have a1 := (F1.out.keeps h).2
      exact ⟨h, a1.1, a1.2.1, a1.2.2.1, a1.2.2.2.1, a1.2.2.2.2, (h.cell (p := ⟨w.heap.size, 0, none⟩) hlt).trans f0, (h.cell (p := ⟨w.heap.size, 1, none⟩) hlt).trans f1⟩
    clear hk ht hr hp h0 h1 h2 h3 h4 f0 f1 hlt HO hbb F1
    by_cases hk4 : k = 4
    rotate_left
    · have qk : ((k : Int) == 4) = false := by simp; omega
      have qk2 : decide ((k : Int) = 4) = false := decide_eq_false (by omega)
      have NJ : Hid (∀ i (h : i < l.length), i < j + 1 → (l[i]'h).k = 4 → tgt (l[i]'h) ≠ A) := fun i h hi => by
        by_cases e : i = j
        · subst e; rw [← HX.out, HK.out]; intro h4; exact absurd h4 hk4
        · exact hno.out i h (by omega)
      clear HG HE hk4 HK
      go_wp2
      refine wp_region_held_drew (S := fun w' => Below wr.heap.size wr w' ∧ w'.cell? ⟨bb, oo + j * 5, none⟩ = some (.int .u8 (k : Int)) ∧ w'.cell? ⟨bb, oo + j * 5 + 1, none⟩ = some (.int .u32 (t : Int)) ∧ w'.cell? ⟨bb, oo + j * 5 + 2, none⟩ = some (.int .u8 (r : Int)) ∧ w'.cell? ⟨bb, oo + j * 5 + 3, none⟩ = some (u) ∧ w'.cell? ⟨bb, oo + j * 5 + 4, none⟩ = some (.int .i64 p) ∧ w'.cell? ⟨w.heap.size, 0, none⟩ = some (.int .u32 (ta : Int)) ∧ w'.cell? ⟨w.heap.size, 1, none⟩ = some (.int .u8 (ra : Int))) (by kernel_rfl) (SK.out _ (drew1 _)) (fun hHeld => ?_)
      refine rN 0 ?_
      refine rN 1 ?_
      refine rN 2 ?_
      refine rN 3 ?_
      refine rN 4 ?_
      refine rN 5 ?_
      refine rN 6 ?_
      refine rV 7 ?_
      refine rV 8 ?_
      refine rV 9 ?_
      refine rV 10 ?_
      refine rV 11 ?_
      refine rV 12 ?_
      refine rV 13 ?_
      refine rN 14 ?_
      refine wpAnyH_done (by kernel_rfl) ?_ _
      go_wp2
      go_roundw
      case rel => exact ⟨j + 1, by omega, by go_num, NJ, Lib.hid (bt hbel.out hHeld.1)⟩
      case measure => simp [intOf]; omega
    subst hk4
    obtain ⟨b1, hb1⟩ : ∃ b, decide (T = ta) = b := ⟨_, rfl⟩
    obtain ⟨b2, hb2⟩ : ∃ b, decide (R = ra) = b := ⟨_, rfl⟩
    have hb1' : ((T : Int) == (ta : Int)) = b1 := by rw [← hb1]; by_cases h : T = ta <;> simp [h] <;> omega
    have hb2' : ((R : Int) == (ra : Int)) = b2 := by rw [← hb2]; by_cases h : R = ra <;> simp [h] <;> omega
    have HM : Hid ((b1 && b2) = true → q = true) := fun h => HG.out HK.out (by rw [HE.out]; rw [Bool.and_eq_true, ← hb1, ← hb2, decide_eq_true_eq, decide_eq_true_eq] at h; exact h)
    have HNM : Hid ((b1 && b2) = false → tgt x ≠ A) := fun h => by rw [Ne, HE.out]; rintro ⟨h1, h2⟩; rw [← hb1, ← hb2, decide_eq_true h1, decide_eq_true h2] at h; cases h
    clear HE HG hb1 hb2
    cases b1 <;> cases b2
    · have NJ : Hid (∀ i (h : i < l.length), i < j + 1 → (l[i]'h).k = 4 → tgt (l[i]'h) ≠ A) := fun i h hi => by
        by_cases e : i = j
        · subst e; rw [← HX.out, HK.out]; intro _; exact HNM.out rfl
        · exact hno.out i h (by omega)
      clear HNM HM HK
      go_wp2
      refine wp_region_held_drew (S := fun w' => Below wr.heap.size wr w' ∧ w'.cell? ⟨bb, oo + j * 5, none⟩ = some (.int .u8 ((4 : Nat) : Int)) ∧ w'.cell? ⟨bb, oo + j * 5 + 1, none⟩ = some (.int .u32 (t : Int)) ∧ w'.cell? ⟨bb, oo + j * 5 + 2, none⟩ = some (.int .u8 (r : Int)) ∧ w'.cell? ⟨bb, oo + j * 5 + 3, none⟩ = some (u) ∧ w'.cell? ⟨bb, oo + j * 5 + 4, none⟩ = some (.int .i64 p) ∧ w'.cell? ⟨w.heap.size, 0, none⟩ = some (.int .u32 (ta : Int)) ∧ w'.cell? ⟨w.heap.size, 1, none⟩ = some (.int .u8 (ra : Int))) (by kernel_rfl) (SK.out _ (drew1 _)) (fun hHeld => ?_)
      refine rN 0 ?_
      refine rN 1 ?_
      refine rN 2 ?_
      refine rN 3 ?_
      refine rN 4 ?_
      refine rN 5 ?_
      refine rN 6 ?_
      refine rN 7 ?_
      refine rN 8 ?_
      refine rN 9 ?_
      refine rN 10 ?_
      refine rN 12 ?_
      refine wpAnyH_ready (rs := [11]) (by kernel_rfl) (by simp) ?_
      refine AllReadyH.cons rfl (fun K hK => ?_) ?zb11
      case zb11 => exact AllReadyH.nil
      go_simp
      refine (TG.out _ hHeld.1).mono ?_
      rintro e w9b11 ⟨rfl, b9⟩
      refine hK.out _ _ (SK.out _ (bt hHeld.1 b9)) (fun hNew => ?_)
      clear hHeld
      have hHeld := hNew
      clear hNew hK K
      refine rX ?_
      refine rN 13 ?_
      refine rN 14 ?_
      refine wpAnyH_done (by kernel_rfl) ?_ _
      go_wp2
      go_roundw
      case rel => exact ⟨j + 1, by omega, by go_num, NJ, Lib.hid (bt hbel.out hHeld.1)⟩
      case measure => simp [intOf]; omega
    · have NJ : Hid (∀ i (h : i < l.length), i < j + 1 → (l[i]'h).k = 4 → tgt (l[i]'h) ≠ A) := fun i h hi => by
        by_cases e : i = j
        · subst e; rw [← HX.out, HK.out]; intro _; exact HNM.out rfl
        · exact hno.out i h (by omega)
      clear HNM HM HK
      go_wp2
      refine wp_region_held_drew (S := fun w' => Below wr.heap.size wr w' ∧ w'.cell? ⟨bb, oo + j * 5, none⟩ = some (.int .u8 ((4 : Nat) : Int)) ∧ w'.cell? ⟨bb, oo + j * 5 + 1, none⟩ = some (.int .u32 (t : Int)) ∧ w'.cell? ⟨bb, oo + j * 5 + 2, none⟩ = some (.int .u8 (r : Int)) ∧ w'.cell? ⟨bb, oo + j * 5 + 3, none⟩ = some (u) ∧ w'.cell? ⟨bb, oo + j * 5 + 4, none⟩ = some (.int .i64 p) ∧ w'.cell? ⟨w.heap.size, 0, none⟩ = some (.int .u32 (ta : Int)) ∧ w'.cell? ⟨w.heap.size, 1, none⟩ = some (.int .u8 (ra : Int))) (by kernel_rfl) (SK.out _ (drew1 _)) (fun hHeld => ?_)
      refine rN 0 ?_
      refine rN 1 ?_
      refine rN 2 ?_
      refine rN 3 ?_
      refine rN 4 ?_
      refine rN 5 ?_
      refine rN 6 ?_
      refine rN 7 ?_
      refine rN 8 ?_
      refine rN 9 ?_
      refine rN 10 ?_
      refine rN 12 ?_
      refine wpAnyH_ready (rs := [11]) (by kernel_rfl) (by simp) ?_
      refine AllReadyH.cons rfl (fun K hK => ?_) ?zc11
      case zc11 => exact AllReadyH.nil
      go_simp
      refine (TG.out _ hHeld.1).mono ?_
      rintro e w9c11 ⟨rfl, b9⟩
      refine hK.out _ _ (SK.out _ (bt hHeld.1 b9)) (fun hNew => ?_)
      clear hHeld
      have hHeld := hNew
      clear hNew hK K
      refine rX ?_
      refine rN 13 ?_
      refine rN 14 ?_
      refine wpAnyH_done (by kernel_rfl) ?_ _
      go_wp2
      go_roundw
      case rel => exact ⟨j + 1, by omega, by go_num, NJ, Lib.hid (bt hbel.out hHeld.1)⟩
      case measure => simp [intOf]; omega
    · have NJ : Hid (∀ i (h : i < l.length), i < j + 1 → (l[i]'h).k = 4 → tgt (l[i]'h) ≠ A) := fun i h hi => by
        by_cases e : i = j
        · subst e; rw [← HX.out, HK.out]; intro _; exact HNM.out rfl
        · exact hno.out i h (by omega)
      clear HNM HM HK
      go_wp2
      refine wp_region_held_drew (S := fun w' => Below wr.heap.size wr w' ∧ w'.cell? ⟨bb, oo + j * 5, none⟩ = some (.int .u8 ((4 : Nat) : Int)) ∧ w'.cell? ⟨bb, oo + j * 5 + 1, none⟩ = some (.int .u32 (t : Int)) ∧ w'.cell? ⟨bb, oo + j * 5 + 2, none⟩ = some (.int .u8 (r : Int)) ∧ w'.cell? ⟨bb, oo + j * 5 + 3, none⟩ = some (u) ∧ w'.cell? ⟨bb, oo + j * 5 + 4, none⟩ = some (.int .i64 p) ∧ w'.cell? ⟨w.heap.size, 0, none⟩ = some (.int .u32 (ta : Int)) ∧ w'.cell? ⟨w.heap.size, 1, none⟩ = some (.int .u8 (ra : Int))) (by kernel_rfl) (SK.out _ (drew1 _)) (fun hHeld => ?_)
      refine rN 0 ?_
      refine rN 1 ?_
      refine rN 2 ?_
      refine rN 3 ?_
      refine rN 4 ?_
      refine rN 5 ?_
      refine rN 6 ?_
      refine rN 7 ?_
      refine rN 8 ?_
      refine rN 9 ?_
      refine rN 10 ?_
      refine rN 12 ?_
      refine wpAnyH_ready (rs := [11]) (by kernel_rfl) (by simp) ?_
      refine AllReadyH.cons rfl (fun K hK => ?_) ?zd11
      case zd11 => exact AllReadyH.nil
      go_simp
      refine (TG.out _ hHeld.1).mono ?_
      rintro e w9d11 ⟨rfl, b9⟩
      refine hK.out _ _ (SK.out _ (bt hHeld.1 b9)) (fun hNew => ?_)
      clear hHeld
      have hHeld := hNew
      clear hNew hK K
      refine rX ?_
      refine rN 13 ?_
      refine rN 14 ?_
      refine wpAnyH_done (by kernel_rfl) ?_ _
      go_wp2
      go_roundw
      case rel => exact ⟨j + 1, by omega, by go_num, NJ, Lib.hid (bt hbel.out hHeld.1)⟩
      case measure => simp [intOf]; omega
    · obtain rfl := HM.out rfl
      clear HNM HM HK
      go_wp2
      refine wp_region_held_drew (S := fun w' => Below wr.heap.size wr w' ∧ w'.cell? ⟨bb, oo + j * 5, none⟩ = some (.int .u8 ((4 : Nat) : Int)) ∧ w'.cell? ⟨bb, oo + j * 5 + 1, none⟩ = some (.int .u32 (t : Int)) ∧ w'.cell? ⟨bb, oo + j * 5 + 2, none⟩ = some (.int .u8 (r : Int)) ∧ w'.cell? ⟨bb, oo + j * 5 + 3, none⟩ = some (u) ∧ w'.cell? ⟨bb, oo + j * 5 + 4, none⟩ = some (.int .i64 p) ∧ w'.cell? ⟨w.heap.size, 0, none⟩ = some (.int .u32 (ta : Int)) ∧ w'.cell? ⟨w.heap.size, 1, none⟩ = some (.int .u8 (ra : Int))) (by kernel_rfl) (SK.out _ (drew1 _)) (fun hHeld => ?_)
      refine rN 0 ?_
      refine rN 1 ?_
      refine rN 2 ?_
      refine rN 3 ?_
      refine rN 4 ?_
      refine rN 5 ?_
      refine rN 6 ?_
      refine rN 7 ?_
      refine rN 8 ?_
      refine rN 9 ?_
      refine rN 10 ?_
      refine rN 12 ?_
      refine wpAnyH_ready (rs := [11]) (by kernel_rfl) (by simp) ?_
      refine AllReadyH.cons rfl (fun K hK => ?_) ?ze11
      case ze11 => exact AllReadyH.nil
      go_simp
      refine (TG.out _ hHeld.1).mono ?_
      rintro e w9e11 ⟨rfl, b9⟩
      refine hK.out _ _ (SK.out _ (bt hHeld.1 b9)) (fun hNew => ?_)
      clear hHeld
      have hHeld := hNew
      clear hNew hK K
      refine rX ?_
      refine rN 13 ?_
      refine rN 14 ?_
      refine wpAnyH_done (by kernel_rfl) ?_ _
      go_wp2
      go_ret
      exact ⟨rfl, bt BW.out hHeld.1⟩
end Go.Proofs.YtgjbnbojjgbmcaaGreat.Marks

namespace Go.Proofs.YtgjbnbojjgbmcaaGreat.Views
open Go.RowKit Go.WideShapes Stamp Go.Proofs.YtgjbnbojjgbmcaaGreat.Place Ops Codes Bags Marks Homes Covers
attribute [local go_sem ↓] Go.wp_at_zero Go.wp_at_succ
attribute [local go_sem] yielded_undef
theorem goneM_no {l : List Opn} {a : Id} : goneM l a = false ↔ ∀ o ∈ l, o.k = 3 → tgt o ≠ a := by
  rw [← Bool.not_eq_true, goneM_iff]
  exact ⟨fun h o ho hk he => h ⟨o, ho, hk, he⟩, fun h ⟨o, ho, hk, he⟩ => h o ho hk he⟩
set_option maxRecDepth 100000 in
set_option maxHeartbeats 8000000 in
theorem refGone_any {v : Value} {l : List Opn} (a : Id) {w : World} (hv : OpL w v l) (hm : ∀ o ∈ l, mayO o = true) :
    Calls Tryz.prog 130 #[v, .agg #[.int .u32 (a.t : Int), .int .u8 (a.r : Int)]] w fun e w' => e = .returned (.bool (goneM l a)) ∧ Below w.heap.size w w' := by
  obtain ⟨ao, cap, rfl⟩ := hv.shape
  obtain ⟨n, hn⟩ : ∃ n, n = l.length := ⟨_, rfl⟩
  have hmx : n ≤ 9223372036854775807 := by rw [hn]; exact hv.max
  have HV : Hid (∀ W : World, Below w.heap.size w W → OpL W (.slice ao l.length cap) l) := fun W h => hv.keeps h
  have HN := Lib.hid hn
  have HMY := Lib.hid hm
  obtain ⟨q, hq⟩ : ∃ q, goneM l a = q := ⟨_, rfl⟩
  have HQ : Hid (∀ o ∈ l, o.k = 3 → tgt o = a → q = true) := fun o ho h4 he => by rw [← hq, goneM_iff]; exact ⟨o, ho, h4, he⟩
  have HZ : Hid ((∀ j (h : j < l.length), (l[j]'h).k = 3 → tgt (l[j]'h) ≠ a) → q = false) := fun h => by
    rw [← hq, goneM_no]
    intro o ho
    obtain ⟨i, hi, rfl⟩ := List.getElem_of_mem ho
    exact h i hi
  rw [hq, ← hn]
  obtain ⟨A, hA⟩ : ∃ A, A = a := ⟨_, rfl⟩
  rw [← hA] at HQ HZ
  have HA : Hid (∀ x : Id, x = A ↔ x.t = a.t ∧ x.r = a.r) := fun x => by rw [hA, Id.eq_iff]
  obtain ⟨ta, ra, hta, hra⟩ := a
  simp only at HA ⊢
  obtain ⟨wl, hwl⟩ : ∃ x, x = w.alloc (.cells #[.int .u32 (ta : Int), .int .u8 (ra : Int)] 28) := ⟨_, rfl⟩
  have XI : Hid (wl.heap[w.heap.size]? = some (.cells #[.int .u32 (ta : Int), .int .u8 (ra : Int)] 28)) := by rw [hwl]; exact blk_new rfl
  have BL : Hid (Below w.heap.size w wl) := by rw [hwl]; exact (Below.refl _ _).alloc (Nat.le_refl _) _
  have B0 : Hid (Below wl.heap.size wl (w.alloc (.cells #[.int .u32 (ta : Int), .int .u8 (ra : Int)] 28))) := by rw [← hwl]; exact Below.refl _ _
  clear hv hn hq hA hwl hm
  go_enter Tryz.func130, Tryz.ntmps130
  go_wp2
  go_loopw [5] (fun i wr => ∃ j : Nat, j ≤ n ∧ i = .int .i64 (j : Int) ∧ Hid (∀ k (h : k < l.length), k < j → (l[k]'h).k = 3 → tgt (l[k]'h) ≠ A) ∧ Hid (Below wl.heap.size wl wr)) (fun i _ => n - (intOf i).toNat)
  case atStart => exact ⟨0, by omega, rfl, fun k h hk => by omega, B0⟩
  case round =>
    clear B0
    obtain ⟨j, hj, rfl, hno, hbel⟩ := hrel
    have XI2 := Lib.hid (blk_below hbel.out XI.out)
    have BW := Lib.hid (bt BL.out hbel.out)
    by_cases hjn : j < n
    rotate_left
    · have q3 : decide (j < n) = false := by simpa using hjn
      obtain rfl := HZ.out (fun i h => hno.out i h (by have := HN.out; omega))
      go_wp2
      go_ret
      exact ⟨rfl, BW.out⟩
    have q3 : decide (j < n) = true := by simpa using hjn
    have q4 : (0 : Int) ≤ (j : Int) := by omega
    have q5 : (j : Int) < (n : Int) := by omega
    have hjl : j < l.length := by rw [← HN.out]; exact hjn
    obtain ⟨bb, oo, u, e, hbb, hru, h0, h1, h2, h3, h4⟩ := opl_at (HV.out wr BW.out) j hjl
    subst e
    obtain ⟨x, hx⟩ : ∃ x, x = l[j]'hjl := ⟨_, rfl⟩
    rw [← hx] at hru h0 h1 h2 h4
    have HO : Hid (∀ v : Value, opv x v = .agg #[.int .u8 (x.k : Int), .int .u32 (x.t : Int), .int .u8 (x.r : Int), v, .int .i64 x.p]) := fun v => rfl
    have HX : Hid (x = l[j]'hjl) := hx
    have hxm : x ∈ l := by rw [hx]; exact List.getElem_mem _
    have MX := HMY.out x hxm
    have TG : Hid (∀ W : World, Below wr.heap.size wr W → Calls Tryz.prog 179 #[opv x u] W fun e w' => e = .returned (.agg #[.int .u32 ((tgt x).t : Int), .int .u8 ((tgt x).r : Int)]) ∧ Below W.heap.size W w') := fun W h => refTarget_any (hru.keeps h) MX
    have HE := Lib.hid (HA.out (tgt x))
    have HG := Lib.hid (HQ.out x hxm)
    obtain ⟨T, hT⟩ : ∃ T, (tgt x).t = T := ⟨_, rfl⟩
    obtain ⟨R, hR⟩ : ∃ R, (tgt x).r = R := ⟨_, rfl⟩
    rw [hT, hR] at TG HE
    clear hx hru hT hR MX hxm
    obtain ⟨k, hk⟩ : ∃ z, x.k = z := ⟨_, rfl⟩
    obtain ⟨t, ht⟩ : ∃ z, x.t = z := ⟨_, rfl⟩
    obtain ⟨r, hr⟩ : ∃ z, x.r = z := ⟨_, rfl⟩
    obtain ⟨p, hp⟩ : ∃ z, x.p = z := ⟨_, rfl⟩
    rw [hk, ht, hr, hp] at HO
    rw [hk] at h0
    rw [ht] at h1
    rw [hr] at h2
    rw [hp] at h4
    simp only [HO.out] at TG
    have HK : Hid (x.k = k) := hk
    obtain ⟨f0, f1⟩ : wr.cell? ⟨w.heap.size, 0, none⟩ = some (.int .u32 (ta : Int)) ∧ wr.cell? ⟨w.heap.size, 1, none⟩ = some (.int .u8 (ra : Int)) := ⟨cell_of_row _ _ 0 _ _ _ XI2.out, cell_of_row _ _ 1 _ _ _ XI2.out⟩
    have hlt := World.block_lt_of_cell? _ _ f0
    have F1 : Hid (FiveAt wr bb (oo + j * 5) (.int .u8 (k : Int)) (.int .u32 (t : Int)) (.int .u8 (r : Int)) u (.int .i64 p)) := ⟨hbb, h0, h1, h2, h3, h4⟩
    have SK : Hid (∀ w' : World, Below wr.heap.size wr w' → Below wr.heap.size wr w' ∧ w'.cell? ⟨bb, oo + j * 5, none⟩ = some (.int .u8 (k : Int)) ∧ w'.cell? ⟨bb, oo + j * 5 + 1, none⟩ = some (.int .u32 (t : Int)) ∧ w'.cell? ⟨bb, oo + j * 5 + 2, none⟩ = some (.int .u8 (r : Int)) ∧ w'.cell? ⟨bb, oo + j * 5 + 3, none⟩ = some (u) ∧ w'.cell? ⟨bb, oo + j * 5 + 4, none⟩ = some (.int .i64 p) ∧ w'.cell? ⟨w.heap.size, 0, none⟩ = some (.int .u32 (ta : Int)) ∧ w'.cell? ⟨w.heap.size, 1, none⟩ = some (.int .u8 (ra : Int))) := fun W h => by
      have a1 := (F1.out.keeps h).2
      exact ⟨h, a1.1, a1.2.1, a1.2.2.1, a1.2.2.2.1, a1.2.2.2.2, (h.cell (p := ⟨w.heap.size, 0, none⟩) hlt).trans f0, (h.cell (p := ⟨w.heap.size, 1, none⟩) hlt).trans f1⟩
    clear hk ht hr hp h0 h1 h2 h3 h4 f0 f1 hlt HO hbb F1
    by_cases hk4 : k = 3
    rotate_left
    · have qk : ((k : Int) == 3) = false := by simp; omega
      have qk2 : decide ((k : Int) = 3) = false := decide_eq_false (by omega)
      have NJ : Hid (∀ i (h : i < l.length), i < j + 1 → (l[i]'h).k = 3 → tgt (l[i]'h) ≠ A) := fun i h hi => by
        by_cases e : i = j
        · subst e; rw [← HX.out, HK.out]; intro h4; exact absurd h4 hk4
        · exact hno.out i h (by omega)
      clear HG HE hk4 HK
      go_wp2
      refine wp_region_held_drew (S := fun w' => Below wr.heap.size wr w' ∧ w'.cell? ⟨bb, oo + j * 5, none⟩ = some (.int .u8 (k : Int)) ∧ w'.cell? ⟨bb, oo + j * 5 + 1, none⟩ = some (.int .u32 (t : Int)) ∧ w'.cell? ⟨bb, oo + j * 5 + 2, none⟩ = some (.int .u8 (r : Int)) ∧ w'.cell? ⟨bb, oo + j * 5 + 3, none⟩ = some (u) ∧ w'.cell? ⟨bb, oo + j * 5 + 4, none⟩ = some (.int .i64 p) ∧ w'.cell? ⟨w.heap.size, 0, none⟩ = some (.int .u32 (ta : Int)) ∧ w'.cell? ⟨w.heap.size, 1, none⟩ = some (.int .u8 (ra : Int))) (by kernel_rfl) (SK.out _ (drew1 _)) (fun hHeld => ?_)
      refine rN 0 ?_
      refine rN 1 ?_
      refine rN 2 ?_
      refine rN 3 ?_
      refine rN 4 ?_
      refine rN 5 ?_
      refine rN 6 ?_
      refine rV 7 ?_
      refine rV 8 ?_
      refine rV 9 ?_
      refine rV 10 ?_
      refine rV 11 ?_
      refine rV 12 ?_
      refine rV 13 ?_
      refine rN 14 ?_
      refine wpAnyH_done (by kernel_rfl) ?_ _
      go_wp2
      go_roundw
      case rel => exact ⟨j + 1, by omega, by go_num, NJ, Lib.hid (bt hbel.out hHeld.1)⟩
      case measure => simp [intOf]; omega
    subst hk4
    obtain ⟨b1, hb1⟩ : ∃ b, decide (T = ta) = b := ⟨_, rfl⟩
    obtain ⟨b2, hb2⟩ : ∃ b, decide (R = ra) = b := ⟨_, rfl⟩
    have hb1' : ((T : Int) == (ta : Int)) = b1 := by rw [← hb1]; by_cases h : T = ta <;> simp [h] <;> omega
    have hb2' : ((R : Int) == (ra : Int)) = b2 := by rw [← hb2]; by_cases h : R = ra <;> simp [h] <;> omega
    have HM : Hid ((b1 && b2) = true → q = true) := fun h => HG.out HK.out (by rw [HE.out]; rw [Bool.and_eq_true, ← hb1, ← hb2, decide_eq_true_eq, decide_eq_true_eq] at h; exact h)
    have HNM : Hid ((b1 && b2) = false → tgt x ≠ A) := fun h => by rw [Ne, HE.out]; rintro ⟨h1, h2⟩; rw [← hb1, ← hb2, decide_eq_true h1, decide_eq_true h2] at h; cases h
    clear HE HG hb1 hb2
    cases b1 <;> cases b2
    · have NJ : Hid (∀ i (h : i < l.length), i < j + 1 → (l[i]'h).k = 3 → tgt (l[i]'h) ≠ A) := fun i h hi => by
        by_cases e : i = j
        · subst e; rw [← HX.out, HK.out]; intro _; exact HNM.out rfl
        · exact hno.out i h (by omega)
      clear HNM HM HK
      go_wp2
      refine wp_region_held_drew (S := fun w' => Below wr.heap.size wr w' ∧ w'.cell? ⟨bb, oo + j * 5, none⟩ = some (.int .u8 ((3 : Nat) : Int)) ∧ w'.cell? ⟨bb, oo + j * 5 + 1, none⟩ = some (.int .u32 (t : Int)) ∧ w'.cell? ⟨bb, oo + j * 5 + 2, none⟩ = some (.int .u8 (r : Int)) ∧ w'.cell? ⟨bb, oo + j * 5 + 3, none⟩ = some (u) ∧ w'.cell? ⟨bb, oo + j * 5 + 4, none⟩ = some (.int .i64 p) ∧ w'.cell? ⟨w.heap.size, 0, none⟩ = some (.int .u32 (ta : Int)) ∧ w'.cell? ⟨w.heap.size, 1, none⟩ = some (.int .u8 (ra : Int))) (by kernel_rfl) (SK.out _ (drew1 _)) (fun hHeld => ?_)
      refine rN 0 ?_
      refine rN 1 ?_
      refine rN 2 ?_
      refine rN 3 ?_
      refine rN 4 ?_
      refine rN 5 ?_
      refine rN 6 ?_
      refine rN 7 ?_
      refine rN 8 ?_
      refine rN 9 ?_
      refine rN 10 ?_
      refine rN 12 ?_
      refine wpAnyH_ready (rs := [11]) (by kernel_rfl) (by simp) ?_
      refine AllReadyH.cons rfl (fun K hK => ?_) ?zb11
      case zb11 => exact AllReadyH.nil
      go_simp
      refine (TG.out _ hHeld.1).mono ?_
      rintro e w9b11 ⟨rfl, b9⟩
      refine hK.out _ _ (SK.out _ (bt hHeld.1 b9)) (fun hNew => ?_)
      clear hHeld
      have hHeld := hNew
      clear hNew hK K
      refine rX ?_
      refine rN 13 ?_
      refine rN 14 ?_
      refine wpAnyH_done (by kernel_rfl) ?_ _
      go_wp2
      go_roundw
      case rel => exact ⟨j + 1, by omega, by go_num, NJ, Lib.hid (bt hbel.out hHeld.1)⟩
      case measure => simp [intOf]; omega
    · have NJ : Hid (∀ i (h : i < l.length), i < j + 1 → (l[i]'h).k = 3 → tgt (l[i]'h) ≠ A) := fun i h hi => by
        by_cases e : i = j
        · subst e; rw [← HX.out, HK.out]; intro _; exact HNM.out rfl
        · exact hno.out i h (by omega)
      clear HNM HM HK
      go_wp2
      refine wp_region_held_drew (S := fun w' => Below wr.heap.size wr w' ∧ w'.cell? ⟨bb, oo + j * 5, none⟩ = some (.int .u8 ((3 : Nat) : Int)) ∧ w'.cell? ⟨bb, oo + j * 5 + 1, none⟩ = some (.int .u32 (t : Int)) ∧ w'.cell? ⟨bb, oo + j * 5 + 2, none⟩ = some (.int .u8 (r : Int)) ∧ w'.cell? ⟨bb, oo + j * 5 + 3, none⟩ = some (u) ∧ w'.cell? ⟨bb, oo + j * 5 + 4, none⟩ = some (.int .i64 p) ∧ w'.cell? ⟨w.heap.size, 0, none⟩ = some (.int .u32 (ta : Int)) ∧ w'.cell? ⟨w.heap.size, 1, none⟩ = some (.int .u8 (ra : Int))) (by kernel_rfl) (SK.out _ (drew1 _)) (fun hHeld => ?_)
      refine rN 0 ?_
      refine rN 1 ?_
      refine rN 2 ?_
      refine rN 3 ?_
      refine rN 4 ?_
      refine rN 5 ?_
      refine rN 6 ?_
      refine rN 7 ?_
      refine rN 8 ?_
      refine rN 9 ?_
      refine rN 10 ?_
      refine rN 12 ?_
      refine wpAnyH_ready (rs := [11]) (by kernel_rfl) (by simp) ?_
      refine AllReadyH.cons rfl (fun K hK => ?_) ?zc11
      case zc11 => exact AllReadyH.nil
      go_simp
      refine (TG.out _ hHeld.1).mono ?_
      rintro e w9c11 ⟨rfl, b9⟩
      refine hK.out _ _ (SK.out _ (bt hHeld.1 b9)) (fun hNew => ?_)
      clear hHeld
      have hHeld := hNew
      clear hNew hK K
      refine rX ?_
      refine rN 13 ?_
      refine rN 14 ?_
      refine wpAnyH_done (by kernel_rfl) ?_ _
      go_wp2
      go_roundw
      case rel => exact ⟨j + 1, by omega, by go_num, NJ, Lib.hid (bt hbel.out hHeld.1)⟩
      case measure => simp [intOf]; omega
    · have NJ : Hid (∀ i (h : i < l.length), i < j + 1 → (l[i]'h).k = 3 → tgt (l[i]'h) ≠ A) := fun i h hi => by
        by_cases e : i = j
        · subst e; rw [← HX.out, HK.out]; intro _; exact HNM.out rfl
        · exact hno.out i h (by omega)
      clear HNM HM HK
      go_wp2
      refine wp_region_held_drew (S := fun w' => Below wr.heap.size wr w' ∧ w'.cell? ⟨bb, oo + j * 5, none⟩ = some (.int .u8 ((3 : Nat) : Int)) ∧ w'.cell? ⟨bb, oo + j * 5 + 1, none⟩ = some (.int .u32 (t : Int)) ∧ w'.cell? ⟨bb, oo + j * 5 + 2, none⟩ = some (.int .u8 (r : Int)) ∧ w'.cell? ⟨bb, oo + j * 5 + 3, none⟩ = some (u) ∧ w'.cell? ⟨bb, oo + j * 5 + 4, none⟩ = some (.int .i64 p) ∧ w'.cell? ⟨w.heap.size, 0, none⟩ = some (.int .u32 (ta : Int)) ∧ w'.cell? ⟨w.heap.size, 1, none⟩ = some (.int .u8 (ra : Int))) (by kernel_rfl) (SK.out _ (drew1 _)) (fun hHeld => ?_)
      refine rN 0 ?_
      refine rN 1 ?_
      refine rN 2 ?_
      refine rN 3 ?_
      refine rN 4 ?_
      refine rN 5 ?_
      refine rN 6 ?_
      refine rN 7 ?_
      refine rN 8 ?_
      refine rN 9 ?_
      refine rN 10 ?_
      refine rN 12 ?_
      refine wpAnyH_ready (rs := [11]) (by kernel_rfl) (by simp) ?_
      refine AllReadyH.cons rfl (fun K hK => ?_) ?zd11
      case zd11 => exact AllReadyH.nil
      go_simp
      refine (TG.out _ hHeld.1).mono ?_
      rintro e w9d11 ⟨rfl, b9⟩
      refine hK.out _ _ (SK.out _ (bt hHeld.1 b9)) (fun hNew => ?_)
      clear hHeld
      have hHeld := hNew
      clear hNew hK K
      refine rX ?_
      refine rN 13 ?_
      refine rN 14 ?_
      refine wpAnyH_done (by kernel_rfl) ?_ _
      go_wp2
      go_roundw
      case rel => exact ⟨j + 1, by omega, by go_num, NJ, Lib.hid (bt hbel.out hHeld.1)⟩
      case measure => simp [intOf]; omega
    · obtain rfl := HM.out rfl
      clear HNM HM HK
      go_wp2
      refine wp_region_held_drew (S := fun w' => Below wr.heap.size wr w' ∧ w'.cell? ⟨bb, oo + j * 5, none⟩ = some (.int .u8 ((3 : Nat) : Int)) ∧ w'.cell? ⟨bb, oo + j * 5 + 1, none⟩ = some (.int .u32 (t : Int)) ∧ w'.cell? ⟨bb, oo + j * 5 + 2, none⟩ = some (.int .u8 (r : Int)) ∧ w'.cell? ⟨bb, oo + j * 5 + 3, none⟩ = some (u) ∧ w'.cell? ⟨bb, oo + j * 5 + 4, none⟩ = some (.int .i64 p) ∧ w'.cell? ⟨w.heap.size, 0, none⟩ = some (.int .u32 (ta : Int)) ∧ w'.cell? ⟨w.heap.size, 1, none⟩ = some (.int .u8 (ra : Int))) (by kernel_rfl) (SK.out _ (drew1 _)) (fun hHeld => ?_)
      refine rN 0 ?_
      refine rN 1 ?_
      refine rN 2 ?_
      refine rN 3 ?_
      refine rN 4 ?_
      refine rN 5 ?_
      refine rN 6 ?_
      refine rN 7 ?_
      refine rN 8 ?_
      refine rN 9 ?_
      refine rN 10 ?_
      refine rN 12 ?_
      refine wpAnyH_ready (rs := [11]) (by kernel_rfl) (by simp) ?_
      refine AllReadyH.cons rfl (fun K hK => ?_) ?ze11
      case ze11 => exact AllReadyH.nil
      go_simp
      refine (TG.out _ hHeld.1).mono ?_
      rintro e w9e11 ⟨rfl, b9⟩
      refine hK.out _ _ (SK.out _ (bt hHeld.1 b9)) (fun hNew => ?_)
      clear hHeld
      have hHeld := hNew
      clear hNew hK K
      refine rX ?_
      refine rN 13 ?_
      refine rN 14 ?_
      refine wpAnyH_done (by kernel_rfl) ?_ _
      go_wp2
      go_ret
      exact ⟨rfl, bt BW.out hHeld.1⟩
end Go.Proofs.YtgjbnbojjgbmcaaGreat.Views
