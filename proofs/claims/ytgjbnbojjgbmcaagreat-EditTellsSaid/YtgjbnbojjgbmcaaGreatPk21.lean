/- Slices of bytes: what a slice value reads as, in a world; rows that a call has made. Conditions: none. What the calls of edit answer, and that it is what was put one behind the other. Conditions: none. octavo/edit.done[[]octavo/api.Run]: what it answers, of places: by what the function that is handed on answers of each. Conditions: none. octavo/edit.Split, Merge: what each answers. Conditions: the slice's cells are operations. -/
import Derived.Test.YtgjbnbojjgbmcaaGreatChecked
import Derived.WalkKit
import Derived.WalkSpells
import Derived.WalkLawsBesides
import Derived.Laws.BytesArg
import Derived.Lib.Hide
import Derived.Deep.LoopGhost
import Derived.Laws.AppendOwnNone
import Derived.Laws.OwnMore
import Derived.WideShapes
import Derived.Maps.AppendAt
import Derived.RegionTactic
import Derived.Deep.RegionHeld3
import Derived.Deep.DrawnRows
import Derived.Deep.QuietTactic
import Derived.BigQuiet
import Derived.IntWalk
import Derived.Deep.DeepCutAuto
import Derived.ScopeJumps
import Derived.Test.YtgjbnbojjgbmcaaGreatProg
import Derived.LoopTactic
import Derived.Laws.EntriesVeiled
import Derived.RowKit
import Derived.Lib.DecodeN
import Derived.Lib.RuneBytes
import Derived.Laws.CopyOwn
import Derived.Deep.AppendSrc
import Derived.Lib.AppendZeros
import Derived.Laws.MakeOwn
import Derived.Shelf.SlSortCmp.InsertionK
import Derived.Calls
import Derived.StepT
import Derived.Below
import Derived.Sort.Grow
import Derived.Deep.Draws
import Derived.Shelf.SlLaysF0
import Derived.Shelf.SlSortCmp.NoneTotal
import Derived.Maps.Own
import Derived.Maps.OwnOps
import Derived.Maps.OwnSet
import Derived.Maps.Views
import Derived.DeepKeys4
import Derived.Shelf.Abstract
import Derived.RangeFuncBox
import Derived.RangeFuncLeaves
import Derived.RangeFuncNested
import Derived.RangeFuncBound
import Derived.RangeFuncCalls
import Derived.OwnWalkIn
import Derived.TacticsInMore
import Derived.LoopNIn
import Derived.LoopIn
import Derived.Scope
import Derived.Lib.Tables
import Derived.Laws.Bits64
import Derived.Test.YtgjbnbojjgbmcaaGreatShelf
import Derived.Lib.OthersKept
import Derived.BigCall
import Derived.Deep.RegionWith
import Derived.BigRegion
import Derived.Test.YtgjbnbojjgbmcaaGreatPk01
import Derived.Test.YtgjbnbojjgbmcaaGreatPk06
import Derived.Test.YtgjbnbojjgbmcaaGreatPk05
import Derived.Test.YtgjbnbojjgbmcaaGreatPk04
import Derived.Test.YtgjbnbojjgbmcaaGreatPk03
import Derived.Test.YtgjbnbojjgbmcaaGreatPk02
import Derived.Test.YtgjbnbojjgbmcaaGreatPk11
import Derived.Test.YtgjbnbojjgbmcaaGreatPk09
import Derived.Test.YtgjbnbojjgbmcaaGreatPk07
import Derived.Test.YtgjbnbojjgbmcaaGreatPk08
import Derived.Test.YtgjbnbojjgbmcaaGreatPk12
import Derived.Test.YtgjbnbojjgbmcaaGreatPk10

namespace Go.Proofs.YtgjbnbojjgbmcaaGreat
open Go.RowKit
/-- Bytes as cells. -/
def bs (l : List UInt8) : List Value := l.map fun x => .int .u8 (x.toNat : Int)
theorem bs_get (l : List UInt8) (j : Nat) (h : j < l.length) : (bs l)[j]? = some (.int .u8 ((l.getD j 0).toNat : Int)) := by
  simp [bs, List.getD, List.getElem?_eq_getElem h]
/-- In the world w the slice value v reads as the bytes xs. -/
def Reads (w : World) (v : Value) (xs : List UInt8) : Prop :=
  xs.length ≤ 9223372036854775807 ∧ ∃ ao cap, v = .slice ao xs.length cap ∧ xs.length ≤ cap ∧ cap ≤ 9223372036854775807 ∧ (ao = none → cap = 0) ∧
    (xs = [] ∨ ∃ b off, ao = some ⟨b, off, none⟩ ∧ b < w.heap.size ∧ ∀ j, j < xs.length → w.cell? ⟨b, off + j, none⟩ = some (.int .u8 ((xs.getD j 0).toNat : Int)))
theorem strOfNums_bytes (xs : List UInt8) : strOfNums (xs.map fun x => (x.toNat : Int)) = str xs := by
  have : xs.map ((fun n : Int => UInt8.ofNat n.toNat) ∘ fun x : UInt8 => (x.toNat : Int)) = xs := by
    conv => rhs; rw [← List.map_id xs]
    apply List.map_congr_left
    intro x _
    simp
  simp [strOfNums, str, this]
theorem run_string {w : World} {v : Value} {xs : List UInt8} (h : Reads w v xs) : (convert 35 9 v).run Tryz.prog w = .ok (.string (str xs)) w := by
  obtain ⟨h1, ao, cap, rfl, h2, h3, h4, h5⟩ := h
  rcases h5 with h5 | ⟨b, off, rfl, hlt, hc⟩
  · subst h5
    cases ao with
    | none => exact run_convert_bytes_nil w 35 5 Tryz.underlying35 Tryz.underlying5 _ _ _ Tryz.underlying9
    | some a =>
      rw [run_convert_bytes_string w _ _ 5 (some a) _ _ Tryz.underlying35 Tryz.underlying5 Tryz.underlying9]
      exact run_bytesToString w a 0 cap [] (run_loadCells_list (P := Tryz.prog) w a [] (by simp))
  · have := run_convert_bytes_arg (P := Tryz.prog) w 35 5 Tryz.underlying35 Tryz.underlying5 b off xs.length cap (xs.map fun x => (x.toNat : Int)) (by simp)
      (fun i hi => by rw [hc i hi]; simp [List.getD, List.getElem?_eq_getElem hi]) 9 Tryz.underlying9
    rw [strOfNums_bytes] at this
    exact this
end Go.Proofs.YtgjbnbojjgbmcaaGreat

namespace Go.Proofs.YtgjbnbojjgbmcaaGreat.Edits
open Ops Stamp Bags Marks Homes Covers Views Go.Proofs.YtgjbnbojjgbmcaaGreat.Place
def splE (l : List Opn) (r t : Nat) (s : Id) (k : Int) : Int :=
  if askE l r t s = 0 then
    if 0 ≤ k ∧ k ≤ ((elmL l s).length : Int) then
      if 64 ≤ (livesM l l).length then 9 else if 1073741824 < t + 1 then 50 else if (und (leftP l s k.toNat) (mk (t + 1) r)).2 = 0 then 0 else 60
    else 2
  else askE l r t s
def splL (l : List Opn) (r t : Nat) (s : Id) (k : Int) : List Opn := if splE l r t s k = 0 then [mkO 2 (mk (t + 1) r) (und (leftP l s k.toNat) (mk (t + 1) r)).1 0] else []
def merE (l : List Opn) (r t : Nat) (s : Id) : Int :=
  if askE l r t s = 0 then if whereN (livesM l l) s = 0 then 130 else if 1073741824 < t + 1 then 50 else 0
  else askE l r t s
def merL (l : List Opn) (r t : Nat) (s : Id) : List Opn := if merE l r t s = 0 then [mkO 4 (mk (t + 1) r) (beginM (livesM l l) (whereN (livesM l l) s : Int)) 0] else []
end Go.Proofs.YtgjbnbojjgbmcaaGreat.Edits

namespace Go.Proofs.YtgjbnbojjgbmcaaGreat.Edits
open Go.RowKit Go.WideShapes Stamp Go.Proofs.YtgjbnbojjgbmcaaGreat.Place Ops Codes Bags Marks Homes Covers Views
attribute [local go_sem ↓] Go.wp_at_zero Go.wp_at_succ
attribute [local go_sem] yielded_undef
set_option maxRecDepth 100000 in
set_option maxHeartbeats 8000000 in
theorem eDoneR_any {gb go nn cc : Nat} {Y : Nat → List Run} {r t B H F : Nat} {w : World} (O : Nat → Opn) (E : Nat → Int) (eg : ∀ args w, (callFunc F args).run Tryz.prog w = .ok (.enter F args) w) (hn0 : 0 < nn) (hn1 : nn ≤ 64) (ht : t < 4294967296) (hB : B ≤ H) (hH : H ≤ w.heap.size)
    (hc : ∀ W : World, Clocks.Apart B H w W → ∀ j, j < nn → gb < W.heap.size ∧ ∃ u, W.cell? ⟨gb, go + j, none⟩ = some u ∧ W.ownsRow H 32 3 u (Y j).length (runs (Y j)))
    (hf : ∀ (j : Nat) (W : World) (u : Value) (_ : W.ownsRow H 32 3 u (Y j).length (runs (Y j))), j < nn → t + nn ≤ 1073741824 → Clocks.Apart B H w W → Calls Tryz.prog F #[u, .agg #[.int .u32 ((t : Int) + 1 + (j : Int)), .int .u8 (r : Int)]] W fun e w' => ∃ u, e = .returned (.tuple #[opv (O j) u, .int .i64 (E j)]) ∧ w'.ownsRow H 32 3 u (O j).pl.length (runs (O j).pl) ∧ Clocks.Apart B H W w') :
    Calls Tryz.prog 37 #[(.slice (some ⟨gb, go, none⟩) nn cc), .int .u8 (r : Int), .int .u32 (t : Int), .func (.func F) #[] #[]] w (DoneX t nn O E B H w) := by
  obtain ⟨N0, hN0⟩ : ∃ x, w.heap.size = x := ⟨_, rfl⟩
  unfold DoneX
  have HC := Lib.hid hc
  have HF := Lib.hid hf
  obtain ⟨n, hn⟩ : ∃ n, nn = n := ⟨_, rfl⟩
  subst hn
  obtain ⟨n, hn⟩ : ∃ n, nn = n := ⟨_, rfl⟩
  subst hn
  have w5 : IntKind.u32.wrap ((nn : Nat) : Int) = ((nn : Nat) : Int) := IntWalk.u32_in _ (by omega)
  have w6 : IntKind.u32.wrap ((1073741824 : Int) - ((nn : Nat) : Int)) = (1073741824 : Int) - ((nn : Nat) : Int) := IntWalk.u32_in _ (by omega)
  clear hc hf
  by_cases hl : 1073741824 < t + nn
  · have q1 : decide ((1073741824 : Int) - ((nn : Nat) : Int) < (t : Int)) = true := decide_eq_true (by omega)
    have R1 : Hid (Clocks.Apart B H w w) := ⟨Below.refl _ _, fun _ _ _ => rfl⟩
    clear HC HF
    go_enter Tryz.func37, Tryz.ntmps37
    go_wp2
    exact bodyPost_ret (v := .tuple #[.slice none 0 0, .int .i64 50]) (by simp [results, Tryz.results37, go_sem]) rfl ⟨_, _, _, rfl, OwnL.nil _ _, R1.out, .inl ⟨hl, rfl, rfl⟩⟩
  have q1 : decide ((1073741824 : Int) - ((nn : Nat) : Int) < (t : Int)) = false := decide_eq_false (by omega)
  have hl2 : t + nn ≤ 1073741824 := by omega
  obtain ⟨Z, hZ, MK⟩ := made_opsN nn (by omega)
  have HZ := Lib.hid hZ
  have mk1 := MK w
  rw [hN0] at mk1
  obtain ⟨wm, hwm⟩ : ∃ x, w.alloc (.cells Z.toArray 38) = x := ⟨_, rfl⟩
  have HWM := Lib.hid hwm
  have BM : Below w.heap.size w wm := by rw [← hwm]; exact (Below.refl _ _).alloc (Nat.le_refl _) _
  have L0 : Hid (Laid H N0 Z O 0 wm) := ⟨[], rfl, by rw [← hwm, ← hN0]; exact blk_new rfl⟩
  have A0 : Hid (Clocks.Apart B H w wm) := Clocks.Apart.of BM (Nat.le_trans hB hH)
  rw [hN0] at hH
  have HN0 := Lib.hid hN0
  have E0 : Hid (∀ i, i < 0 → E i = 0) := fun i h => absurd h (Nat.not_lt_zero i)
  clear hZ MK BM hwm
  go_enter Tryz.func37, Tryz.ntmps37
  go_wp2
  rw [HWM.out]
  go_loopw [8, 23] (fun v8 i wr => ∃ j : Nat, j ≤ nn ∧ v8 = .slice (some ⟨N0, 0, none⟩) nn nn ∧ i = .int .i64 (j : Int) ∧ Hid (Laid H N0 Z O j wr) ∧ Hid (Clocks.Apart B H w wr) ∧ Hid (∀ i, i < j → E i = 0)) (fun _ i _ => nn - (intOf i).toNat)
  case atStart => exact ⟨0, by omega, rfl, rfl, L0, A0, E0⟩
  case round =>
    clear L0 A0 E0
    obtain ⟨j, hj, rfl, rfl, hlaid, hap, hez⟩ := hrel
    by_cases hjn : j < nn
    rotate_left
    · have q3 : decide (j < nn) = false := by simpa using hjn
      obtain rfl : j = nn := by omega
      have R1 : Hid (OwnL wr H (.slice (some ⟨N0, 0, none⟩) j j) ((List.range j).map O)) := by
        obtain ⟨A, h1, h2⟩ := hlaid.out
        exact ownl_row h2 hH h1 (by simp) (by rw [List.length_append, List.length_drop, HZ.out, laid_len h1]; omega) (by unfold maxLen; omega)
      clear hlaid
      go_wp2
      exact bodyPost_ret (v := .tuple #[.slice (some ⟨N0, 0, none⟩) j j, .int .i64 0]) (by simp [results, Tryz.results37, go_sem]) rfl ⟨_, _, _, rfl, R1.out, hap.out, .inr (.inr ⟨hl2, hez.out, rfl, rfl⟩)⟩
    have q3 : decide (j < nn) = true := by simpa using hjn
    have q4 : (0 : Int) ≤ (j : Int) := by omega
    have q5 : (j : Int) < (nn : Int) := by omega
    have w1 : IntKind.u32.wrap (j : Int) = (j : Int) := IntWalk.u32_in _ (by omega)
    have w2 : IntKind.u32.wrap ((t : Int) + 1) = (t : Int) + 1 := IntWalk.u32_in _ (by omega)
    have w3 : IntKind.u32.wrap ((t : Int) + 1 + (j : Int)) = (t : Int) + 1 + (j : Int) := IntWalk.u32_in _ (by omega)
    obtain ⟨hbb, u, h0, hu⟩ := HC.out wr hap.out j hjn
    obtain ⟨uo, uc, rfl⟩ : ∃ ao cap, u = .slice ao (Y j).length cap := Sees.shape (Sees.own hu)
    have CH := HF.out j wr _ hu hjn hl2 hap.out
    obtain ⟨ny, hny⟩ : ∃ z, (Y j).length = z := ⟨_, rfl⟩
    rw [hny] at h0 CH
    have CH := Lib.hid CH
    clear hny hu
    obtain ⟨o, ho⟩ : ∃ o, O j = o := ⟨_, rfl⟩
    obtain ⟨x, hx5⟩ : ∃ x, E j = x := ⟨_, rfl⟩
    rw [ho, hx5] at CH
    have HO : Hid (∀ v : Value, opv o v = .agg #[.int .u8 (o.k : Int), .int .u32 (o.t : Int), .int .u8 (o.r : Int), v, .int .i64 o.p]) := fun v => rfl
    have ST : Hid (∀ (W X : World) (u : Value), Clocks.Apart B H wr W → W.ownsRow H 32 3 u o.pl.length (runs o.pl) → X = (((((W.setCell ⟨N0, j * 5, none⟩ (.int .u8 (o.k : Int))).setCell ⟨N0, j * 5 + 1, none⟩ (.int .u32 (o.t : Int))).setCell ⟨N0, j * 5 + 2, none⟩ (.int .u8 (o.r : Int))).setCell ⟨N0, j * 5 + 3, none⟩ u).setCell ⟨N0, j * 5 + 4, none⟩ (.int .i64 o.p)) →
        Laid H N0 Z O (j + 1) X ∧ Clocks.Apart B H w X) := fun W X u ha hu hX => by
      have hl9 := laid_apart hlaid.out hH ha
      obtain ⟨h1, cur, cs9, h2, h3⟩ := laid_step (B := B) HZ.out hjn ho hl9 (by omega) hu hX
      exact ⟨h1, apart_copied (apart_trans hap.out ha) (by rw [HN0.out]; omega) (by omega) h3⟩
    have FV : Hid (∀ W : World, Clocks.Apart B H wr W → (∃ c0 c1 c2 c3 c4, FiveAt W N0 (j * 5) c0 c1 c2 c3 c4) ∧ ∀ q, W.frozen? ⟨N0, q, none⟩ = false) := fun W ha => by
      have hl9 := laid_apart hlaid.out hH ha
      exact ⟨laid_five HZ.out hjn hl9, fun q => laid_free hl9 q⟩
    have EZ := Lib.hid hx5
    obtain ⟨ok, hk⟩ : ∃ z, o.k = z := ⟨_, rfl⟩
    obtain ⟨ot, hot⟩ : ∃ z, o.t = z := ⟨_, rfl⟩
    obtain ⟨or, hor⟩ : ∃ z, o.r = z := ⟨_, rfl⟩
    obtain ⟨op, hop⟩ : ∃ z, o.p = z := ⟨_, rfl⟩
    rw [hk, hot, hor, hop] at HO ST
    simp only [HO.out] at CH
    clear HO hk hot hor hop hx5 ho
    by_cases hx0 : x = 0
    · subst hx0
      go_wp2_with fail
      refine CH.out.mono ?_
      rintro e w5 ⟨u5, rfl, o5, a5⟩
      obtain ⟨vo, vc5, rfl⟩ : ∃ ao cap, u5 = .slice ao o.pl.length cap := Sees.shape (Sees.own o5)
      have O5 := Lib.hid o5
      have A5 := Lib.hid a5
      obtain ⟨⟨c0, c1, c2, c3, c4, hsz, g0, g1, g2, g3, g4⟩, hfr⟩ := FV.out w5 a5
      obtain ⟨no, hno⟩ : ∃ z, o.pl.length = z := ⟨_, rfl⟩
      rw [hno] at O5 ⊢
      have SX := Lib.hid (fun X h => ST.out w5 X _ A5.out (by rw [hno]; exact O5.out) h)
      clear o5 a5 CH hno h0
      go_wp2
      obtain ⟨X, hX⟩ : ∃ X, X = (((((w5.setCell ⟨N0, j * 5, none⟩ (.int .u8 (ok : Int))).setCell ⟨N0, j * 5 + 1, none⟩ (.int .u32 (ot : Int))).setCell ⟨N0, j * 5 + 2, none⟩ (.int .u8 (or : Int))).setCell ⟨N0, j * 5 + 3, none⟩ (.slice vo no vc5)).setCell ⟨N0, j * 5 + 4, none⟩ (.int .i64 op)) := ⟨_, rfl⟩
      have SY := SX.out X hX
      try rw [← hX]
      clear hX SX
      have TX := Lib.hid SY.1
      have AX := Lib.hid SY.2
      have EX : Hid (∀ i, i < j + 1 → E i = 0) := fun i hi => by
        by_cases h : i < j
        · exact hez.out i h
        · obtain rfl : i = j := by omega
          exact EZ.out
      clear SY
      go_roundw
      case rel => exact ⟨j + 1, by omega, rfl, by go_num, TX, AX, EX⟩
      case measure => simp [intOf]; omega
    · have q6 : (x != 0) = true := by simpa using hx0
      have q7 : decide (x = 0) = false := decide_eq_false hx0
      go_wp2_with fail
      refine CH.out.mono ?_
      rintro e w5 ⟨u5, rfl, o5, a5⟩
      obtain ⟨vo, vc5, rfl⟩ : ∃ ao cap, u5 = .slice ao o.pl.length cap := Sees.shape (Sees.own o5)
      have O5 := Lib.hid o5
      have A5 := Lib.hid a5
      obtain ⟨⟨c0, c1, c2, c3, c4, hsz, g0, g1, g2, g3, g4⟩, hfr⟩ := FV.out w5 a5
      obtain ⟨no, hno⟩ : ∃ z, o.pl.length = z := ⟨_, rfl⟩
      rw [hno] at O5 ⊢
      have SX := Lib.hid (fun X h => ST.out w5 X _ A5.out (by rw [hno]; exact O5.out) h)
      clear o5 a5 CH hno h0
      go_wp2
      obtain ⟨X, hX⟩ : ∃ X, X = (((((w5.setCell ⟨N0, j * 5, none⟩ (.int .u8 (ok : Int))).setCell ⟨N0, j * 5 + 1, none⟩ (.int .u32 (ot : Int))).setCell ⟨N0, j * 5 + 2, none⟩ (.int .u8 (or : Int))).setCell ⟨N0, j * 5 + 3, none⟩ (.slice vo no vc5)).setCell ⟨N0, j * 5 + 4, none⟩ (.int .i64 op)) := ⟨_, rfl⟩
      have SY := SX.out X hX
      try rw [← hX]
      clear hX SX
      have AX := Lib.hid SY.2
      clear SY
      exact bodyPost_ret (v := .tuple #[.slice none 0 0, .int .i64 x]) (by simp [results, Tryz.results37, go_sem]) rfl ⟨_, _, _, rfl, OwnL.nil _ _, AX.out, .inr (.inl ⟨hl2, j, hjn, hez.out, by rw [EZ.out]; exact hx0, EZ.out.symm, rfl⟩)⟩
end Go.Proofs.YtgjbnbojjgbmcaaGreat.Edits

namespace Go.Proofs.YtgjbnbojjgbmcaaGreat.Edits
open Go.RowKit Go.WideShapes Stamp Go.Proofs.YtgjbnbojjgbmcaaGreat.Place Ops Codes Bags Marks Homes Covers Views
attribute [local go_sem ↓] Go.wp_at_zero Go.wp_at_succ
attribute [local go_sem] yielded_undef
theorem where_zero {live : List Opn} {s : Id} : whereN live s = 0 ↔ s = zid := by
  unfold whereN sectsM
  rw [List.findIdx_cons]
  by_cases h : zid = s
  · rw [decide_eq_true h]
    exact ⟨fun _ => h.symm, fun _ => rfl⟩
  · rw [decide_eq_false h]
    exact ⟨fun h2 => absurd h2 (Nat.succ_ne_zero _), fun h2 => absurd h2.symm h⟩
/-- A row of one place. -/
theorem one_row {w : World} {u : Value} : (w.alloc (.cells #[u] 33)).cell? ⟨w.heap.size, 0, none⟩ = some u := by
  rw [cell_of_row _ _ 0 _ _ _ (blk_new rfl)]
  rfl
set_option maxRecDepth 100000 in
set_option maxHeartbeats 8000000 in
theorem splOne_any (a : Id) {p : List Run} {b : Nat} {uo : Option Addr} {um uc : Nat} {W : World} (hu : W.ownsRow b 32 3 (.slice uo um uc) p.length (runs p)) :
    Calls Tryz.prog 38 #[.slice uo um uc, .agg #[.int .u32 (a.t : Int), .int .u8 (a.r : Int)]] W fun e w' => ∃ u, e = .returned (.tuple #[opv (mkO 2 a (und p a).1 0) u, .int .i64 (und p a).2]) ∧ w'.ownsRow W.heap.size 32 3 u (und p a).1.length (runs (und p a).1) ∧ Below W.heap.size W w' := by
  obtain ⟨wb, hwb⟩ : ∃ x, x = W.alloc (.cells #[.int .u32 (a.t : Int), .int .u8 (a.r : Int)] 28) := ⟨_, rfl⟩
  obtain ⟨wl, hwl⟩ : ∃ x, x = wb.alloc (.cells #[.int .u8 0, .int .u32 0, .int .u8 0, .slice none 0 0, .int .i64 0] 38) := ⟨_, rfl⟩
  have hsz : wb.heap.size = W.heap.size + 1 := by rw [hwb]; exact Array.size_push _
  have hsl : wl.heap.size = W.heap.size + 2 := by rw [hwl]; exact (Array.size_push _).trans (by rw [hsz])
  have Z0 : wl.heap[W.heap.size + 1]? = some (.cells #[.int .u8 0, .int .u32 0, .int .u8 0, .slice none 0 0, .int .i64 0] 38) := by rw [hwl, ← hsz]; exact blk_new rfl
  have Bb : Below W.heap.size W wb := by rw [hwb]; exact (Below.refl _ _).alloc (Nat.le_refl _) _
  have B0 : Below W.heap.size W wl := by rw [hwl]; exact Bb.alloc (by omega) _
  have Y0 : wl.heap[W.heap.size]? = some (.cells #[.int .u32 (a.t : Int), .int .u8 (a.r : Int)] 28) := by
    have h1 : wb.heap[W.heap.size]? = some (.cells #[.int .u32 (a.t : Int), .int .u8 (a.r : Int)] 28) := by rw [hwb]; exact blk_new rfl
    rw [hwl]
    exact blk_below ((Below.refl _ _).alloc (Nat.le_refl _) _) h1
  have HW : Hid (wl = (W.alloc (.cells #[.int .u32 (a.t : Int), .int .u8 (a.r : Int)] 28)).alloc (.cells #[.int .u8 0, .int .u32 0, .int .u8 0, .slice none 0 0, .int .i64 0] 38)) := by rw [hwl, hwb]; rfl
  have UN : Hid (Calls Tryz.prog 35 #[.slice uo um uc, .agg #[.int .u32 (a.t : Int), .int .u8 (a.r : Int)]] wl (Undone (und p a).1 (und p a).2 wl)) := pUnder_any (Runs.own (own_stays hu B0))
  obtain ⟨U, hU⟩ : ∃ U, (und p a).1 = U := ⟨_, rfl⟩
  obtain ⟨x, hx⟩ : ∃ x, (und p a).2 = x := ⟨_, rfl⟩
  rw [hU, hx] at UN ⊢
  have HO : Hid (∀ u : Value, opv (mkO 2 a U 0) u = .agg #[.int .u8 2, .int .u32 (a.t : Int), .int .u8 (a.r : Int), u, .int .i64 0]) := fun u => rfl
  simp only [HO.out]
  have HB0 := Lib.hid B0
  have HY0 := Lib.hid Y0
  have HZ0 := Lib.hid Z0
  have HSL := Lib.hid hsl
  have y0 := cell_of_row _ _ 0 _ _ _ Y0
  have y1 := cell_of_row _ _ 1 _ _ _ Y0
  obtain ⟨ta, ra, hta, hra⟩ := a
  simp only at UN HY0 HW y0 y1 ⊢
  clear hu hwb hwl hsz hsl Bb B0 Y0 Z0 hU hx HO
  go_enter Tryz.func38, Tryz.ntmps38
  go_wp2_with fail
  rw [← HW.out]
  refine UN.out.mono ?_
  rintro e w1 ⟨vo, vc, rfl, o1, b1⟩
  have B1 := Lib.hid (bt HB0.out b1)
  have Y1 := blk_below b1 HY0.out
  have Z1 := blk_below b1 HZ0.out
  obtain ⟨nu, hnu⟩ : ∃ n, U.length = n := ⟨_, rfl⟩
  have HNU := Lib.hid hnu
  rw [hnu] at o1 ⊢
  have O1 := Lib.hid o1
  have HZ1 := Lib.hid Z1
  have q3 := cell_of_row _ _ 0 _ _ _ Y1
  have q4 := cell_of_row _ _ 1 _ _ _ Y1
  obtain ⟨z0, z1, z2, z3, z4⟩ := cells5 Z1
  have hf9 : ∀ o, w1.frozen? ⟨W.heap.size + 1, o, none⟩ = false := fun o => free5 Z1 o
  clear o1 b1 Y1 Z1 hnu UN HW y0 y1
  go_wp2
  obtain ⟨WX, hWX⟩ : ∃ y, y = put5 w1 (W.heap.size + 1) (.int .u8 2) (.int .u32 (ta : Int)) (.int .u8 (ra : Int)) (.slice vo nu vc) (.int .i64 0) := ⟨_, rfl⟩
  have OW := op_base (put5_own (.int .u8 2) (.int .u32 (ta : Int)) (.int .u8 (ra : Int)) (.slice vo nu vc) (.int .i64 0) O1.out (show W.heap.size + 1 < wl.heap.size by rw [HSL.out]; omega)) (show W.heap.size ≤ wl.heap.size by rw [HSL.out]; omega)
  have BW := put5_below (.int .u8 2) (.int .u32 (ta : Int)) (.int .u8 (ra : Int)) (.slice vo nu vc) (.int .i64 0) (show W.heap.size ≤ W.heap.size + 1 by omega) B1.out
  obtain ⟨e0, e1, e2, e3, e4⟩ := cells5 (put5_same (.int .u8 2) (.int .u32 (ta : Int)) (.int .u8 (ra : Int)) (.slice vo nu vc) (.int .i64 0) HZ1.out)
  rw [← hWX] at OW BW e0 e1 e2 e3 e4
  unfold put5 at hWX
  rw [← hWX]
  exact bodyPost_ret (v := .tuple #[.agg #[.int .u8 2, .int .u32 (ta : Int), .int .u8 (ra : Int), .slice vo nu vc, .int .i64 0], .int .i64 x]) (by simp [results, Tryz.results38, go_sem, e0, e1, e2, e3, e4]) rfl ⟨_, rfl, by rw [HNU.out]; exact OW, BW⟩
set_option maxRecDepth 100000 in
set_option maxHeartbeats 8000000 in
theorem merOne_any (a : Id) {p : List Run} {uo : Option Addr} {um uc : Nat} {W : World} :
    Calls Tryz.prog 40 #[.slice uo um uc, .agg #[.int .u32 (a.t : Int), .int .u8 (a.r : Int)]] W fun e w' => e = .returned (.tuple #[opv (mkO 4 a p 0) (.slice uo um uc), .int .i64 0]) ∧ Below W.heap.size W w' := by
  have HO : opv (mkO 4 a p 0) (.slice uo um uc) = .agg #[.int .u8 4, .int .u32 (a.t : Int), .int .u8 (a.r : Int), .slice uo um uc, .int .i64 0] := rfl
  rw [HO]
  obtain ⟨ta, ra, hta, hra⟩ := a
  simp only
  clear HO
  have B0 : Hid (Below W.heap.size W ((W.alloc (.cells #[.int .u32 (ta : Int), .int .u8 (ra : Int)] 28)).alloc (.cells #[.int .u8 4, .int .u32 (ta : Int), .int .u8 (ra : Int), .slice uo um uc, .int .i64 0] 38))) :=
    ((Below.refl _ _).alloc (Nat.le_refl _) _).alloc (by simp) _
  go_enter Tryz.func40, Tryz.ntmps40
  go_wp2
  exact bodyPost_ret (v := .tuple #[.agg #[.int .u8 4, .int .u32 (ta : Int), .int .u8 (ra : Int), .slice uo um uc, .int .i64 0], .int .i64 0]) (by simp [results, Tryz.results40, go_sem]) rfl ⟨rfl, B0.out⟩
set_option maxRecDepth 100000 in
set_option maxHeartbeats 8000000 in
theorem eSplit_any {v : Value} {l : List Opn} {r t : Nat} (s : Id) (k : Int) {w : World} (hv : OpL w v l) (hr : r < 256) (ht : t < 4294967296) (hk : k ≤ 9223372036854775807) :
    Calls Tryz.prog 8 #[v, .int .u8 (r : Int), .int .u32 (t : Int), .agg #[.int .u32 (s.t : Int), .int .u8 (s.r : Int)], .int .i64 k] w (DoneN (splL l r t s k) (splE l r t s k) w) := by
  obtain ⟨wl, hwl⟩ : ∃ x, x = w.alloc (.cells #[.int .u32 (s.t : Int), .int .u8 (s.r : Int)] 28) := ⟨_, rfl⟩
  have B0 : Hid (Below w.heap.size w wl) := by rw [hwl]; exact (Below.refl _ _).alloc (Nat.le_refl _) _
  have Y0 : Hid (wl.heap[w.heap.size]? = some (.cells #[.int .u32 (s.t : Int), .int .u8 (s.r : Int)] 28)) := by rw [hwl]; exact blk_new rfl
  have HW := Lib.hid hwl
  have LE : Hid (Calls Tryz.prog 32 #[v, .int .u8 (r : Int), .int .u32 (t : Int), .agg #[.int .u32 (s.t : Int), .int .u8 (s.r : Int)], .int .i64 k] wl (LefN l r t s k wl)) := eLeft_any s k (hv.keeps B0.out) hr ht hk
  unfold LefN at LE
  have hask : lefE l r t s k = 0 → askE l r t s = 0 ∧ 0 ≤ k ∧ k ≤ ((elmL l s).length : Int) := fun h => by
    unfold lefE at h
    by_cases h1 : askE l r t s = 0
    · rw [if_pos h1] at h
      by_cases h2 : 0 ≤ k ∧ k ≤ ((elmL l s).length : Int)
      · exact ⟨h1, h2⟩
      · rw [if_neg h2] at h; cases h
    · rw [if_neg h1] at h; exact absurd h h1
  have LV : Hid (lefE l r t s k = 0 → ∀ W : World, Below w.heap.size w W → Calls Tryz.prog 36 #[v] W (DoneN (livesM l l) 0 W)) := fun h W hW => by
    have hb := (spanE_zero.1 (askE_zero.1 (hask h).1).2.2).1
    have := mLive_any (hv.keeps hW)
    rwa [chkL_yes hb, live_yes hb] at this
  unfold DoneN at LV
  have HE : Hid (splE l r t s k = if lefE l r t s k = 0 then (if 64 ≤ (livesM l l).length then 9 else if 1073741824 < t + 1 then 50 else if (und (leftP l s k.toNat) (mk (t + 1) r)).2 = 0 then 0 else 60) else lefE l r t s k) := by
    unfold Hid splE lefE
    by_cases h1 : askE l r t s = 0
    · rw [if_pos h1, if_pos h1]
      by_cases h2 : 0 ≤ k ∧ k ≤ ((elmL l s).length : Int)
      · rw [if_pos h2, if_pos h2]; rfl
      · rw [if_neg h2, if_neg h2]; rfl
    · rw [if_neg h1, if_neg h1, if_neg h1]
  have HL : Hid (splL l r t s k = if splE l r t s k = 0 then [mkO 2 (mk (t + 1) r) (und (leftP l s k.toNat) (mk (t + 1) r)).1 0] else []) := rfl
  have HLP : Hid (lefE l r t s k = 0 → lefP l r t s k = leftP l s k.toNat ∧ r < 8 ∧ anyB (leftP l s k.toNat) = true ∧ Upto t (all (leftP l s k.toNat))) := fun h => by
    obtain ⟨ha, hk2⟩ := hask h
    obtain ⟨a1, a2, a3⟩ := askE_zero.1 ha
    exact ⟨by unfold lefP; rw [if_pos h], a1, left_any a3 (by omega), left_upto a3 (by omega) a2⟩
  obtain ⟨ao, cap, rfl⟩ := hv.shape
  obtain ⟨n, hn⟩ : ∃ n, l.length = n := ⟨_, rfl⟩
  rw [hn] at LE LV ⊢
  obtain ⟨ie, hie⟩ : ∃ x, splE l r t s k = x := ⟨_, rfl⟩
  rw [hie] at HE HL ⊢
  obtain ⟨il, hil⟩ : ∃ x, splL l r t s k = x := ⟨_, rfl⟩
  rw [hil] at HL ⊢
  obtain ⟨a, ha⟩ : ∃ a, lefE l r t s k = a := ⟨_, rfl⟩
  rw [ha] at LE LV HE HLP
  obtain ⟨LP, hLP⟩ : ∃ LP, leftP l s k.toNat = LP := ⟨_, rfl⟩
  rw [hLP] at HE HL HLP
  obtain ⟨P, hP⟩ : ∃ P, lefP l r t s k = P := ⟨_, rfl⟩
  rw [hP] at LE HLP
  obtain ⟨V, hV⟩ : ∃ V, livesM l l = V := ⟨_, rfl⟩
  rw [hV] at LV HE
  obtain ⟨nv, hnv⟩ : ∃ n, V.length = n := ⟨_, rfl⟩
  rw [hnv] at HE
  have HNV := Lib.hid hnv
  clear hv hwl hn hie hil ha hLP hP hV hnv hk hask
  obtain ⟨ts, rs, hts, hrs⟩ := s
  simp only at Y0 HW LE ⊢
  have d0 := cell_of_row _ _ 0 _ _ _ Y0.out
  have d1 := cell_of_row _ _ 1 _ _ _ Y0.out
  by_cases h0 : a = 0
  rotate_left
  · obtain rfl : ie = a := by rw [HE.out, if_neg h0]
    obtain rfl : il = [] := by rw [HL.out, if_neg h0]
    have t1 : (ie != 0) = true := by simpa using h0
    have t2 : decide (ie = 0) = false := decide_eq_false h0
    clear HE HL HLP LV
    go_enter Tryz.func8, Tryz.ntmps8
    go_wp2_with fail
    rw [← HW.out]
    refine LE.out.mono ?_
    rintro e w1 ⟨v1, rfl, o1, b1⟩
    have B1 := Lib.hid (bt B0.out b1)
    clear b1 o1 Y0 B0 HW LE d0 d1
    go_wp2
    exact bodyPost_ret (v := .tuple #[.slice none 0 0, .int .i64 ie]) (by simp [results, Tryz.results8, go_sem]) rfl ⟨_, rfl, OwnL.nil _ _, B1.out⟩
  subst h0
  rw [if_pos rfl] at HE
  have LV2 := Lib.hid (LV.out rfl)
  obtain ⟨hPL, hr8, hAL, hUL⟩ := HLP.out rfl
  subst hPL
  clear HLP LV
  by_cases h64 : 64 ≤ nv
  · obtain rfl : ie = 9 := by rw [HE.out, if_pos h64]
    obtain rfl : il = [] := by rw [HL.out, if_neg (by decide)]
    have t1 : decide (64 ≤ nv) = true := decide_eq_true h64
    have t2 : decide ((64 : Int) ≤ (nv : Int)) = true := decide_eq_true (by omega)
    clear HE HL hAL hUL
    go_enter Tryz.func8, Tryz.ntmps8
    go_wp2_with fail
    rw [← HW.out]
    refine LE.out.mono ?_
    rintro e w1 ⟨v1, rfl, o1, b1⟩
    obtain ⟨po, pc, rfl⟩ : ∃ ao cap, v1 = .slice ao P.length cap := Sees.shape (Sees.own o1)
    obtain ⟨np, hnp⟩ : ∃ n, P.length = n := ⟨_, rfl⟩
    have HNP := Lib.hid hnp
    rw [hnp] at o1 ⊢
    have B1 := Lib.hid (bt B0.out b1)
    have P1 := Lib.hid (op_base o1 B0.out.size)
    clear b1 o1 Y0 B0 HW LE d0 d1 hnp
    go_wp2_with fail
    refine (LV2.out _ B1.out).mono ?_
    rintro e w2 ⟨v2, rfl, l2, b2⟩
    have B2 := Lib.hid (bt B1.out b2)
    have O1 := Lib.hid (own_stays P1.out b2)
    obtain ⟨lo, lc, rfl⟩ := l2.opl.shape
    have L2 := Lib.hid l2
    rw [HNV.out] at L2 ⊢
    clear b2 l2 P1 LV2
    clear O1 L2 B1
    go_wp2
    exact bodyPost_ret (v := .tuple #[.slice none 0 0, .int .i64 9]) (by simp [results, Tryz.results8, go_sem]) rfl ⟨_, rfl, OwnL.nil _ _, B2.out⟩
  have t1 : decide (64 ≤ nv) = false := decide_eq_false h64
  have t2 : decide ((64 : Int) ≤ (nv : Int)) = false := decide_eq_false (by omega)
  rw [if_neg h64] at HE
  have HR : Hid (∀ (E : Nat → Int), E 0 = eI P r t 0 → ∀ (x4 : Int) (L4 : List Opn), ((1073741824 < t + 1 ∧ x4 = 50 ∧ L4 = []) ∨ (t + 1 ≤ 1073741824 ∧ ∃ j, j < 1 ∧ (∀ i, i < j → E i = 0) ∧ E j ≠ 0 ∧ x4 = E j ∧ L4 = []) ∨ (t + 1 ≤ 1073741824 ∧ (∀ i, i < 1 → E i = 0) ∧ x4 = 0 ∧ L4 = (List.range 1).map (fun j => mkO 2 (mk (t + j + 1) r) (und P (mk (t + j + 1) r)).1 0))) → x4 = ie ∧ L4 = il) := fun E hE0 x4 L4 h => by
    have hE := HE.out
    have hL := HL.out
    rcases h with ⟨h3, rfl, rfl⟩ | ⟨h3, j, h4, h5, h6, rfl, rfl⟩ | ⟨h3, h4, rfl, rfl⟩
    · rw [if_pos h3] at hE
      rw [hE] at hL ⊢
      rw [hL, if_neg (by decide)]
      exact ⟨rfl, rfl⟩
    · obtain rfl : j = 0 := by omega
      have h7 : (und P (mk (t + 1) r)).2 ≠ 0 := by rw [hE0] at h6; exact h6
      rw [if_neg (by omega), if_neg h7] at hE
      rw [hE] at hL ⊢
      rw [hL, if_neg (by decide)]
      rw [hE0] at h6 ⊢
      rcases eI_deep hAL hUL hr8 (by omega) (fun i hi => absurd hi (Nat.not_lt_zero i)) with h8 | h8
      · exact absurd h8 h6
      · exact ⟨h8, rfl⟩
    · have h7 : (und P (mk (t + 1) r)).2 = 0 := by have h8 := h4 0 (by decide); rw [hE0] at h8; exact h8
      rw [if_neg (by omega), if_pos h7] at hE
      rw [hE] at hL ⊢
      rw [hL, if_pos rfl]
      exact ⟨rfl, rfl⟩
  have DN : Hid (∀ (w3 : World) (g : Nat) (u : Value), w.heap.size ≤ w3.heap.size → w3.cell? ⟨g, 0, none⟩ = some u → g < w3.heap.size → w.heap.size ≤ g → w3.ownsRow w.heap.size 32 3 u P.length (runs P) →
      Calls Tryz.prog 37 #[.slice (some ⟨g, 0, none⟩) 1 1, .int .u8 (r : Int), .int .u32 (t : Int), .func (.func 38) #[] #[]] w3 (DoneX t 1 (fun j => mkO 2 (mk (t + j + 1) r) (und P (mk (t + j + 1) r)).1 0) (fun j => (und P (mk (t + j + 1) r)).2) w.heap.size w.heap.size w3)) := fun w3 g u hsz hcell hg hgb hown => by
    have eg := enters_of Tryz.func38 (by kernel_rfl) rfl
    refine eDoneR_any (nn := 1) (Y := fun _ => P) (O := fun j => mkO 2 (mk (t + j + 1) r) (und P (mk (t + j + 1) r)).1 0) (E := fun j => (und P (mk (t + j + 1) r)).2) eg (by decide) (by decide) ht (Nat.le_refl _) hsz (fun W hW j hj => ?_) (fun j W u hu hj hl hA => ?_)
    · obtain rfl : j = 0 := by omega
      exact ⟨Nat.lt_of_lt_of_le hg hW.1.size, u, by rw [← hcell]; unfold World.cell?; simp only [Nat.zero_add]; rw [hW.2 g hgb hg], Clocks.own_apart hown hW⟩
    · obtain ⟨uo, uc, rfl⟩ : ∃ ao cap, u = .slice ao P.length cap := Sees.shape (Sees.own hu)
      have h := splOne_any (mk (t + j + 1) r) hu
      have e1 : ((mk (t + j + 1) r).t : Int) = (t : Int) + 1 + (j : Int) := by rw [mk_t (by omega)]; omega
      have e2 : ((mk (t + j + 1) r).r : Int) = (r : Int) := by rw [mk_r hr]
      rw [e1, e2] at h
      refine h.mono ?_
      rintro e w' ⟨u2, g1, g2, g3⟩
      exact ⟨u2, g1, op_base g2 (Nat.le_trans hsz hA.1.size), Clocks.Apart.of g3 (Nat.le_trans hsz hA.1.size)⟩
  clear HE HL hAL hUL
  go_enter Tryz.func8, Tryz.ntmps8
  go_wp2_with fail
  rw [← HW.out]
  refine LE.out.mono ?_
  rintro e w1 ⟨v1, rfl, o1, b1⟩
  obtain ⟨po, pc, rfl⟩ : ∃ ao cap, v1 = .slice ao P.length cap := Sees.shape (Sees.own o1)
  obtain ⟨np, hnp⟩ : ∃ n, P.length = n := ⟨_, rfl⟩
  have HNP := Lib.hid hnp
  rw [hnp] at o1 ⊢
  have B1 := Lib.hid (bt B0.out b1)
  have P1 := Lib.hid (op_base o1 B0.out.size)
  clear b1 o1 Y0 B0 HW LE d0 d1 hnp
  go_wp2_with fail
  refine (LV2.out _ B1.out).mono ?_
  rintro e w2 ⟨v2, rfl, l2, b2⟩
  have B2 := Lib.hid (bt B1.out b2)
  have O1 := Lib.hid (own_stays P1.out b2)
  obtain ⟨lo, lc, rfl⟩ := l2.opl.shape
  have L2 := Lib.hid l2
  rw [HNV.out] at L2 ⊢
  clear b2 l2 P1 LV2
  have BM : Below w2.heap.size w2 (w2.alloc (.cells #[.slice po np pc] 33)) := (Below.refl _ _).alloc (Nat.le_refl _) _
  have CD := Lib.hid (DN.out (w2.alloc (.cells #[.slice po np pc] 33)) w2.heap.size (.slice po np pc) (bt B2.out BM).size one_row (by simp) B2.out.size (by rw [HNP.out]; exact own_stays O1.out BM))
  have B3 := Lib.hid (bt B2.out BM)
  clear L2 B1 O1 DN BM B2
  go_wp2_with fail
  refine CD.out.mono ?_
  rintro e w4 ⟨v4, x4, L4, rfl, o4, a4, h4⟩
  have h4' := HR.out (fun j => (und P (mk (t + j + 1) r)).2) rfl x4 L4 h4
  obtain ⟨rfl, rfl⟩ := h4'
  have O4 := Lib.hid o4
  have B4 : Hid (Below w.heap.size w w4) := B3.out.trans a4.1
  clear o4 a4 h4 CD HR
  go_wp2
  exact bodyPost_ret (v := .tuple #[v4, .int .i64 x4]) (by simp [results, Tryz.results8, go_sem]) rfl ⟨_, rfl, O4.out, B4.out⟩
set_option maxRecDepth 100000 in
set_option maxHeartbeats 8000000 in
theorem eMerge_any {v : Value} {l : List Opn} {r t : Nat} (s : Id) {w : World} (hv : OpL w v l) (hr : r < 256) (ht : t < 4294967296) :
    Calls Tryz.prog 10 #[v, .int .u8 (r : Int), .int .u32 (t : Int), .agg #[.int .u32 (s.t : Int), .int .u8 (s.r : Int)]] w (DoneN (merL l r t s) (merE l r t s) w) := by
  obtain ⟨wl, hwl⟩ : ∃ x, x = w.alloc (.cells #[.int .u32 (s.t : Int), .int .u8 (s.r : Int)] 28) := ⟨_, rfl⟩
  have B0 : Hid (Below w.heap.size w wl) := by rw [hwl]; exact (Below.refl _ _).alloc (Nat.le_refl _) _
  have Y0 : Hid (wl.heap[w.heap.size]? = some (.cells #[.int .u32 (s.t : Int), .int .u8 (s.r : Int)] 28)) := by rw [hwl]; exact blk_new rfl
  have HW := Lib.hid hwl
  have AK : Hid (Calls Tryz.prog 39 #[v, .int .u8 (r : Int), .int .u32 (t : Int), .agg #[.int .u32 (s.t : Int), .int .u8 (s.r : Int)]] wl (AskN l r t s wl)) := eAsked_any s (hv.keeps B0.out) hr ht
  unfold AskN at AK
  have hfr : askE l r t s = 0 → beginM (livesM l l) (whereN (livesM l l) s : Int) = askP l r t s := fun h => by
    have h2 := left0 (askE_zero.1 h).2.2
    unfold leftP leftM at h2
    rw [if_neg (Nat.lt_irrefl 0)] at h2
    rw [h2]
    unfold askP
    rw [if_pos h]
  have HE : Hid (merE l r t s = (if askE l r t s = 0 then if s = zid then 130 else if 1073741824 < t + 1 then 50 else 0 else askE l r t s)) := by
    unfold Hid merE
    by_cases h : s = zid
    · rw [if_pos (where_zero.2 h), if_pos h]
    · rw [if_neg (fun h2 => h (where_zero.1 h2)), if_neg h]
  have HL : Hid (askE l r t s = 0 → merL l r t s = if merE l r t s = 0 then [mkO 4 (mk (t + 1) r) (askP l r t s) 0] else []) := fun h => by
    rw [← hfr h]; rfl
  have HL0 : Hid (merL l r t s = if merE l r t s = 0 then [mkO 4 (mk (t + 1) r) (beginM (livesM l l) (whereN (livesM l l) s : Int)) 0] else []) := rfl
  have HN0 : Hid (merE l r t s ≠ 0 → merL l r t s = []) := fun h => by rw [HL0.out, if_neg h]
  have HZ : Hid (s = zid ↔ s.t = 0 ∧ s.r = 0) := Id.eq_iff
  obtain ⟨ao, cap, rfl⟩ := hv.shape
  obtain ⟨n, hn⟩ : ∃ n, l.length = n := ⟨_, rfl⟩
  rw [hn] at AK ⊢
  obtain ⟨ie, hie⟩ : ∃ x, merE l r t s = x := ⟨_, rfl⟩
  rw [hie] at HE HL HN0 ⊢
  obtain ⟨il, hil⟩ : ∃ x, merL l r t s = x := ⟨_, rfl⟩
  rw [hil] at HL HN0 ⊢
  obtain ⟨a, ha⟩ : ∃ a, askE l r t s = a := ⟨_, rfl⟩
  rw [ha] at AK HE HL
  obtain ⟨P, hP⟩ : ∃ P, askP l r t s = P := ⟨_, rfl⟩
  rw [hP] at AK HL
  simp only [HZ.out] at HE
  clear hv hwl hn hie hil ha hP HL0 HZ hfr
  obtain ⟨ts, rs, hts, hrs⟩ := s
  simp only at Y0 HW AK HE ⊢
  by_cases h0 : a = 0
  rotate_left
  · obtain rfl : ie = a := by rw [HE.out, if_neg h0]
    obtain rfl : il = [] := HN0.out h0
    have t1 : (ie != 0) = true := by simpa using h0
    have t2 : decide (ie = 0) = false := decide_eq_false h0
    have d0 := cell_of_row _ _ 0 _ _ _ Y0.out
    have d1 := cell_of_row _ _ 1 _ _ _ Y0.out
    clear HE HL HN0
    go_enter Tryz.func10, Tryz.ntmps10
    go_wp2_with fail
    rw [← HW.out]
    refine AK.out.mono ?_
    rintro e w1 ⟨v1, rfl, o1, b1⟩
    have B1 := Lib.hid (bt B0.out b1)
    clear b1 o1 Y0 B0 HW AK d0 d1
    go_wp2
    exact bodyPost_ret (v := .tuple #[.slice none 0 0, .int .i64 ie]) (by simp [results, Tryz.results10, go_sem]) rfl ⟨_, rfl, OwnL.nil _ _, B1.out⟩
  subst h0
  rw [if_pos rfl] at HE
  have HL1 := Lib.hid (HL.out rfl)
  clear HL
  have HR : Hid (¬ (ts = 0 ∧ rs = 0) → ∀ (E : Nat → Int), (∀ j, E j = 0) → ∀ (x4 : Int) (L4 : List Opn), ((1073741824 < t + 1 ∧ x4 = 50 ∧ L4 = []) ∨ (t + 1 ≤ 1073741824 ∧ ∃ j, j < 1 ∧ (∀ i, i < j → E i = 0) ∧ E j ≠ 0 ∧ x4 = E j ∧ L4 = []) ∨ (t + 1 ≤ 1073741824 ∧ (∀ i, i < 1 → E i = 0) ∧ x4 = 0 ∧ L4 = (List.range 1).map (fun j => mkO 4 (mk (t + j + 1) r) P 0))) → x4 = ie ∧ L4 = il) := fun hz E hE0 x4 L4 h => by
    have hE := HE.out
    have hL := HL1.out
    rw [if_neg hz] at hE
    rcases h with ⟨h3, rfl, rfl⟩ | ⟨h3, j, h4, h5, h6, rfl, rfl⟩ | ⟨h3, h4, rfl, rfl⟩
    · rw [if_pos h3] at hE
      rw [hE] at hL ⊢
      rw [hL, if_neg (by decide)]
      exact ⟨rfl, rfl⟩
    · exact absurd (hE0 j) h6
    · rw [if_neg (by omega)] at hE
      rw [hE] at hL ⊢
      rw [hL, if_pos rfl]
      exact ⟨rfl, rfl⟩
  have DN : Hid (∀ (w3 : World) (g : Nat) (u : Value), w.heap.size ≤ w3.heap.size → w3.cell? ⟨g, 0, none⟩ = some u → g < w3.heap.size → w.heap.size ≤ g → w3.ownsRow w.heap.size 32 3 u P.length (runs P) →
      Calls Tryz.prog 37 #[.slice (some ⟨g, 0, none⟩) 1 1, .int .u8 (r : Int), .int .u32 (t : Int), .func (.func 40) #[] #[]] w3 (DoneX t 1 (fun j => mkO 4 (mk (t + j + 1) r) P 0) (fun _ => 0) w.heap.size w.heap.size w3)) := fun w3 g u hsz hcell hg hgb hown => by
    have eg := enters_of Tryz.func40 (by kernel_rfl) rfl
    refine eDoneR_any (nn := 1) (Y := fun _ => P) (O := fun j => mkO 4 (mk (t + j + 1) r) P 0) (E := fun _ => 0) eg (by decide) (by decide) ht (Nat.le_refl _) hsz (fun W hW j hj => ?_) (fun j W u hu hj hl hA => ?_)
    · obtain rfl : j = 0 := by omega
      exact ⟨Nat.lt_of_lt_of_le hg hW.1.size, u, by rw [← hcell]; unfold World.cell?; simp only [Nat.zero_add]; rw [hW.2 g hgb hg], Clocks.own_apart hown hW⟩
    · obtain ⟨uo, uc, rfl⟩ : ∃ ao cap, u = .slice ao P.length cap := Sees.shape (Sees.own hu)
      have h := merOne_any (mk (t + j + 1) r) (p := P) (uo := uo) (um := P.length) (uc := uc) (W := W)
      have e1 : ((mk (t + j + 1) r).t : Int) = (t : Int) + 1 + (j : Int) := by rw [mk_t (by omega)]; omega
      have e2 : ((mk (t + j + 1) r).r : Int) = (r : Int) := by rw [mk_r hr]
      rw [e1, e2] at h
      refine h.mono ?_
      rintro e w' ⟨g1, g2⟩
      exact ⟨_, g1, own_stays hu g2, Clocks.Apart.of g2 (Nat.le_trans hsz hA.1.size)⟩
  by_cases hz : ts = 0
  · subst hz
    by_cases hz2 : rs = 0
    · subst hz2
      rw [show ((0 : Nat) : Int) = 0 from rfl] at Y0 HW AK ⊢
      obtain rfl : ie = 130 := by rw [HE.out, if_pos ⟨rfl, rfl⟩]
      obtain rfl : il = [] := HN0.out (by decide)
      clear HE HL1 HN0 HR DN
      have d0 := cell_of_row _ _ 0 _ _ _ Y0.out
      have d1 := cell_of_row _ _ 1 _ _ _ Y0.out
      go_enter Tryz.func10, Tryz.ntmps10
      go_wp2_with fail
      rw [← HW.out]
      refine AK.out.mono ?_
      rintro e w2 ⟨v1, rfl, o1, b1⟩
      obtain ⟨po, pc, rfl⟩ : ∃ ao cap, v1 = .slice ao P.length cap := Sees.shape (Sees.own o1)
      obtain ⟨np, hnp⟩ : ∃ n, P.length = n := ⟨_, rfl⟩
      have HNP := Lib.hid hnp
      rw [hnp] at o1 ⊢
      have B2 := Lib.hid (bt B0.out b1)
      have Y1 := Lib.hid (blk_below b1 Y0.out)
      have O1 := Lib.hid (op_base o1 B0.out.size)
      clear b1 o1 Y0 B0 HW AK d0 d1 hnp
      have d0 := cell_of_row _ _ 0 _ _ _ Y1.out
      have d1 := cell_of_row _ _ 1 _ _ _ Y1.out
      clear O1 Y1
      go_wp2
      exact bodyPost_ret (v := .tuple #[.slice none 0 0, .int .i64 130]) (by simp [results, Tryz.results10, go_sem]) rfl ⟨_, rfl, OwnL.nil _ _, B2.out⟩
    rw [show ((0 : Nat) : Int) = 0 from rfl] at Y0 HW AK ⊢
    have HR2 := Lib.hid (HR.out (fun h => hz2 h.2))
    have t1 : decide (rs = 0) = false := decide_eq_false hz2
    have t2 : decide ((rs : Int) = 0) = false := decide_eq_false (by omega)
    have t3 : ((rs : Int) == 0) = false := by simpa using hz2
    clear HE HL1 HN0 HR
    have d0 := cell_of_row _ _ 0 _ _ _ Y0.out
    have d1 := cell_of_row _ _ 1 _ _ _ Y0.out
    go_enter Tryz.func10, Tryz.ntmps10
    go_wp2_with fail
    rw [← HW.out]
    refine AK.out.mono ?_
    rintro e w2 ⟨v1, rfl, o1, b1⟩
    obtain ⟨po, pc, rfl⟩ : ∃ ao cap, v1 = .slice ao P.length cap := Sees.shape (Sees.own o1)
    obtain ⟨np, hnp⟩ : ∃ n, P.length = n := ⟨_, rfl⟩
    have HNP := Lib.hid hnp
    rw [hnp] at o1 ⊢
    have B2 := Lib.hid (bt B0.out b1)
    have Y1 := Lib.hid (blk_below b1 Y0.out)
    have O1 := Lib.hid (op_base o1 B0.out.size)
    clear b1 o1 Y0 B0 HW AK d0 d1 hnp
    have d0 := cell_of_row _ _ 0 _ _ _ Y1.out
    have d1 := cell_of_row _ _ 1 _ _ _ Y1.out
    have BM : Below w2.heap.size w2 (w2.alloc (.cells #[.slice po np pc] 33)) := (Below.refl _ _).alloc (Nat.le_refl _) _
    have CD := Lib.hid (DN.out (w2.alloc (.cells #[.slice po np pc] 33)) w2.heap.size (.slice po np pc) (bt B2.out BM).size one_row (by simp) B2.out.size (by rw [HNP.out]; exact own_stays O1.out BM))
    have B3 := Lib.hid (bt B2.out BM)
    clear O1 DN BM B2 Y1
    go_wp2_with fail
    refine CD.out.mono ?_
    rintro e w4 ⟨v4, x4, L4, rfl, o4, a4, h4⟩
    obtain ⟨rfl, rfl⟩ := HR2.out (fun _ => 0) (fun _ => rfl) x4 L4 h4
    have O4 := Lib.hid o4
    have B4 : Hid (Below w.heap.size w w4) := B3.out.trans a4.1
    clear o4 a4 h4 CD HR2 d0 d1
    go_wp2
    exact bodyPost_ret (v := .tuple #[v4, .int .i64 x4]) (by simp [results, Tryz.results10, go_sem]) rfl ⟨_, rfl, O4.out, B4.out⟩
  have HR2 := Lib.hid (HR.out (fun h => hz h.1))
  have t1 : decide (ts = 0) = false := decide_eq_false hz
  have t2 : decide ((ts : Int) = 0) = false := decide_eq_false (by omega)
  have t3 : ((ts : Int) == 0) = false := by simpa using hz
  clear HE HL1 HN0 HR
  have d0 := cell_of_row _ _ 0 _ _ _ Y0.out
  have d1 := cell_of_row _ _ 1 _ _ _ Y0.out
  go_enter Tryz.func10, Tryz.ntmps10
  go_wp2_with fail
  rw [← HW.out]
  refine AK.out.mono ?_
  rintro e w2 ⟨v1, rfl, o1, b1⟩
  obtain ⟨po, pc, rfl⟩ : ∃ ao cap, v1 = .slice ao P.length cap := Sees.shape (Sees.own o1)
  obtain ⟨np, hnp⟩ : ∃ n, P.length = n := ⟨_, rfl⟩
  have HNP := Lib.hid hnp
  rw [hnp] at o1 ⊢
  have B2 := Lib.hid (bt B0.out b1)
  have Y1 := Lib.hid (blk_below b1 Y0.out)
  have O1 := Lib.hid (op_base o1 B0.out.size)
  clear b1 o1 Y0 B0 HW AK d0 d1 hnp
  have d0 := cell_of_row _ _ 0 _ _ _ Y1.out
  have d1 := cell_of_row _ _ 1 _ _ _ Y1.out
  have BM : Below w2.heap.size w2 (w2.alloc (.cells #[.slice po np pc] 33)) := (Below.refl _ _).alloc (Nat.le_refl _) _
  have CD := Lib.hid (DN.out (w2.alloc (.cells #[.slice po np pc] 33)) w2.heap.size (.slice po np pc) (bt B2.out BM).size one_row (by simp) B2.out.size (by rw [HNP.out]; exact own_stays O1.out BM))
  have B3 := Lib.hid (bt B2.out BM)
  clear O1 DN BM B2 Y1
  go_wp2_with fail
  refine CD.out.mono ?_
  rintro e w4 ⟨v4, x4, L4, rfl, o4, a4, h4⟩
  obtain ⟨rfl, rfl⟩ := HR2.out (fun _ => 0) (fun _ => rfl) x4 L4 h4
  have O4 := Lib.hid o4
  have B4 : Hid (Below w.heap.size w w4) := B3.out.trans a4.1
  clear o4 a4 h4 CD HR2 d0 d1
  go_wp2
  exact bodyPost_ret (v := .tuple #[v4, .int .i64 x4]) (by simp [results, Tryz.results10, go_sem]) rfl ⟨_, rfl, O4.out, B4.out⟩
end Go.Proofs.YtgjbnbojjgbmcaaGreat.Edits
