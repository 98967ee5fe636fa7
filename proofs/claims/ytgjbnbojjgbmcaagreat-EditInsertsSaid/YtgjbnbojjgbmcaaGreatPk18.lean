/- octavolaw16.put, where what comes is sound and fits: one behind the other. Conditions: a bag, sound operations, at most 1,024 in all. -/
import Derived.Test.YtgjbnbojjgbmcaaGreatChecked
import Derived.WalkKit
import Derived.WalkSpells
import Derived.WalkLawsBesides
import Derived.Laws.BytesArg
import Derived.Lib.Hide
import Derived.Deep.LoopGhost
import Derived.Laws.AppendOwnNone
import Derived.Laws.OwnMore
import Derived.WideShapes
import Derived.Maps.AppendAt
import Derived.RegionTactic
import Derived.Deep.RegionHeld3
import Derived.Deep.DrawnRows
import Derived.Deep.QuietTactic
import Derived.BigQuiet
import Derived.IntWalk
import Derived.Deep.DeepCutAuto
import Derived.ScopeJumps
import Derived.Test.YtgjbnbojjgbmcaaGreatProg
import Derived.LoopTactic
import Derived.Laws.EntriesVeiled
import Derived.RowKit
import Derived.Shelf.Abstract
import Derived.Laws.CopyOwn
import Derived.Deep.AppendSrc
import Derived.Lib.AppendZeros
import Derived.Laws.MakeOwn
import Derived.RangeFuncBox
import Derived.RangeFuncLeaves
import Derived.RangeFuncNested
import Derived.RangeFuncBound
import Derived.RangeFuncCalls
import Derived.OwnWalkIn
import Derived.TacticsInMore
import Derived.LoopNIn
import Derived.LoopIn
import Derived.Maps.Own
import Derived.Maps.OwnOps
import Derived.Maps.Views
import Derived.Lib.Tables
import Derived.Laws.Bits64
import Derived.Lib.AppendZerosOnto
import Derived.Laws.NewBlocks
import Derived.Deep.RegionLaw
import Derived.Scope
import Derived.Lib.DecodeN
import Derived.Lib.RuneBytes
import Derived.Test.YtgjbnbojjgbmcaaGreatPk04
import Derived.Test.YtgjbnbojjgbmcaaGreatPk15
import Derived.Test.YtgjbnbojjgbmcaaGreatPk16
import Derived.Test.YtgjbnbojjgbmcaaGreatPk03
import Derived.Test.YtgjbnbojjgbmcaaGreatPk02
import Derived.Test.YtgjbnbojjgbmcaaGreatPk01
import Derived.Test.YtgjbnbojjgbmcaaGreatPk14
import Derived.Test.YtgjbnbojjgbmcaaGreatPk09
import Derived.Test.YtgjbnbojjgbmcaaGreatPk11
import Derived.Test.YtgjbnbojjgbmcaaGreatPk17
import Derived.Test.YtgjbnbojjgbmcaaGreatPk06
import Derived.Test.YtgjbnbojjgbmcaaGreatPk05

namespace Go.Proofs.YtgjbnbojjgbmcaaGreat.Edits
open Go.RowKit Go.WideShapes Stamp Go.Proofs.YtgjbnbojjgbmcaaGreat.Place Ops Codes Bags Marks Homes Covers Views
attribute [local go_sem ↓] Go.wp_at_zero Go.wp_at_succ
attribute [local go_sem] yielded_undef
theorem puts_snoc (l m : List Opn) (o : Opn) : puts l (m ++ [o]) = withO (puts l m) o := by unfold puts; rw [List.foldl_append]; rfl
theorem add_zero {l : List Opn} {o : Opn} (hb : Bag l) (hm : mayO o = true) (hl : l.length + 1 ≤ 1024) : addE l o = 0 ∧ addL l o = withO l o := by
  have h2 := withO_len l o
  rcases addE_cases l o with ⟨_, h⟩ | ⟨_, _, _, h⟩ | ⟨h, _⟩
  · exact absurd ⟨hb, hm⟩ h
  · omega
  · exact ⟨h, (addL_bag h).1⟩
theorem puts_bag : ∀ (os : List Opn) {l : List Opn}, Bag l → (∀ o ∈ os, mayO o = true) → l.length + os.length ≤ 1024 → Bag (puts l os) ∧ (puts l os).length ≤ l.length + os.length
  | [], l, hb, _, _ => ⟨hb, Nat.le_refl _⟩
  | o :: os, l, hb, hm, hl => by
    rw [List.length_cons] at hl ⊢
    have h2 := withO_len l o
    have hb2 : Bag (withO l o) := bag_withO hb (hm o (by simp)) (by omega)
    obtain ⟨r1, r2⟩ := puts_bag os hb2 (fun x hx => hm x (by simp [hx])) (by omega)
    rw [puts_cons]
    exact ⟨r1, by omega⟩
theorem puts_at {os : List Opn} {l : List Opn} (hb : Bag l) (hm : ∀ o ∈ os, mayO o = true) (hl : l.length + os.length ≤ 1024) {j : Nat} (hj : j < os.length) :
    addE (puts l (os.take j)) (os[j]'hj) = 0 ∧ addL (puts l (os.take j)) (os[j]'hj) = puts l (os.take (j + 1)) := by
  obtain ⟨h1, h2⟩ := puts_bag (os.take j) hb (fun x hx => hm x (List.mem_of_mem_take hx)) (by rw [List.length_take]; omega)
  rw [List.length_take] at h2
  have h3 := add_zero h1 (hm _ (List.getElem_mem hj)) (by omega)
  rw [List.take_succ_eq_append_getElem hj, puts_snoc]
  exact h3
set_option maxRecDepth 100000 in
set_option maxHeartbeats 4000000 in
theorem put16_any {v0 u0 : Value} {l more : List Opn} {w : World} (hv : OpL w v0 l) (hm : OpL w u0 more) (hb : Bag l) (hs : ∀ o ∈ more, mayO o = true) (hl : l.length + more.length ≤ 1024) :
    Calls Tryz.prog 22 #[v0, u0] w fun e w' => ∃ v, e = .returned (.tuple #[v, .bool true]) ∧ OpL w' v (puts l more) ∧ Below w.heap.size w w' := by
  obtain ⟨ao, cap, rfl⟩ := hm.shape
  obtain ⟨n, hn⟩ : ∃ n, n = more.length := ⟨_, rfl⟩
  have hmx : n ≤ 1024 := by omega
  have HV : Hid (∀ W : World, Below w.heap.size w W → OpL W (.slice ao more.length cap) more) := fun W h => hm.keeps h
  have HN := Lib.hid hn
  rw [← hn]
  have S0 : Hid (OpL w v0 (puts l (more.take 0))) := hv
  have PA : Hid (∀ (j : Nat) (hj : j < more.length), addE (puts l (more.take j)) (more[j]'hj) = 0 ∧ addL (puts l (more.take j)) (more[j]'hj) = puts l (more.take (j + 1))) := fun j hj => puts_at hb hs hl hj
  have B0 : Hid (Below w.heap.size w w) := Below.refl _ _
  clear hv hm hn hb hs hl
  go_enter Tryz.func22, Tryz.ntmps22
  go_wp2
  go_loopw [0, 6, 7, 8] (fun v i x e wr => ∃ j : Nat, j ≤ n ∧ i = .int .i64 (j : Int) ∧ Hid (OpL wr v (puts l (more.take j))) ∧ Hid (Below w.heap.size w wr)) (fun _ i _ _ _ => n - (intOf i).toNat)
  case atStart => exact ⟨0, by omega, rfl, S0, B0⟩
  case round =>
    clear S0 B0
    obtain ⟨j, hj, rfl, hown, hbel⟩ := hrel
    by_cases hjn : j < n
    rotate_left
    · have q3 : decide (j < n) = false := by simpa using hjn
      have hkk : more.take j = more := List.take_of_length_le (by have := HN.out; omega)
      rw [hkk] at hown
      clear hkk
      go_wp2
      go_ret2
      exact ⟨_, rfl, hown.out, hbel.out⟩
    have q3 : decide (j < n) = true := by simpa using hjn
    have q4 : (0 : Int) ≤ (j : Int) := by omega
    have q5 : (j : Int) < (n : Int) := by omega
    have hjl : j < more.length := by rw [← HN.out]; exact hjn
    obtain ⟨bb, oo, u, e, hbb, hru, h0, h1, h2, h3, h4⟩ := opl_at (HV.out wr hbel.out) j hjl
    subst e
    have WI := bAdd_any hown.out hru
    rw [(PA.out j hjl).1, (PA.out j hjl).2] at WI
    obtain ⟨x, hx⟩ : ∃ x, x = more[j]'hjl := ⟨_, rfl⟩
    rw [← hx] at hru h0 h1 h2 h4 WI
    have HO : Hid (∀ v : Value, opv x v = .agg #[.int .u8 (x.k : Int), .int .u32 (x.t : Int), .int .u8 (x.r : Int), v, .int .i64 x.p]) := fun v => rfl
    have WJ := Lib.hid WI
    clear WI hx hru
    obtain ⟨k, hk⟩ : ∃ z, x.k = z := ⟨_, rfl⟩
    obtain ⟨t, ht⟩ : ∃ z, x.t = z := ⟨_, rfl⟩
    obtain ⟨r, hr⟩ : ∃ z, x.r = z := ⟨_, rfl⟩
    obtain ⟨p, hp⟩ : ∃ z, x.p = z := ⟨_, rfl⟩
    rw [hk, ht, hr, hp] at HO
    rw [hk] at h0
    rw [ht] at h1
    rw [hr] at h2
    rw [hp] at h4
    simp only [HO.out] at WJ
    clear hk ht hr hp HO hown hbb
    go_wp2_with fail
    refine WJ.out.mono ?_
    rintro e w5 ⟨v5, rfl, o5, b5⟩
    have O5 := Lib.hid o5.opl
    have B5 := Lib.hid (bt hbel.out b5)
    clear o5 b5 WJ h0 h1 h2 h3 h4
    go_wp2
    go_roundw
    case rel => exact ⟨j + 1, by omega, by go_num, O5, B5⟩
    case measure => simp [intOf]; omega
end Go.Proofs.YtgjbnbojjgbmcaaGreat.Edits
