/- PointJoins answers true, and changes nothing that was there. Conditions: none. EditInserts answers true, and changes nothing that was there. Conditions: none. -/
import Derived.Test.YtgjbnbojjgbmcaaGreatChecked
import Derived.WalkKit
import Derived.WalkSpells
import Derived.WalkLawsBesides
import Derived.Laws.BytesArg
import Derived.Lib.Hide
import Derived.Lib.DecodeN
import Derived.Lib.RuneBytes
import Derived.Deep.LoopGhost
import Derived.Laws.AppendOwnNone
import Derived.Laws.OwnMore
import Derived.WideShapes
import Derived.Test.YtgjbnbojjgbmcaaGreatShelf
import Derived.Lib.OthersKept
import Derived.LoopTactic
import Derived.BigCall
import Derived.IntWalk
import Derived.Deep.QuietTactic
import Derived.BigQuiet
import Derived.Maps.AppendAt
import Derived.RegionTactic
import Derived.Deep.RegionHeld3
import Derived.Deep.DrawnRows
import Derived.Deep.DeepCutAuto
import Derived.ScopeJumps
import Derived.Test.YtgjbnbojjgbmcaaGreatProg
import Derived.Laws.EntriesVeiled
import Derived.RowKit
import Derived.Maps.Own
import Derived.Maps.OwnOps
import Derived.Maps.OwnSet
import Derived.Maps.Views
import Derived.DeepKeys4
import Derived.Shelf.SlSortCmp.InsertionK
import Derived.Calls
import Derived.StepT
import Derived.Below
import Derived.Sort.Grow
import Derived.Deep.Draws
import Derived.Shelf.SlLaysF0
import Derived.Shelf.SlSortCmp.NoneTotal
import Derived.Scope
import Derived.Shelf.Abstract
import Derived.RangeFuncBox
import Derived.RangeFuncLeaves
import Derived.RangeFuncNested
import Derived.RangeFuncBound
import Derived.RangeFuncCalls
import Derived.OwnWalkIn
import Derived.TacticsInMore
import Derived.LoopNIn
import Derived.LoopIn
import Derived.Lib.Tables
import Derived.Laws.Bits64
import Derived.Laws.CopyOwn
import Derived.Deep.AppendSrc
import Derived.Lib.AppendZeros
import Derived.Laws.MakeOwn
import Derived.Deep.RegionWith
import Derived.BigRegion
import Derived.Tactics
import Derived.Lib.AppendZerosOnto
import Derived.Laws.NewBlocks
import Derived.Deep.RegionLaw
import Derived.Test.YtgjbnbojjgbmcaaGreatRw
import Derived.Test.YtgjbnbojjgbmcaaGreatPk10
import Derived.Test.YtgjbnbojjgbmcaaGreatPk06
import Derived.Test.YtgjbnbojjgbmcaaGreatPk01
import Derived.Test.YtgjbnbojjgbmcaaGreatPk15
import Derived.Test.YtgjbnbojjgbmcaaGreatPk16
import Derived.Test.YtgjbnbojjgbmcaaGreatPk20
import Derived.Test.YtgjbnbojjgbmcaaGreatPk14
import Derived.Test.YtgjbnbojjgbmcaaGreatPk12
import Derived.Test.YtgjbnbojjgbmcaaGreatPk11
import Derived.Test.YtgjbnbojjgbmcaaGreatPk24
import Derived.Test.YtgjbnbojjgbmcaaGreatPk23
import Derived.Test.YtgjbnbojjgbmcaaGreatPk05
import Derived.Test.YtgjbnbojjgbmcaaGreatPk04
import Derived.Test.YtgjbnbojjgbmcaaGreatPk03
import Derived.Test.YtgjbnbojjgbmcaaGreatPk02
import Derived.Test.YtgjbnbojjgbmcaaGreatPk07
import Derived.Test.YtgjbnbojjgbmcaaGreatPk30
import Derived.Test.YtgjbnbojjgbmcaaGreatPk08
import Derived.Test.YtgjbnbojjgbmcaaGreatPk09
import Derived.Test.YtgjbnbojjgbmcaaGreatPk26
import Derived.Test.YtgjbnbojjgbmcaaGreatPk25
import Derived.Test.YtgjbnbojjgbmcaaGreatPk27
import Derived.Test.YtgjbnbojjgbmcaaGreatPk28
import Derived.Test.YtgjbnbojjgbmcaaGreatPk29
import Derived.Test.YtgjbnbojjgbmcaaGreatPk13
import Derived.Test.YtgjbnbojjgbmcaaGreatPk17
import Derived.Test.YtgjbnbojjgbmcaaGreatPk18

namespace Go.Proofs.YtgjbnbojjgbmcaaGreat.Point
open Go.RowKit Go.WideShapes
theorem pr_ok {s : List UInt8} {l : List Int} {c : Int} (h : pr s = (l, c)) : (c = 0 ∧ pts s = some l ∧ l.length ≤ 1024) ∨ (c = 4 ∧ l = [] ∧ ∃ m, pts s = some m ∧ 1024 < m.length) ∨ (c = 40 ∧ l = [] ∧ pts s = none) := by
  unfold pr at h
  cases hp : pts s with
  | none =>
    rw [hp] at h
    obtain ⟨rfl, rfl⟩ := Prod.mk.inj h
    exact .inr (.inr ⟨rfl, rfl, rfl⟩)
  | some m =>
    rw [hp] at h
    simp only at h
    split at h
    · rename_i hm
      obtain ⟨rfl, rfl⟩ := Prod.mk.inj h
      exact .inl ⟨rfl, rfl, hm⟩
    · rename_i hm
      obtain ⟨rfl, rfl⟩ := Prod.mk.inj h
      exact .inr (.inl ⟨rfl, rfl, m, rfl, by omega⟩)
end Go.Proofs.YtgjbnbojjgbmcaaGreat.Point

namespace Go.Proofs.YtgjbnbojjgbmcaaGreat.Edits
open Go.RowKit Go.WideShapes Stamp Go.Proofs.YtgjbnbojjgbmcaaGreat.Place Ops Codes Bags Marks Homes Covers Views
attribute [local go_sem ↓] Go.wp_at_zero Go.wp_at_succ
attribute [local go_sem] yielded_undef
theorem pr_pts2 (s : List UInt8) : ∀ c ∈ (Point.pr s).1, Point.IsPt c := by
  obtain ⟨⟨L, c⟩, h⟩ : ∃ z, Point.pr s = z := ⟨_, rfl⟩
  rw [h]
  rcases Point.pr_ok h with ⟨-, h1, -⟩ | ⟨-, h1, -⟩ | ⟨-, h1, -⟩
  · exact (Point.pts_some h1).1
  · intro x hx; simp only [h1] at hx; cases hx
  · intro x hx; simp only [h1] at hx; cases hx
/-- What an insert leaves, as the walk asks of it. -/
structure After (l M : List Opn) (a : Id) (k : Int) (r t : Nat) (cs : List Int) (f : Int) : Prop where
  bag : Bag l
  span : spanE l a = 0
  fine : f = 0
  lo : 0 ≤ k
  hi : k ≤ ((elmL l a).length : Int)
  pts : M.map (·.p) = cs
  each : ∀ o ∈ M, o.r = r ∧ t < o.t
  may : ∀ o ∈ M, mayO o = true
  room : l.length + M.length ≤ 1024
  span2 : spanE (puts l M) a = 0
  seen : (elmL (puts l M) a).map (·.p) = ((elmL l a).map (·.p)).take k.toNat ++ cs ++ ((elmL l a).map (·.p)).drop k.toNat
  other : ∀ z, z ≠ a → elmL (puts l M) z = elmL l z
  sects : ∀ z, spanE l z = 0 → spanE (puts l M) z = 0
  ver : ∀ o ∈ M, Clocks.hasC (versionL (puts l M) a) (idO o) = true
theorem after_ins {l : List Opn} {r t : Nat} {a : Id} {k : Int} {cs : List Int} {f : Int} (h : insE l r t a k cs f = 0) (hc : ∀ c ∈ cs, Point.IsPt c) (hlen : l.length ≤ 40) : After l (insL l r t a k cs f) a k r t cs f := by
  obtain ⟨h1, h2, h3, h4, h5, h6, h7, h8, h9, h10, h11, h12⟩ := ins_after h hc hlen
  have hs : ∀ z, spanE l z = 0 → spanE (puts l (insL l r t a k cs f)) z = 0 := fun z hz => spanE_zero.2 ⟨h8, by rw [h9]; exact (spanE_zero.1 hz).2⟩
  refine ⟨(spanE_zero.1 h1).1, h1, h2, h3, h4, h5, fun o ho => ⟨(h6 o ho).1, (h6 o ho).2.1⟩, fun o ho => (h6 o ho).2.2, by omega, hs a h1, ?_, h11, hs, fun o ho => ?_⟩
  · rw [h10, List.map_append, List.map_append, h5, List.map_take, List.map_drop]
  · refine (version_has (hs a h1) (idO o)).2 ⟨o, ?_, rfl⟩
    unfold countsL
    rw [if_pos (hs a h1), h9]
    exact h12 o ho
set_option maxRecDepth 100000 in
set_option maxHeartbeats 16000000 in
theorem inserts_walk {l : List Opn} {ao0 : Option Addr} {cap0 r t : Nat} (a : Id) (k : Int) (T : ByteArray) {w : World} (hr0 : OpL w (.slice ao0 l.length cap0) l) (hr : r < 256) (ht : t < 4294967296) (hk0 : k ≤ 9223372036854775807) :
    Calls Tryz.prog 5 #[.slice ao0 l.length cap0, .int .u8 (r : Int), .int .u32 (t : Int), .agg #[.int .u32 (a.t : Int), .int .u8 (a.r : Int)], .int .i64 k, .string T] w fun e w' => e = .returned (.bool true) ∧ Below w.heap.size w w' := by
  have HV : Hid (∀ W : World, Below w.heap.size w W → OpL W (.slice ao0 l.length cap0) l) := fun W h => hr0.keeps h
  have AV := Lib.hid alive16_any
  have GR : Hid (∀ W : World, Below w.heap.size w W → Calls Tryz.prog 13 #[.slice ao0 l.length cap0, .int .i64 40] W fun e w' => GrtO l 40 e ∧ W = w') := fun W h => greatO_any (HV.out W h)
  have hgr : ∀ {e : Ending}, GrtO l 40 e → ∃ g, e = .returned (.bool g) ∧ Hid (g = false → l.length ≤ 40) := fun ⟨g, h1, h2⟩ => ⟨g, h1, fun h => by have := (h2 h).1; omega⟩
  have CI : Hid (T.size ≤ 300 → ∀ (W : World) (v : Value), OpL W v l → Calls Tryz.prog 7 #[v, .int .u8 (r : Int), .int .u32 (t : Int), .agg #[.int .u32 (a.t : Int), .int .u8 (a.r : Int)], .int .i64 k, .string T] W (DoneN (insL l r t a k (Point.pr T.data.toList).1 (Point.pr T.data.toList).2) (insE l r t a k (Point.pr T.data.toList).1 (Point.pr T.data.toList).2) W)) := fun h0 W v h => eInsert_any a k T h hr ht (by omega) hk0
  have PT : Hid (T.size ≤ 300 → ∀ W : World, Calls Tryz.prog 24 #[.string T] W fun e w' => Point.Ans (Point.pr T.data.toList).1 (Point.pr T.data.toList).2 e W w') := fun h0 W => Point.points_any T W (by omega)
  have MZ : Hid (insE l r t a k (Point.pr T.data.toList).1 (Point.pr T.data.toList).2 ≠ 0 → (insL l r t a k (Point.pr T.data.toList).1 (Point.pr T.data.toList).2).length = 0) := fun h => by unfold insL; rw [if_neg h]; rfl
  have AF : Hid (insE l r t a k (Point.pr T.data.toList).1 (Point.pr T.data.toList).2 = 0 → l.length ≤ 40 → After l (insL l r t a k (Point.pr T.data.toList).1 (Point.pr T.data.toList).2) a k r t (Point.pr T.data.toList).1 (Point.pr T.data.toList).2) := fun h h2 => after_ins h (pr_pts2 _) h2
  obtain ⟨M, hM⟩ : ∃ z, insL l r t a k (Point.pr T.data.toList).1 (Point.pr T.data.toList).2 = z := ⟨_, rfl⟩
  obtain ⟨E, hE⟩ : ∃ z, insE l r t a k (Point.pr T.data.toList).1 (Point.pr T.data.toList).2 = z := ⟨_, rfl⟩
  obtain ⟨CS, hCS⟩ : ∃ z, (Point.pr T.data.toList).1 = z := ⟨_, rfl⟩
  obtain ⟨F, hF⟩ : ∃ z, (Point.pr T.data.toList).2 = z := ⟨_, rfl⟩
  rw [hM, hE] at CI
  rw [hCS, hF] at PT
  rw [hM, hE] at MZ
  rw [hM, hE, hCS, hF] at AF
  have PU : Hid (After l M a k r t CS F → ∀ (W : World) (v u : Value), OpL W v l → OpL W u M → Calls Tryz.prog 22 #[v, u] W fun e w' => ∃ x, e = .returned (.tuple #[x, .bool true]) ∧ OpL w' x (puts l M) ∧ Below W.heap.size W w') := fun A W v u h h2 => put16_any h h2 A.bag A.may A.room
  have EL : Hid (∀ (W : World) (v : Value), OpL W v l → Calls Tryz.prog 23 #[v, .agg #[.int .u32 (a.t : Int), .int .u8 (a.r : Int)]] W (DoneOE (elmL l a) (spanE l a) W)) := fun W v h => vElements_any a h
  have EX : Hid (∀ (W : World) (v : Value), OpL W v (puts l M) → Calls Tryz.prog 23 #[v, .agg #[.int .u32 (a.t : Int), .int .u8 (a.r : Int)]] W (DoneOE (elmL (puts l M) a) (spanE (puts l M) a) W)) := fun W v h => vElements_any a h
  have AL : Hid (∀ (W : World) (v : Value), OpL W v l → Calls Tryz.prog 25 #[v] W (AllI (allL l) (chkL l) W)) := fun W v h => hAll_any h
  have VX : Hid (∀ (W : World) (v : Value), OpL W v (puts l M) → Calls Tryz.prog 26 #[v, .agg #[.int .u32 (a.t : Int), .int .u8 (a.r : Int)]] W (Bags.DoneC (versionL (puts l M) a) (spanE (puts l M) a) W)) := fun W v h => cVersion_any a h
  have PO : Hid (∀ (W : World) (v : Value) (c : List Opn), ElL W v c → c.length ≤ 1000000 → Calls Tryz.prog 27 #[v] W fun e w' => ∃ v', e = .returned v' ∧ Ints w' v' (c.map (·.p)) ∧ Below W.heap.size W w') := fun W v c h h2 => points16_any h h2
  have SM : Hid (∀ (W : World) (u v : Value) (q : List Int), Ints W u q → Ints W v q → Calls Tryz.prog 28 #[u, v] W fun e w' => e = .returned (.bool true) ∧ Below W.heap.size W w') := fun W u v q h h2 => same16_yes h h2
  have HS : Hid (∀ (W : World) (v : Value) (i : Id), Tms W v (versionL (puts l M) a) → Calls Tryz.prog 29 #[v, .agg #[.int .u32 (i.t : Int), .int .u8 (i.r : Int)]] W fun e w' => e = .returned (.bool (Clocks.hasC (versionL (puts l M) a) i)) ∧ Below W.heap.size W w') := fun W v i h => Clocks.cHas_any i h
  have TL : Hid (∀ (W : World) (v : Value) (s : Id), OpL W v l → Calls Tryz.prog 30 #[v, .agg #[.int .u32 (s.t : Int), .int .u8 (s.r : Int)]] W fun e w' => e = .returned (.tuple #[.string (str (textL l s)), .int .i64 (spanE l s)]) ∧ Below W.heap.size W w') := fun W v s h => vText_any s h
  have TX : Hid (∀ (W : World) (v : Value) (s : Id), OpL W v (puts l M) → Calls Tryz.prog 30 #[v, .agg #[.int .u32 (s.t : Int), .int .u8 (s.r : Int)]] W fun e w' => e = .returned (.tuple #[.string (str (textL (puts l M) s)), .int .i64 (spanE (puts l M) s)]) ∧ Below W.heap.size W w') := fun W v s h => vText_any s h
  obtain ⟨n0, hn0⟩ : ∃ n, n = l.length := ⟨_, rfl⟩
  rw [← hn0] at HV GR ⊢
  obtain ⟨sx, hsx⟩ : ∃ z, a.t = z := ⟨_, rfl⟩
  obtain ⟨sy, hsy⟩ : ∃ z, a.r = z := ⟨_, rfl⟩
  have HA : Hid (∀ x : Id, x = a ↔ x.t = sx ∧ x.r = sy) := fun x => by rw [Id.eq_iff, hsx, hsy]
  rw [hsx, hsy] at CI EL EX VX ⊢
  have B_0 : Hid (Below w.heap.size w (w.alloc (.cells #[.int .u32 (sx : Int), .int .u8 (sy : Int)] 28))) := (Below.refl _ _).alloc (Nat.le_refl _) _
  have CE : Hid (∀ W : World, Below (w.alloc (.cells #[.int .u32 (sx : Int), .int .u8 (sy : Int)] 28)).heap.size (w.alloc (.cells #[.int .u32 (sx : Int), .int .u8 (sy : Int)] 28)) W → W.cell? ⟨w.heap.size, 0, none⟩ = some (.int .u32 (sx : Int)) ∧ W.cell? ⟨w.heap.size, 1, none⟩ = some (.int .u8 (sy : Int))) := fun W h => by
    have g2 := cells_blk (blk_below h (blk_new rfl))
    exact ⟨g2.1, g2.2.1⟩
  have BK_0 : Hid (Below (w.alloc (.cells #[.int .u32 (sx : Int), .int .u8 (sy : Int)] 28)).heap.size (w.alloc (.cells #[.int .u32 (sx : Int), .int .u8 (sy : Int)] 28)) (w.alloc (.cells #[.int .u32 (sx : Int), .int .u8 (sy : Int)] 28))) := Below.refl _ _
  clear hr0 hn0 hsx hsy hM hE hCS hF hr ht hk0
  go_enter Tryz.func5, Tryz.ntmps5
  go_wp2_with fail
  refine (AV.out _).mono ?_
  rintro e w1 ⟨rfl, b1⟩
  have B_1 := Lib.hid (bt B_0.out b1)
  clear B_0
  have BK_2 := Lib.hid (bt BK_0.out b1)
  clear BK_0
  clear b1
  clear AV
  go_wp2_with fail
  refine (GR.out _ B_1.out).mono ?_
  rintro e w2 ⟨hg, rfl⟩
  obtain ⟨g, rfl, hg2⟩ := hgr hg
  clear hg hgr GR
  cases g
  rotate_left
  · go_wp2
    go_ret
    exact ⟨rfl, B_1.out⟩
  have HL : Hid (l.length ≤ 40) := hg2.out rfl
  clear hg2
  by_cases h300 : 300 < T.size
  · have t1 : decide ((300 : Int) < (T.size : Int)) = true := decide_eq_true (by omega)
    have t2 : decide (300 < T.size) = true := decide_eq_true h300
    go_wp2
    go_ret
    exact ⟨rfl, B_1.out⟩
  have t1 : decide ((300 : Int) < (T.size : Int)) = false := decide_eq_false (by omega)
  have t2 : decide (300 < T.size) = false := decide_eq_false h300
  have CI2 := Lib.hid (CI.out (by omega))
  have PT2 := Lib.hid (PT.out (by omega))
  clear CI PT h300
  obtain ⟨d0, d1⟩ := CE.out _ BK_2.out
  go_wp2_with fail
  refine (CI2.out _ _ (HV.out _ B_1.out)).mono ?_
  rintro e w3 ⟨u, rfl, o3, b3⟩
  have B_3 := Lib.hid (bt B_1.out b3)
  clear B_1
  have BK_4 := Lib.hid (bt BK_2.out b3)
  clear BK_2
  have U_5 := Lib.hid (o3.opl)
  clear b3 o3
  clear CI2 d0 d1
  obtain ⟨uo, uc, rfl⟩ := U_5.out.shape
  obtain ⟨nM, hnM⟩ : ∃ z, z = M.length := ⟨_, rfl⟩
  rw [← hnM] at U_5 ⊢
  have HNM := Lib.hid hnM
  clear hnM
  by_cases hE0 : E = 0
  rotate_left
  · have q1 : (E != 0) = true := by simpa using hE0
    have q2 : decide (E = 0) = false := decide_eq_false hE0
    obtain rfl : nM = 0 := by rw [HNM.out]; exact MZ.out hE0
    go_wp2
    go_ret
    exact ⟨rfl, B_3.out⟩
  subst hE0
  have A := Lib.hid (AF.out (by first | trivial | rfl) HL.out)
  obtain rfl := A.out.fine
  have PU2 := Lib.hid (PU.out A.out)
  have eS := A.out.span
  have eX := A.out.span2
  rw [eS] at EL
  rw [eX] at EX VX
  obtain ⟨kk, rfl⟩ : ∃ j : Nat, k = (j : Int) := ⟨k.toNat, by have := A.out.lo; omega⟩
  have hkW := A.out.hi
  have EK : Hid ((elmL (puts l M) a).map (·.p) = ((elmL l a).map (·.p)).take kk ++ CS ++ ((elmL l a).map (·.p)).drop kk) := A.out.seen
  have HB := Lib.hid A.out.bag
  have LW : Hid ((elmL l a).length ≤ 1024) := (elm_fits l a).1
  have LX : Hid ((elmL (puts l M) a).length ≤ 1024) := (elm_fits (puts l M) a).1
  have LM : Hid (nM ≤ 1024) := by have := A.out.room; have := HNM.out; unfold Hid; omega
  have EC : Hid (nM = CS.length) := by have := congrArg List.length A.out.pts; rw [List.length_map] at this; unfold Hid; rw [HNM.out, this]
  have EACH : Hid (∀ (j : Nat) (h : j < M.length), (M[j]'h).r = r ∧ t < (M[j]'h).t ∧ Clocks.hasC (versionL (puts l M) a) (idO (M[j]'h)) = true) := fun j h => ⟨(A.out.each _ (List.getElem_mem h)).1, (A.out.each _ (List.getElem_mem h)).2, A.out.ver _ (List.getElem_mem h)⟩
  have SEC : Hid (∀ z : Id, spanE l z = 0 → spanE (puts l M) z = 0 ∧ (z ≠ a → textL (puts l M) z = textL l z)) := fun z hz => ⟨A.out.sects z hz, fun hne => by unfold textL; rw [A.out.other z hne]⟩
  have ALL : Hid (chkL l = 0 ∧ allL l = sectsM (livesM l l) ∧ (livesM l l).length ≤ 1024 ∧ ∀ i, i < (livesM l l).length + 1 → spanE l ((sectsM (livesM l l)).getD i zid) = 0) := ⟨chkL_yes HB.out, by unfold allL; rw [(bagB_iff l).2 HB.out]; rfl, (lives_fits HB.out).1, fun i hi => sect_where HB.out hi⟩
  clear AF MZ PU A eS eX HB HL
  go_wp2_with fail
  refine (PU2.out _ _ _ (HV.out _ B_3.out) U_5.out).mono ?_
  rintro e w4 ⟨vx, rfl, o4, b4⟩
  have B_6 := Lib.hid (bt B_3.out b4)
  clear B_3
  have BK_7 := Lib.hid (bt BK_4.out b4)
  clear BK_4
  have U_8 := Lib.hid (U_5.out.keeps b4)
  clear U_5
  have X_9 := Lib.hid (o4)
  clear b4 o4
  clear PU2
  obtain ⟨d0, d1⟩ := CE.out _ BK_7.out
  go_wp2_with fail
  refine (EL.out _ _ (HV.out _ B_6.out)).mono ?_
  rintro e w5 ⟨ve, rfl, o5, b5⟩
  have B_10 := Lib.hid (bt B_6.out b5)
  clear B_6
  have BK_11 := Lib.hid (bt BK_7.out b5)
  clear BK_7
  have U_12 := Lib.hid (U_8.out.keeps b5)
  clear U_8
  have X_13 := Lib.hid (X_9.out.keeps b5)
  clear X_9
  have P_14 := Lib.hid (o5.el)
  clear b5 o5
  clear EL d0 d1
  obtain ⟨eo, ec, rfl⟩ := P_14.out.shape
  obtain ⟨WS, hWS⟩ : ∃ z, elmL l a = z := ⟨_, rfl⟩
  obtain ⟨nW, hnW⟩ : ∃ z, z = WS.length := ⟨_, rfl⟩
  rw [hWS] at hkW EK LW P_14 ⊢
  rw [← hnW] at hkW LW P_14 ⊢
  have HNW := Lib.hid hnW
  clear hWS hnW
  have hkN : kk ≤ nW := by omega
  have HKN := Lib.hid hkN
  obtain ⟨d0, d1⟩ := CE.out _ BK_11.out
  go_wp2_with fail
  refine (EX.out _ _ X_13.out).mono ?_
  rintro e w6 ⟨vn, rfl, o6, b6⟩
  have B_15 := Lib.hid (bt B_10.out b6)
  clear B_10
  have BK_16 := Lib.hid (bt BK_11.out b6)
  clear BK_11
  have U_17 := Lib.hid (U_12.out.keeps b6)
  clear U_12
  have X_18 := Lib.hid (X_13.out.keeps b6)
  clear X_13
  have P_19 := Lib.hid (P_14.out.keeps b6)
  clear P_14
  have R_20 := Lib.hid (o6.el)
  clear b6 o6
  clear EX d0 d1
  go_wp2_with fail
  refine (PT2.out _).mono ?_
  rintro e w7 ⟨po, pc, rfl, o7, b7⟩
  have B_21 := Lib.hid (bt B_15.out b7)
  clear B_15
  have BK_22 := Lib.hid (bt BK_16.out b7)
  clear BK_16
  have U_23 := Lib.hid (U_17.out.keeps b7)
  clear U_17
  have X_24 := Lib.hid (X_18.out.keeps b7)
  clear X_18
  have P_25 := Lib.hid (P_19.out.keeps b7)
  clear P_19
  have R_26 := Lib.hid (R_20.out.keeps b7)
  clear R_20
  have Q_27 := Lib.hid (Ints.own o7)
  clear b7 o7
  clear PT2
  go_wp2_with fail
  refine (AL.out _ _ (HV.out _ B_21.out)).mono ?_
  rintro e w8 ⟨lo, lc, rfl, o8, b8⟩
  have B_28 := Lib.hid (bt B_21.out b8)
  clear B_21
  have BK_29 := Lib.hid (bt BK_22.out b8)
  clear BK_22
  have U_30 := Lib.hid (U_23.out.keeps b8)
  clear U_23
  have X_31 := Lib.hid (X_24.out.keeps b8)
  clear X_24
  have P_32 := Lib.hid (P_25.out.keeps b8)
  clear P_25
  have R_33 := Lib.hid (R_26.out.keeps b8)
  clear R_26
  have Q_34 := Lib.hid (Q_27.out.keeps b8)
  clear Q_27
  have I_35 := Lib.hid (Go.Proofs.YtgjbnbojjgbmcaaGreat.Ids.own o8)
  clear b8 o8
  clear AL
  obtain ⟨d0, d1⟩ := CE.out _ BK_29.out
  go_wp2_with fail
  refine (VX.out _ _ X_31.out).mono ?_
  rintro e w9 ⟨vv, rfl, o9, b9⟩
  have B_36 := Lib.hid (bt B_28.out b9)
  clear B_28
  have BK_37 := Lib.hid (bt BK_29.out b9)
  clear BK_29
  have U_38 := Lib.hid (U_30.out.keeps b9)
  clear U_30
  have X_39 := Lib.hid (X_31.out.keeps b9)
  clear X_31
  have P_40 := Lib.hid (P_32.out.keeps b9)
  clear P_32
  have R_41 := Lib.hid (R_33.out.keeps b9)
  clear R_33
  have Q_42 := Lib.hid (Q_34.out.keeps b9)
  clear Q_34
  have I_43 := Lib.hid (I_35.out.keeps b9)
  clear I_35
  have C_44 := Lib.hid (OwnC.tms o9)
  clear b9 o9
  clear VX d0 d1
  obtain ⟨eA1, eA2, hVl, hS⟩ := ALL.out
  rw [eA2] at I_43 ⊢
  rw [eA1]
  have XAT : Hid (∀ i, i < (livesM l l).length + 1 → spanE l ((sectsM (livesM l l)).getD i zid) = 0) := hS
  have HNS := sectsM_len (livesM l l)
  clear ALL eA1 eA2 hS
  obtain ⟨V, hV⟩ : ∃ z, livesM l l = z := ⟨_, rfl⟩
  rw [hV] at I_43 HNS hVl XAT ⊢
  obtain ⟨L, hL⟩ : ∃ z, z = sectsM V := ⟨_, rfl⟩
  rw [← hL] at I_43 XAT HNS ⊢
  obtain ⟨NS, hN⟩ : ∃ z, z = L.length := ⟨_, rfl⟩
  rw [← hN] at I_43 HNS ⊢
  have hNm : NS ≤ 1025 := by omega
  have HNV := Lib.hid HNS
  have HLN := Lib.hid hN
  have HNm := Lib.hid hNm
  obtain ⟨nC, hnC⟩ : ∃ z, z = CS.length := ⟨_, rfl⟩
  rw [← hnC] at EC Q_42 ⊢
  have HNC := Lib.hid hnC
  obtain rfl : nM = nC := EC.out
  clear hV hL hN HNS hnC hVl hNm EC
  have k1 : decide ((kk : Int) < 0) = false := decide_eq_false (by omega)
  have k2 : decide ((nW : Int) < (kk : Int)) = false := decide_eq_false (by omega)
  have k3 : decide (nW < kk) = false := decide_eq_false (by omega)
  have k4 : ((kk : Int) < 0) = False := eq_false (by omega)
  clear hkW hkN
  go_wp2_with fail
  refine (PO.out _ _ _ P_40.out (by have := LW.out; have := HNW.out; omega)).mono ?_
  rintro e w10 ⟨vo, rfl, o10, b10⟩
  have B_45 := Lib.hid (bt B_36.out b10)
  clear B_36
  have BK_46 := Lib.hid (bt BK_37.out b10)
  clear BK_37
  have U_47 := Lib.hid (U_38.out.keeps b10)
  clear U_38
  have X_48 := Lib.hid (X_39.out.keeps b10)
  clear X_39
  have P_49 := Lib.hid (P_40.out.keeps b10)
  clear P_40
  have R_50 := Lib.hid (R_41.out.keeps b10)
  clear R_41
  have Q_51 := Lib.hid (Q_42.out.keeps b10)
  clear Q_42
  have I_52 := Lib.hid (I_43.out.keeps b10)
  clear I_43
  have C_53 := Lib.hid (C_44.out.keeps b10)
  clear C_44
  have O_54 := Lib.hid (o10)
  clear b10 o10
  clear k1 k2 k3 k4
  clear P_49
  obtain ⟨OLD, hOLD⟩ : ∃ z, WS.map (·.p) = z := ⟨_, rfl⟩
  have hOl : OLD.length = nW := by rw [← hOLD, List.length_map]; exact HNW.out.symm
  rw [hOLD] at EK O_54
  obtain ⟨oo, oc, rfl⟩ := O_54.out.shape
  rw [hOl] at O_54 ⊢
  obtain ⟨V1, hV1, hI1⟩ := slice_to O_54.out HKN.out
  obtain ⟨V2, hV2, hI2⟩ := slice_from O_54.out HKN.out
  have HI1 := Lib.hid hI1
  have HI2 := Lib.hid hI2
  have QQ : Hid (∀ W : World, Below w10.heap.size w10 W → Ints W (.slice po nM pc) CS) := fun W h => Q_51.out.keeps h
  have hl1 : (OLD.take kk).length = kk := by rw [List.length_take, hOl]; have := HKN.out; omega
  have hl2 : (OLD.drop kk).length = nW - kk := by rw [List.length_drop, hOl]
  have HL1 := Lib.hid hl1
  have HL2 := Lib.hid hl2
  have KN := HKN.out
  have LMM := LM.out
  have LWW := LW.out
  clear hOLD hOl hI1 hI2 hl1 hl2
  go_upto_region 16 with fail
  refine wp_region_held_drew (S := fun w' => Below w10.heap.size w10 w') (by kernel_rfl) (drew1 _) (fun hHeld => ?_)
  generalize w10.drew = wd at hHeld ⊢
  refine rN 1 ?_
  refine rN 2 ?_
  refine rN 3 ?_
  refine rN 5 ?_
  refine rN 7 ?_
  refine rN 8 ?_
  refine rN 9 ?_
  clear hV1 hV2
  refine wpAnyH_ready (rs := [0]) (by kernel_rfl) (by simp) ?_
  refine AllReadyH.cons rfl (fun K hK => ?_) AllReadyH.nil
  go_simp
  have O0 := Lib.hid (own_none wd w10.heap.size hHeld.size 3 1)
  refine hK.out _ _ (hHeld.alloc hHeld.size _) (fun hNew => ?_)
  clear hHeld
  have hHeld := hNew
  clear hNew hK K
  refine rX ?_
  have XZ : Hid (∃ wz, wz = wd.alloc (.cells #[] 3)) := ⟨_, rfl⟩
  obtain ⟨wz, hwz⟩ := XZ.out
  rw [← hwz] at O0 hHeld ⊢
  clear XZ
  refine wpAnyH_ready (rs := [4]) (by kernel_rfl) (by simp) ?_
  refine AllReadyH.cons rfl (fun K hK => ?_) AllReadyH.nil
  refine step_append_sees rfl (.tmp 132) (.tmp 135) 55 3 rfl Tryz.underlying55 Codes.int_info rfl (by decide) w10.heap.size _ 0 _ rfl O0.out _ kk _ rfl (by have h := HI1.out _ hHeld; unfold Ints at h; rw [HL1.out] at h; exact h) (is_oneCell _) (by omega) (by omega) hHeld.size ?_
  intro v4 wa4 oa4 ga4 ba4
  have O4 : Hid (wa4.ownsRow w10.heap.size 3 1 v4 (0 + kk) ([] ++ is (OLD.take kk))) := oa4
  refine hK.out _ _ (hHeld.trans ba4) (fun hNew => ?_)
  clear hHeld
  have hHeld := hNew
  clear hNew hK K oa4 ga4 ba4
  refine rX ?_
  refine wpAnyH_ready (rs := [6]) (by kernel_rfl) (by simp) ?_
  refine AllReadyH.cons rfl (fun K hK => ?_) AllReadyH.nil
  refine step_append_sees rfl (.tmp 136) (.tmp 137) 55 3 rfl Tryz.underlying55 Codes.int_info rfl (by decide) w10.heap.size _ (0 + kk) _ rfl O4.out _ nM _ rfl (by have h := QQ.out _ hHeld; unfold Ints at h; rw [← HNC.out] at h; exact h) (is_oneCell _) (by omega) (by omega) hHeld.size ?_
  intro v6 wa6 oa6 ga6 ba6
  have O6 : Hid (wa6.ownsRow w10.heap.size 3 1 v6 ((0 + kk) + nM) (([] ++ is (OLD.take kk)) ++ is CS)) := oa6
  refine hK.out _ _ (hHeld.trans ba6) (fun hNew => ?_)
  clear hHeld
  have hHeld := hNew
  clear hNew hK K oa6 ga6 ba6
  refine rX ?_
  refine wpAnyH_ready (rs := [10]) (by kernel_rfl) (by simp) ?_
  refine AllReadyH.cons rfl (fun K hK => ?_) AllReadyH.nil
  refine step_append_sees rfl (.tmp 138) (.tmp 141) 55 3 rfl Tryz.underlying55 Codes.int_info rfl (by decide) w10.heap.size _ (0 + kk + nM) _ rfl O6.out _ (nW - kk) _ rfl (by have h := HI2.out _ hHeld; unfold Ints at h; rw [HL2.out] at h; exact h) (is_oneCell _) (by omega) (by omega) hHeld.size ?_
  intro v10 wa10 oa10 ga10 ba10
  have O10 : Hid (wa10.ownsRow w10.heap.size 3 1 v10 ((0 + kk + nM) + (nW - kk)) ((([] ++ is (OLD.take kk)) ++ is CS) ++ is (OLD.drop kk))) := oa10
  refine hK.out _ _ (hHeld.trans ba10) (fun hNew => ?_)
  clear hHeld
  have hHeld := hNew
  clear hNew hK K oa10 ga10 ba10
  refine rX ?_
  refine rN 11 ?_
  refine wpAnyH_done (by kernel_rfl) ?_ _
  have WI : Hid (Ints wa10 v10 ((elmL (puts l M) a).map (·.p))) := by
    have h := O10.out
    rw [List.nil_append, ← is_append, ← is_append, ← EK.out] at h
    exact Ints.own h
  have BZ := Lib.hid hHeld
  clear hHeld O0 O4 O6 O10 HI1 HI2 QQ HL1 HL2 KN LMM LWW EK hwz
  have B_55 := Lib.hid (bt B_45.out BZ.out)
  clear B_45
  have BK_56 := Lib.hid (bt BK_46.out BZ.out)
  clear BK_46
  have U_57 := Lib.hid (U_47.out.keeps BZ.out)
  clear U_47
  have X_58 := Lib.hid (X_48.out.keeps BZ.out)
  clear X_48
  have R_59 := Lib.hid (R_50.out.keeps BZ.out)
  clear R_50
  have Q_60 := Lib.hid (Q_51.out.keeps BZ.out)
  clear Q_51
  have I_61 := Lib.hid (I_52.out.keeps BZ.out)
  clear I_52
  have C_62 := Lib.hid (C_53.out.keeps BZ.out)
  clear C_53
  have O_63 := Lib.hid (O_54.out.keeps BZ.out)
  clear O_54
  clear O_63 Q_60
  clear BZ
  go_wp2_with fail
  refine (PO.out _ _ _ R_59.out (by have := LX.out; omega)).mono ?_
  rintro e w11 ⟨vp, rfl, o11, b11⟩
  have B_64 := Lib.hid (bt B_55.out b11)
  clear B_55
  have BK_65 := Lib.hid (bt BK_56.out b11)
  clear BK_56
  have U_66 := Lib.hid (U_57.out.keeps b11)
  clear U_57
  have X_67 := Lib.hid (X_58.out.keeps b11)
  clear X_58
  have R_68 := Lib.hid (R_59.out.keeps b11)
  clear R_59
  have I_69 := Lib.hid (I_61.out.keeps b11)
  clear I_61
  have C_70 := Lib.hid (C_62.out.keeps b11)
  clear C_62
  have W_71 := Lib.hid (WI.out.keeps b11)
  clear WI
  have Y_72 := Lib.hid (o11)
  clear b11 o11
  clear PO
  clear R_68
  go_wp2_with fail
  refine (SM.out _ _ _ _ Y_72.out W_71.out).mono ?_
  rintro e w12 ⟨rfl, b12⟩
  have B_73 := Lib.hid (bt B_64.out b12)
  clear B_64
  have BK_74 := Lib.hid (bt BK_65.out b12)
  clear BK_65
  have U_75 := Lib.hid (U_66.out.keeps b12)
  clear U_66
  have X_76 := Lib.hid (X_67.out.keeps b12)
  clear X_67
  have I_77 := Lib.hid (I_69.out.keeps b12)
  clear I_69
  have C_78 := Lib.hid (C_70.out.keeps b12)
  clear C_70
  have W_79 := Lib.hid (W_71.out.keeps b12)
  clear W_71
  have Y_80 := Lib.hid (Y_72.out.keeps b12)
  clear Y_72
  clear b12
  clear SM
  clear Y_80 W_79
  have e7 : ((nM : Int) != (nM : Int)) = false := by simp
  have e8 : decide ((nM : Int) = (nM : Int)) = true := by simp
  have e9 : decide (nM = nM) = true := by simp
  have U4 : Hid (∀ W : World, Below w12.heap.size w12 W → OpL W (.slice uo nM uc) M) := fun W h => U_75.out.keeps h
  have C4 : Hid (∀ W : World, Below w12.heap.size w12 W → Tms W vv (versionL (puts l M) a)) := fun W h => C_78.out.keeps h
  have I4 : Hid (∀ W : World, Below w12.heap.size w12 W → Ids W (.slice lo NS lc) L) := fun W h => I_77.out.keeps h
  have X4 : Hid (∀ W : World, Below w12.heap.size w12 W → OpL W vx (puts l M)) := fun W h => X_76.out.keeps h
  have Z3 : Hid (Below w12.heap.size w12 w12) := Below.refl _ _
  have LMM := LM.out
  clear U_75 C_78 I_77 X_76
  go_wp2
  clear e7 e8 e9
  go_loopw [30] (fun i wr => ∃ j : Nat, j ≤ nM ∧ i = .int .i64 (j : Int) ∧ Hid (Below w12.heap.size w12 wr)) (fun i _ => nM - (intOf i).toNat)
  case atStart => exact ⟨0, by omega, rfl, Z3⟩
  case round =>
    clear Z3
    obtain ⟨j, hj, rfl, hbel⟩ := hrel
    by_cases hjN : j < nM
    rotate_left
    · rename World => wo
      have q3 : decide (j < nM) = false := by simpa using hjN
      obtain rfl : j = nM := by omega
      have Z4 : Hid (Below wo.heap.size wo wo) := Below.refl _ _
      clear EACH U4 C4 HS hjN hj LMM
      have HNm2 := HNm.out
      go_wp2
      go_loopw [31] (fun i wr => ∃ q : Nat, q ≤ NS ∧ i = .int .i64 (q : Int) ∧ Hid (Below wo.heap.size wo wr)) (fun i _ => NS - (intOf i).toNat)
      case atStart => exact ⟨0, by omega, rfl, Z4⟩
      case round =>
        clear Z4
        obtain ⟨q, hq, rfl, hbq⟩ := hrel
        have hbw := Lib.hid (hbel.out.trans (hbq.out.mono hbel.out.size))
        have BW := Lib.hid (bt B_73.out hbw.out)
        by_cases hqN : q < NS
        rotate_left
        · have q3 : decide (q < NS) = false := by simpa using hqN
          clear I4 X4 XAT TL TX SEC HV
          go_wp2
          go_ret
          exact ⟨rfl, BW.out⟩
        have q3 : decide (q < NS) = true := by simpa using hqN
        have q4 : (0 : Int) ≤ (q : Int) := by omega
        have q5 : (q : Int) < (NS : Int) := by omega
        have hjV : q < V.length + 1 := by have := HNV.out; omega
        have hjl : q < L.length := by have := HLN.out; omega
        obtain ⟨bb, oo, e, hbb, h0, h1⟩ := Ids.at (I4.out wr hbw.out) q hjl
        subst e
        have x3 := XAT.out q hjV
        obtain ⟨x4, x5⟩ := SEC.out _ x3
        have TX1 := TL.out wr _ (L.getD q zid) (HV.out wr BW.out)
        have TY1 : Hid (∀ W : World, Below wr.heap.size wr W → Calls Tryz.prog 30 #[vx, .agg #[.int .u32 ((L.getD q zid).t : Int), .int .u8 ((L.getD q zid).r : Int)]] W fun e w' => e = .returned (.tuple #[.string (str (textL (puts l M) (L.getD q zid))), .int .i64 (spanE (puts l M) (L.getD q zid))]) ∧ Below W.heap.size W w') := fun W h => TX.out W _ (L.getD q zid) (X4.out W (hbw.out.trans (h.mono hbw.out.size)))
        rw [x3] at TX1
        rw [x4] at TY1
        have HAq := Lib.hid (HA.out (L.getD q zid))
        have X5 : Hid (¬ ((L.getD q zid).t = sx ∧ (L.getD q zid).r = sy) → str (textL (puts l M) (L.getD q zid)) = str (textL l (L.getD q zid))) := fun h => by rw [x5 (fun e => h (HAq.out.1 e))]
        obtain ⟨⟨t0, r0, ht0, hr0⟩, hs⟩ : ∃ z, L.getD q zid = z := ⟨_, rfl⟩
        rw [hs] at h0 h1 TX1 TY1 X5
        simp only at h0 h1 TX1 TY1 X5
        obtain ⟨S1, hS1⟩ : ∃ z, str (textL l ⟨t0, r0, ht0, hr0⟩) = z := ⟨_, rfl⟩
        obtain ⟨S2, hS2⟩ : ∃ z, str (textL (puts l M) ⟨t0, r0, ht0, hr0⟩) = z := ⟨_, rfl⟩
        rw [hS1] at TX1
        rw [hS2] at TY1
        rw [hS1, hS2] at X5
        have ELT : Hid (∀ W : World, Below wr.heap.size wr W → W.cell? ⟨bb, oo + q * 2, none⟩ = some (.int .u32 (t0 : Int)) ∧ W.cell? ⟨bb, oo + q * 2 + 1, none⟩ = some (.int .u8 (r0 : Int))) := fun W h => ⟨(h.cell (p := ⟨bb, oo + q * 2, none⟩) hbb).trans h0, (h.cell (p := ⟨bb, oo + q * 2 + 1, none⟩) hbb).trans h1⟩
        have CEQ : Hid (∀ W : World, Below wr.heap.size wr W → W.cell? ⟨w.heap.size, 0, none⟩ = some (.int .u32 (sx : Int)) ∧ W.cell? ⟨w.heap.size, 1, none⟩ = some (.int .u8 (sy : Int))) := fun W h => CE.out W (bt BK_74.out (hbw.out.trans (h.mono hbw.out.size)))
        have TX2 := Lib.hid TX1
        clear TX1 x3 x4 x5 HAq hs hS1 hS2 hbb TL TX I4 X4 XAT SEC HV HA CE
        go_wp2_with fail
        refine TX2.out.mono ?_
        rintro e wp ⟨rfl, bp⟩
        have BP := Lib.hid (bt hbq.out bp)
        have BQ0 := Lib.hid bp
        obtain ⟨y0, y1⟩ := ELT.out _ bp
        clear bp h0 h1 TX2
        go_wp2_with fail
        refine (TY1.out _ BQ0.out).mono ?_
        rintro e wv ⟨rfl, bv⟩
        have BQ := Lib.hid (bt BP.out bv)
        have BT := Lib.hid (bt BQ0.out bv)
        obtain ⟨z0, z1⟩ := ELT.out _ BT.out
        obtain ⟨s0, s1⟩ := CEQ.out _ BT.out
        clear bv y0 y1 TY1 BP BQ0 ELT hbq hbel hbw BW
        by_cases hT : t0 = sx
        · by_cases hR : r0 = sy
          · subst hT hR
            have u1 : ((t0 : Int) != (t0 : Int)) = false := by simp
            have u2 : ((r0 : Int) != (r0 : Int)) = false := by simp
            clear X5
            go_wp2
            go_quiet (fail)
            go_wp2
            go_roundw
            case rel => exact ⟨q + 1, by omega, by go_num, below_draw BQ.out _⟩
            case measure => simp [intOf]; omega
          · subst hT
            obtain rfl := X5.out (fun h => hR h.2)
            have u1 : ¬ ((r0 : Int) = (sy : Int)) := by omega
            have u2 : ¬ r0 = sy := hR
            have u3 : decide ((r0 : Int) = (sy : Int)) = false := decide_eq_false u1
            have u4 : decide (r0 = sy) = false := decide_eq_false hR
            have u5 : (S2.toList == S2.toList) = true := by simp
            clear X5 hR
            go_wp2
            go_quiet (fail)
            go_wp2
            go_roundw
            case rel => exact ⟨q + 1, by omega, by go_num, below_draw BQ.out _⟩
            case measure => simp [intOf]; omega
        · obtain rfl := X5.out (fun h => hT h.1)
          have u1 : ¬ ((t0 : Int) = (sx : Int)) := by omega
          have u2 : ¬ t0 = sx := hT
          have u3 : decide ((t0 : Int) = (sx : Int)) = false := decide_eq_false u1
          have u4 : decide (t0 = sx) = false := decide_eq_false hT
          have u5 : (S2.toList == S2.toList) = true := by simp
          clear X5 hT
          go_wp2
          go_quiet (fail)
          go_wp2
          go_roundw
          case rel => exact ⟨q + 1, by omega, by go_num, below_draw BQ.out _⟩
          case measure => simp [intOf]; omega
    have q3 : decide (j < nM) = true := by simpa using hjN
    have q4 : (0 : Int) ≤ (j : Int) := by omega
    have q5 : (j : Int) < (nM : Int) := by omega
    have hjl : j < M.length := by have := HNM.out; omega
    obtain ⟨bb, oo, uu, e, hbb, hru, h0, h1, h2, h3, h4⟩ := opl_at (ao := uo) (m := nM) (cap := uc) (U4.out wr hbel.out) j hjl
    subst e
    obtain ⟨e1, e2, e3⟩ := EACH.out j hjl
    have HC := HS.out wr _ (idO (M[j]'hjl)) (C4.out wr hbel.out)
    rw [e3, show (idO (M[j]'hjl)).t = (M[j]'hjl).t from rfl, show (idO (M[j]'hjl)).r = (M[j]'hjl).r from rfl] at HC
    rw [e1] at h2 HC
    obtain ⟨tt, htt⟩ : ∃ z, (M[j]'hjl).t = z := ⟨_, rfl⟩
    rw [htt] at h1 e2 HC
    have HC2 := Lib.hid HC
    have v1 : ((r : Int) != (r : Int)) = false := by simp
    have v2 : decide ((tt : Int) ≤ (t : Int)) = false := decide_eq_false (by omega)
    have v3 : decide (tt ≤ t) = false := decide_eq_false (by omega)
    have KP : Hid (∀ W : World, Below wr.heap.size wr W → W.cell? ⟨bb, oo + j * 5 + 1, none⟩ = some (.int .u32 (tt : Int)) ∧ W.cell? ⟨bb, oo + j * 5 + 2, none⟩ = some (.int .u8 (r : Int))) := fun W h => ⟨(h.cell (p := ⟨bb, oo + j * 5 + 1, none⟩) hbb).trans h1, (h.cell (p := ⟨bb, oo + j * 5 + 2, none⟩) hbb).trans h2⟩
    clear hru h0 h3 h4 htt e1 e2 e3 HC hbb EACH U4 C4 HS I4 X4 XAT TL TX SEC HV HA CE
    go_wp2_with fail
    refine HC2.out.mono ?_
    rintro e wc ⟨rfl, bc⟩
    have BC := Lib.hid (bt hbel.out bc)
    obtain ⟨y1, y2⟩ := KP.out _ bc
    clear bc h1 h2 HC2 KP hbel
    go_wp2
    go_roundw
    case rel => exact ⟨j + 1, by omega, by go_num, BC⟩
    case measure => simp [intOf]; omega
end Go.Proofs.YtgjbnbojjgbmcaaGreat.Edits
