/- octavo/view.takenAway: what it answers; elements as they are gathered. Conditions: operations that may be, not more than a bag's. Lists of elements as the row that a sort passes through. Conditions: places that may be, or the beginning. octavo/view.Elements's closure: how two elements are held against each other. Conditions: the places read as such. slices.SortFunc at elements: the library's contract laid at this program. Conditions: as it says. slices.SortFunc over elements by their places: what it leaves. Conditions: a list of the call's own; places that may be, or the beginning. A place gone back, from its end on: what is found by that. Conditions: a bag, a section of it, its content. octavo/cover.cut, asking and what it makes, section.homes: what each answers. Conditions: the slices' cells are runs, operations. -/
import Derived.Test.YtmiepnnpccpicaaChecked
import Derived.WalkKit
import Derived.WalkSpells
import Derived.WalkLawsBesides
import Derived.Laws.BytesArg
import Derived.Lib.Hide
import Derived.Deep.LoopGhost
import Derived.Laws.AppendOwnNone
import Derived.Laws.OwnMore
import Derived.WideShapes
import Derived.Maps.AppendAt
import Derived.RegionTactic
import Derived.Deep.RegionHeld3
import Derived.Deep.DrawnRows
import Derived.Deep.QuietTactic
import Derived.BigQuiet
import Derived.IntWalk
import Derived.Deep.DeepCutAuto
import Derived.ScopeJumps
import Derived.Test.YtmiepnnpccpicaaProg
import Derived.LoopTactic
import Derived.Laws.EntriesVeiled
import Derived.RowKit
import Derived.Lib.DecodeN
import Derived.Lib.RuneBytes
import Derived.Maps.Own
import Derived.Maps.OwnOps
import Derived.Maps.OwnSet
import Derived.Maps.Views
import Derived.DeepKeys4
import Derived.Shelf.SlSortCmp.InsertionK
import Derived.Calls
import Derived.StepT
import Derived.Below
import Derived.Sort.Grow
import Derived.Deep.Draws
import Derived.Shelf.SlLaysF0
import Derived.Shelf.SlSortCmp.NoneTotal
import Derived.Test.YtmiepnnpccpicaaPk05
import Derived.Test.YtmiepnnpccpicaaPk04
import Derived.Test.YtmiepnnpccpicaaPk03
import Derived.Test.YtmiepnnpccpicaaPk02
import Derived.Test.YtmiepnnpccpicaaPk01
import Derived.Test.YtmiepnnpccpicaaPk06

namespace Go.Proofs.Ytmiepnnpccpicaa.Views
open Go.RowKit Go.WideShapes Stamp Go.Proofs.Ytmiepnnpccpicaa.Place Ops Codes Bags Marks Homes Covers
attribute [local go_sem ↓] Go.wp_at_zero Go.wp_at_succ
theorem gone_snoc (l : List Opn) (x : Opn) (a : Id) : goneM (l ++ [x]) a = (goneM l a || (decide (x.k = 3) && decide (tgt x = a))) := by
  unfold goneM
  rw [List.any_append]
  simp
set_option maxRecDepth 100000 in
set_option maxHeartbeats 4000000 in
theorem takenAway_any {v : Value} {l : List Opn} {w : World} (hv : OpL w v l) (hm : ∀ o ∈ l, mayO o = true) (hl : l.length ≤ 1024) :
    Calls Try.prog 29 #[v] w fun e w' => e = .returned (.map (some w.heap.size)) ∧ SetI w' w.heap.size l.length (goneM l) ∧ Below w.heap.size w w' := by
  obtain ⟨ao, cap, rfl⟩ := hv.shape
  obtain ⟨n, hn⟩ : ∃ n, n = l.length := ⟨_, rfl⟩
  have HV : Hid (∀ W : World, Below w.heap.size w W → OpL W (.slice ao l.length cap) l) := fun W h => hv.keeps h
  have HN := Lib.hid hn
  have HMY := Lib.hid hm
  rw [← hn] at hl ⊢
  have hmm := @run_makeMap Try.prog
  have S0 : Hid (SetI (w.alloc (.map #[] 0)) w.heap.size 0 (goneM (l.take 0))) := (SetI.made w).ext (fun a => by rw [List.take_zero]; rfl)
  have B0 := Lib.hid ((Below.refl w.heap.size w).alloc (Nat.le_refl _) (.map #[] 0))
  clear hv hn hm
  go_enter Try.func29, Try.ntmps29
  go_wp2
  go_loopw [9] (fun i wr => ∃ j : Nat, j ≤ n ∧ i = .int .i64 (j : Int) ∧ Hid (SetI wr w.heap.size j (goneM (l.take j))) ∧ Hid (Below w.heap.size w wr)) (fun i _ => n - (intOf i).toNat)
  case atStart => exact ⟨0, by omega, rfl, S0, B0⟩
  case round =>
    clear S0 B0
    obtain ⟨j, hj, rfl, hset, hbel⟩ := hrel
    by_cases hjn : j < n
    rotate_left
    · have q3 : decide (j < n) = false := by simpa using hjn
      have hkk : l.take j = l := List.take_of_length_le (by have := HN.out; omega)
      rw [hkk] at hset
      obtain rfl : j = n := by omega
      clear hkk
      go_wp2
      go_ret
      exact ⟨rfl, hset.out, hbel.out⟩
    have q3 : decide (j < n) = true := by simpa using hjn
    have q4 : (0 : Int) ≤ (j : Int) := by omega
    have q5 : (j : Int) < (n : Int) := by omega
    have hjl : j < l.length := by rw [← HN.out]; exact hjn
    obtain ⟨bb, oo, u, e, hbb, hru, h0, h1, h2, h3, h4⟩ := opl_at (HV.out wr hbel.out) j hjl
    subst e
    obtain ⟨x, hx⟩ : ∃ x, x = l[j]'hjl := ⟨_, rfl⟩
    rw [← hx] at hru h0 h1 h2 h4
    have hxm : x ∈ l := by rw [hx]; exact List.getElem_mem _
    have MX := HMY.out x hxm
    have hsn : ∀ a, goneM (l.take (j + 1)) a = (goneM (l.take j) a || (decide (x.k = 3) && decide (tgt x = a))) := fun a => by rw [List.take_succ_eq_append_getElem hjl, gone_snoc, hx]
    have HSN := Lib.hid hsn
    have hc := tgt_cells MX
    have LS : Hid (∀ W : World, Below wr.heap.size wr W → Calls Try.prog 47 #[u] W fun e w' => e = .returned (.agg #[.int .u32 ((tgt x).t : Int), .int .u8 ((tgt x).r : Int)]) ∧ Below W.heap.size W w') := fun W h => by
      rw [hc.1, hc.2]
      exact pLast_any (hru.keeps h)
    obtain ⟨g, hg⟩ : ∃ g, tgt x = g := ⟨_, rfl⟩
    rw [hg] at LS HSN
    obtain ⟨T, R, hT, hR⟩ := g
    simp only at LS
    obtain ⟨uo, uc, rfl⟩ := hru.shape
    obtain ⟨nu, hnu⟩ : ∃ n, n = x.pl.length := ⟨_, rfl⟩
    rw [← hnu] at h3 LS
    obtain ⟨k, hk⟩ : ∃ z, x.k = z := ⟨_, rfl⟩
    obtain ⟨t, ht⟩ : ∃ z, x.t = z := ⟨_, rfl⟩
    obtain ⟨r, hr⟩ : ∃ z, x.r = z := ⟨_, rfl⟩
    obtain ⟨p, hp⟩ : ∃ z, x.p = z := ⟨_, rfl⟩
    rw [hk] at h0 HSN
    rw [ht] at h1
    rw [hr] at h2
    rw [hp] at h4
    have BL : Hid (Below wr.heap.size wr (wr.alloc (.cells #[.int .u8 (k : Int), .int .u32 (t : Int), .int .u8 (r : Int), .slice uo nu uc, .int .i64 p] 36))) := (Below.refl _ _).alloc (Nat.le_refl _) _
    have SL := Lib.hid (hset.out.keeps BL.out)
    have BW := Lib.hid (bt hbel.out BL.out)
    clear hru hx hxm MX hc hg hnu hk ht hr hp hsn hset
    by_cases hk3 : k = 3
    rotate_left
    · have qk : ((k : Int) == 3) = false := by simp; omega
      have qk2 : decide ((k : Int) = 3) = false := decide_eq_false (by omega)
      have S6 : Hid (SetI (wr.alloc (.cells #[.int .u8 (k : Int), .int .u32 (t : Int), .int .u8 (r : Int), .slice uo nu uc, .int .i64 p] 36)) w.heap.size (j + 1) (goneM (l.take (j + 1)))) := by
        obtain ⟨D, d1, d2⟩ := SL.out
        exact ⟨D, d1.mono (Nat.le_succ _), fun a => by rw [d2 a, HSN.out a, decide_eq_false hk3]; simp⟩
      clear SL LS hk3 HSN
      go_wp2
      go_roundw
      case rel => exact ⟨j + 1, by omega, by go_num, S6, BW⟩
      case measure => simp [intOf]; omega
    · subst hk3
      have qk : ((((3 : Nat) : Int)) == 3) = true := by rfl
      go_wp2_with fail
      refine (LS.out _ BL.out).mono ?_
      rintro e w2 ⟨rfl, b2⟩
      have S2 := Lib.hid (SL.out.keeps b2)
      have B2 := Lib.hid (bt BW.out b2)
      clear b2 SL BW
      go_wp2_with (at_mapUpdate; refine wpList_put_set _ rfl _ _ _ 64 66 rfl Try.underlying64 w.heap.size j ⟨T, R, hT, hR⟩ (goneM (l.take j)) S2.out (by omega) rfl rfl rfl ?_)
      intro w3 s3 g3
      have S3 : Hid (SetI w3 w.heap.size (j + 1) (goneM (l.take (j + 1)))) := s3.ext (fun a => by
        rw [HSN.out a, Bool.or_comm]
        simp [eq_comm])
      have B3 : Hid (Below w.heap.size w w3) := B2.out.grown g3 B2.out.size (fun i e => by cases e; exact Nat.le_refl _)
      clear s3 g3 S2 B2 LS BL
      go_wp2
      go_roundw
      case rel => exact ⟨j + 1, by omega, by go_num, S3, B3⟩
      case measure => simp [intOf]; omega
/-- Of some operations the inserts that none of C takes away, as they come. -/
def pickE (C l : List Opn) : List Opn := l.filter (fun o => decide (o.k = 1) && !goneM C (idO o))
theorem pickE_yes {C l : List Opn} {x : Opn} (hk : x.k = 1) (he : goneM C (idO x) = false) : pickE C (l ++ [x]) = pickE C l ++ [x] := by
  unfold pickE
  rw [List.filter_append, List.filter_cons_of_pos (by simp [hk, he])]
  rfl
theorem pickE_no {C l : List Opn} {x : Opn} (h : ¬ (x.k = 1 ∧ goneM C (idO x) = false)) : pickE C (l ++ [x]) = pickE C l := by
  unfold pickE
  rw [List.filter_append, List.filter_cons_of_neg (by simpa using h)]
  simp
theorem mem_pickE {C l : List Opn} {y : Opn} : y ∈ pickE C l ↔ y ∈ l ∧ y.k = 1 ∧ goneM C (idO y) = false := by
  unfold pickE
  simp
theorem pickE_is {l m : List Opn} (hm : ∀ o ∈ l, mayO o = true) (hl : l.Pairwise lessO) (hp : m.Perm (pickE l l)) (hs : m.Pairwise (fun a b => ¬ cmp b.pl a.pl < 0)) : seenM l = m := by
  have hmem : ∀ y, y ∈ m ↔ y ∈ l ∧ y.k = 1 ∧ goneM l (idO y) = false := fun y => by rw [hp.mem_iff, mem_pickE]
  refine seen_ext hm hl ?_ hmem
  have hd : m.Pairwise (fun a b => idO a ≠ idO b) := by
    refine (hp.pairwise_iff (fun {a b} h => Ne.symm h)).2 ?_
    unfold pickE
    exact (hl.imp (fun h => lessO_ne h)).filter _
  refine List.Pairwise.imp_of_mem ?_ (hs.and hd)
  intro a b ha hb h
  have h1 := (hmem a).1 ha
  have h2 := (hmem b).1 hb
  rcases ins_ne (hm a h1.1) (hm b h2.1) h1.2.1 h2.2.1 h.2 with h3 | h3
  · exact h3
  · exact absurd h3 h.1
/-- Elements in a row of the call's own (from B on), their places from A on. -/
def TwE (w : World) (B A : Nat) (v : Value) (l : List Opn) : Prop := ∃ cs, w.ownsRow B 38 4 v l.length cs ∧ HoldE w A cs l
theorem TwE.nil (w : World) (B A : Nat) : TwE w B A (.slice none 0 0) [] := ⟨[], World.ownsRow_nil _ _ _ _, rfl⟩
theorem TwE.keeps {w w' : World} {B A : Nat} {v : Value} {l : List Opn} (h : TwE w B A v l) (hb : Below w.heap.size w w') : TwE w' B A v l := by
  obtain ⟨cs, h1, h2⟩ := h
  exact ⟨cs, own_stays h1 hb, h2.keeps hb⟩
theorem TwE.own {w : World} {B A : Nat} {v : Value} {l : List Opn} (h : TwE w B A v l) (hb : A ≤ B) : OwnE w A v l := by
  obtain ⟨cs, h1, h2⟩ := h
  exact ⟨cs, op_base h1 hb, h2⟩
theorem TwE.snoc {W W8 w5 : World} {B A m : Nat} {v v5 u : Value} {cs : List Value} {l : List Opn} {o : Opn} (h1 : W.ownsRow B 38 4 v l.length cs) (h2 : HoldE W A cs l) (hb : Below W.heap.size W W8)
    (hu : W8.ownsRow A 42 3 u o.pl.length (runs o.pl)) (g5 : W8.grownBy w5 v.ownBlock) (o5 : w5.ownsRow B 38 4 v5 m (cs ++ [.int .u32 (o.t : Int), .int .u8 (o.r : Int), u, .int .i64 o.p])) (hm : m = l.length + 1) : TwE w5 B A v5 (l ++ [o]) := by
  have hx := own_stays h1 hb
  refine ⟨_, by rw [List.length_append, List.length_singleton, ← hm]; exact o5, ?_⟩
  refine HoldE.append (HoldE.grown g5 hx (h2.keeps hb)) ?_
  exact HoldE.grown g5 hx ⟨u, [], rfl, hu, rfl⟩
end Go.Proofs.Ytmiepnnpccpicaa.Views

namespace Go.Proofs.Ytmiepnnpccpicaa.Views
open Go.RowKit Go.WideShapes Go.Sort Stamp Go.Proofs.Ytmiepnnpccpicaa.Place Ops Codes Bags Marks
def encV {w : World} {base : Nat} (x : Elt w base) : List Value := [.int .u32 (x.1.1.t : Int), .int .u8 (x.1.1.r : Int), x.1.2, .int .i64 x.1.1.p]
theorem encV_len {w : World} {base : Nat} (x : Elt w base) : (encV x).length = 4 := rfl
theorem eltsV_of {w : World} {base : Nat} : ∀ {cs : List Value} {l : List Opn}, HoldE w base cs l → (∀ o ∈ l, anyB o.pl = true) → ∃ ds : List (Elt w base), cs = ds.flatMap encV ∧ l = ds.map opE'
  | _, [], h, _ => ⟨[], h, rfl⟩
  | _, o :: l, ⟨v, d, h1, h2, h3⟩, hm => by
    obtain ⟨ds, e1, e2⟩ := eltsV_of h3 (fun o ho => hm o (by simp [ho]))
    have ho := hm o (by simp)
    obtain ⟨z, hz⟩ : ∃ z : Elt w base, z.1 = (o, v) := ⟨⟨(o, v), ho, h2⟩, rfl⟩
    refine ⟨z :: ds, ?_, ?_⟩
    · rw [h1, e1, List.flatMap_cons]; unfold encV; rw [hz]
    · rw [List.map_cons, ← e2]; unfold opE'; rw [hz]
theorem holdE_of {w w' : World} {base : Nat} (hk : ∀ x : Elt w base, w'.ownsRow base 42 3 x.1.2 x.1.1.pl.length (runs x.1.1.pl)) : ∀ ds : List (Elt w base), HoldE w' base (ds.flatMap encV) (ds.map opE')
  | [] => rfl
  | x :: ds => ⟨x.1.2, ds.flatMap encV, by rw [List.flatMap_cons]; rfl, hk x, holdE_of hk ds⟩
/-- Places stay while the elements are moved about. -/
theorem eltV_stays {w : World} {base g : Nat} {cur : Array Value} (hg : w.heap[g]? = some (.cells cur 38 (0, 0))) (m : Nat) (d : Array (Elt w base)) (os : Array Obj) (x : Elt w base) :
    (sortWorldK encV 4 w g 0 m d os).ownsRow base 42 3 x.1.2 x.1.1.pl.length (runs x.1.1.pl) := by
  obtain ⟨x, _, h⟩ := x
  refine ⟨h.1, ?_⟩
  rcases h.2 with h | ⟨b, cap, c, e1, e2, e3, e4⟩
  · exact .inl h
  · refine .inr ⟨b, cap, c, e1, e2, ?_, e4⟩
    rw [srt_other encV 4 w g 0 m d os ?_ (Array.getElem?_eq_some_iff.1 e3).1]
    · exact e3
    · rintro rfl
      rw [hg] at e3
      injection e3 with e3
      injection e3 with _ e3 _
      exact absurd e3 (by decide)
theorem eltV_holds {w : World} {base g cap n : Nat} {ds : List (Elt w base)} (hg : ∃ cur, w.heap[g]? = some (.cells cur 38 (0, 0)) ∧ cur.size = cap * 4 ∧ cur.toList.take (n * 4) = ds.flatMap encV) (hn : n = ds.length) (hc : n ≤ cap) : HoldsK encV 4 w g 0 ds.toArray := by
  obtain ⟨cur, h1, h2, h3⟩ := hg
  intro j hj
  rw [size_flatK] at hj
  have hj' : j < ds.length * 4 := by simpa using hj
  have hjc : j < cur.size := by rw [h2]; have := Nat.mul_le_mul_right 4 hc; omega
  have e : cur[j]? = (flatK encV 4 ds.toArray)[j]? := by
    rw [← Array.getElem?_toList, ← Array.getElem?_toList, flatK_list encV 4 (by decide) encV_len, ← h3, List.getElem?_take, if_pos (by omega)]
  have hf : j < (flatK encV 4 ds.toArray).size := by rw [size_flatK]; exact hj
  rw [Nat.zero_add]
  constructor
  · have e2 : w.cell? ⟨g, j, none⟩ = cur[j]? := by simp [World.cell?, h1]
    rw [e2, e, Array.getElem?_eq_getElem hf, getElem!_pos _ j hf]
    rfl
  · simp [World.frozen?, h1]
end Go.Proofs.Ytmiepnnpccpicaa.Views

namespace Go.Proofs.Ytmiepnnpccpicaa.Views
open Go.RowKit Go.WideShapes Stamp Go.Proofs.Ytmiepnnpccpicaa.Place Ops Codes Bags Marks
attribute [local go_sem ↓] Go.wp_at_zero Go.wp_at_succ
set_option maxRecDepth 100000 in
set_option maxHeartbeats 4000000 in
theorem clsV_any {u v : Value} {x y : Opn} {w : World} (hu : Runs w u x.pl) (hv : Runs w v y.pl) :
    Calls Try.prog 31 #[elv x u, elv y v] w fun e w' => e = .returned (.int .i64 (cmp x.pl y.pl)) ∧ Below w.heap.size w w' := by
  have PC : Hid (∀ W : World, Below w.heap.size w W → Calls Try.prog 21 #[u, v] W fun e w' => e = .returned (.int .i64 (cmp x.pl y.pl)) ∧ Below W.heap.size W w') := fun W h => pCompare_any (hu.keeps h) (hv.keeps h)
  have B0 : Hid (Below w.heap.size w ((w.alloc (.cells #[.int .u32 (x.t : Int), .int .u8 (x.r : Int), u, .int .i64 x.p] 38)).alloc (.cells #[.int .u32 (y.t : Int), .int .u8 (y.r : Int), v, .int .i64 y.p] 38))) := ((Below.refl _ _).alloc (Nat.le_refl _) _).alloc (by simp) _
  obtain ⟨q, hq⟩ : ∃ q, cmp x.pl y.pl = q := ⟨_, rfl⟩
  rw [hq] at PC ⊢
  obtain ⟨uo, uc, rfl⟩ := hu.shape
  obtain ⟨vo, vc, rfl⟩ := hv.shape
  obtain ⟨nu, hnu⟩ : ∃ n, x.pl.length = n := ⟨_, rfl⟩
  obtain ⟨nv, hnv⟩ : ∃ n, y.pl.length = n := ⟨_, rfl⟩
  rw [hnu] at PC B0 ⊢
  rw [hnv] at PC B0 ⊢
  clear hq hu hv hnu hnv
  obtain ⟨k1, t1, r1, l1, p1, hk1, ht1, hr1, hp1⟩ := x
  obtain ⟨k2, t2, r2, l2, p2, hk2, ht2, hr2, hp2⟩ := y
  unfold elv
  simp only at B0 ⊢
  clear hk1 ht1 hr1 hp1 hk2 ht2 hr2 hp2
  go_enter Try.func31, Try.ntmps31
  go_wp2_with fail
  refine (PC.out _ B0.out).mono ?_
  rintro e w1 ⟨rfl, b1⟩
  have B1 := Lib.hid (bt B0.out b1)
  clear b1 PC B0
  go_wp2
  go_ret
  exact ⟨rfl, B1.out⟩
end Go.Proofs.Ytmiepnnpccpicaa.Views

namespace Go.Proofs.Ytmiepnnpccpicaa.Views
open Go.Shelf Go.Proofs
def sortEl_ren : Go.Shelf.Ren := ⟨fun | 6 => 30 | 15 => 49 | 14 => 48 | 28 => 69 | 29 => 70 | 20 => 61 | 21 => 62 | 22 => 63 | 23 => 64 | 24 => 65 | 25 => 66 | 26 => 67 | 27 => 68 | 46 => 87 | 47 => 88 | 48 => 89 | 49 => 90 | 50 => 91 | 57 => 95 | n => n, fun | 22 => 49 | 24 => 38 | 25 => 69 | 3 => 3 | 39 => 75 | 0 => 0 | 53 => 28 | 55 => 113 | 4 => 4 | 46 => 106 | 45 => 105 | 50 => 54 | 5 => 5 | 9 => 9 | 66 => 123 | 70 => 127 | 76 => 131 | 77 => 132 | n => n, fun | n => n⟩
theorem sortEl : Go.Proofs.SlLaysF0.n6 Try.prog sortEl_ren where
  mixed := by kernel_rfl
  f6 := ⟨ "slices.SortFunc[[]octavo/api.Element,octavo/api.Element]", by decide, Try.func30.trans (congrArg some (by kernel_rfl))⟩
  f14 := ⟨ "slices.pdqsortCmpFunc[octavo/api.Element]", by decide, Try.func48.trans (congrArg some (by kernel_rfl))⟩
  f15 := Try.func49.trans (congrArg some (by kernel_rfl))
  f20 := ⟨ "slices.insertionSortCmpFunc[octavo/api.Element]", by decide, Try.func61.trans (congrArg some (by kernel_rfl))⟩
  f21 := ⟨ "slices.heapSortCmpFunc[octavo/api.Element]", by decide, Try.func62.trans (congrArg some (by kernel_rfl))⟩
  f22 := ⟨ "slices.breakPatternsCmpFunc[octavo/api.Element]", by decide, Try.func63.trans (congrArg some (by kernel_rfl))⟩
  f23 := ⟨ "slices.choosePivotCmpFunc[octavo/api.Element]", by decide, Try.func64.trans (congrArg some (by kernel_rfl))⟩
  f24 := ⟨ "slices.reverseRangeCmpFunc[octavo/api.Element]", by decide, Try.func65.trans (congrArg some (by kernel_rfl))⟩
  f25 := ⟨ "slices.partialInsertionSortCmpFunc[octavo/api.Element]", by decide, Try.func66.trans (congrArg some (by kernel_rfl))⟩
  f26 := ⟨ "slices.partitionEqualCmpFunc[octavo/api.Element]", by decide, Try.func67.trans (congrArg some (by kernel_rfl))⟩
  f27 := ⟨ "slices.partitionCmpFunc[octavo/api.Element]", by decide, Try.func68.trans (congrArg some (by kernel_rfl))⟩
  f28 := Try.func69.trans (congrArg some (by kernel_rfl))
  f29 := Try.func70.trans (congrArg some (by kernel_rfl))
  f46 := ⟨ "slices.siftDownCmpFunc[octavo/api.Element]", by decide, Try.func87.trans (congrArg some (by kernel_rfl))⟩
  f47 := Try.func88.trans (congrArg some (by kernel_rfl))
  f48 := Try.func89.trans (congrArg some (by kernel_rfl))
  f49 := ⟨ "slices.medianAdjacentCmpFunc[octavo/api.Element]", by decide, Try.func90.trans (congrArg some (by kernel_rfl))⟩
  f50 := ⟨ "slices.medianCmpFunc[octavo/api.Element]", by decide, Try.func91.trans (congrArg some (by kernel_rfl))⟩
  f57 := ⟨ "slices.order2CmpFunc[octavo/api.Element]", by decide, Try.func95.trans (congrArg some (by kernel_rfl))⟩
  t0 := Try.underlying0
  a0 := Try.isAgg0
  z0 := Try.sizeOf0
  v0 := Try.zeroValue0
  t3 := Try.underlying3
  a3 := Try.isAgg3
  z3 := Try.sizeOf3
  v3 := Try.zeroValue3
  t4 := Try.underlying4
  a4 := Try.isAgg4
  z4 := Try.sizeOf4
  v4 := Try.zeroValue4
  t5 := Try.underlying5
  a5 := Try.isAgg5
  z5 := Try.sizeOf5
  v5 := Try.zeroValue5
  t9 := Try.underlying9
  a9 := Try.isAgg9
  z9 := Try.sizeOf9
  v9 := Try.zeroValue9
  t22 := Try.underlying49
  a22 := Try.isAgg49
  z22 := Try.sizeOf49
  v22 := Try.zeroValue49
  t25 := Try.underlying69
  a25 := Try.isAgg69
  z25 := Try.sizeOf69
  v25 := Try.zeroValue69
  t39 := Try.underlying75
  a39 := Try.isAgg75
  z39 := Try.sizeOf75
  v39 := Try.zeroValue75
  t45 := Try.underlying105
  a45 := Try.isAgg105
  z45 := Try.sizeOf105
  v45 := Try.zeroValue105
  t46 := Try.underlying106
  a46 := Try.isAgg106
  z46 := Try.sizeOf106
  v46 := Try.zeroValue106
  t50 := Try.underlying54
  a50 := Try.isAgg54
  z50 := Try.sizeOf54
  v50 := Try.zeroValue54
  t53 := Try.underlying28
  a53 := Try.isAgg28
  z53 := Try.sizeOf28
  v53 := Try.zeroValue28
  t55 := Try.underlying113
  a55 := Try.isAgg113
  z55 := Try.sizeOf113
  v55 := Try.zeroValue113
  t66 := Try.underlying123
  a66 := Try.isAgg123
  z66 := Try.sizeOf123
  v66 := Try.zeroValue123
  t70 := Try.underlying127
  a70 := Try.isAgg127
  z70 := Try.sizeOf127
  v70 := Try.zeroValue127
  t76 := Try.underlying131
  a76 := Try.isAgg131
  z76 := Try.sizeOf131
  v76 := Try.zeroValue131
  t77 := Try.underlying132
  a77 := Try.isAgg132
  z77 := Try.sizeOf132
  v77 := Try.zeroValue132
end Go.Proofs.Ytmiepnnpccpicaa.Views

namespace Go.Proofs.Ytmiepnnpccpicaa.Views
open Go.RowKit Go.WideShapes Go.Sort Stamp Go.Proofs.Ytmiepnnpccpicaa.Place Ops Codes Bags Marks
theorem four_one (o : Opn) (u : Value) (hu : ∃ ao n cap, u = .slice ao n cap) : ∀ x ∈ [Value.int .u32 (o.t : Int), .int .u8 (o.r : Int), u, .int .i64 o.p], x.oneCell' = true := by
  obtain ⟨ao, n, cap, rfl⟩ := hu
  intro x hx
  simp only [List.mem_cons, List.not_mem_nil, or_false] at hx
  rcases hx with rfl | rfl | rfl | rfl <;> rfl
theorem sortE_any {v : Value} {l : List Opn} {base : Nat} {w : World} (hv : OwnE w base v l) (hm : ∀ o ∈ l, anyB o.pl = true) (hl : l.length < 4611686018427387904) :
    Calls Try.prog 30 #[v, .func (.func 31) #[] #[]] w fun e w' => e = .returned (.tuple #[]) ∧ ∃ l', l'.Perm l ∧ l'.Pairwise (fun a b => ¬ cmp b.pl a.pl < 0) ∧ OwnE w' base v l' ∧ Below base w w' := by
  obtain ⟨cs, h1, h2⟩ := hv
  by_cases hz : l = []
  · subst hz
    obtain ⟨ao, cap, rfl⟩ : ∃ ao cap, v = .slice ao 0 cap := Sees.shape (Sees.own h1)
    refine (AnyF.slices_SortFunc_none sortEl ao cap (.func (.func 31) #[] #[]) w).mono ?_
    rintro e w' ⟨rfl, rfl⟩
    exact ⟨rfl, [], .refl _, .nil, ⟨cs, h1, h2⟩, Below.refl _ _⟩
  rcases h1.2 with ⟨rfl, h⟩ | ⟨g, cap, cur, rfl, hbg, hg, hlc, hcm, hcs, hct⟩
  · exact absurd (List.length_eq_zero_iff.1 h) hz
  obtain ⟨ds, e1, e2⟩ := eltsV_of h2 hm
  have hn : l.length = ds.length := by rw [e2, List.length_map]
  have hgs := (Array.getElem?_eq_some_iff.1 hg).1
  have eg : ∀ args w, (callFunc 31 args).run Try.prog w = .ok (.enter 31 args) w := enters_of Try.func31 (by kernel_rfl) rfl
  have hcmp : CmpLays Try.prog 31 #[] (encV (w := w) (base := base)) 4 cfE g 0 ds.toArray.size w := fun m os dk _ x y =>
    Draws.calls_grow (clsV_any (Runs.own (eltV_stays hg m dk os x)) (Runs.own (eltV_stays hg m dk os y)))
  have hH : HoldsK encV 4 w g 0 ds.toArray := eltV_holds ⟨cur, hg, hcs, by rw [hct, e1]⟩ hn hlc
  have hcon := AnyQ.slices_SortFunc sortEl 4 Try.isAgg38 Try.sizeOf38 encV encV_len (fun x => by
      obtain ⟨ao, c, h⟩ := Sees.shape (Sees.own x.2.2)
      exact four_one x.1.1 x.1.2 ⟨ao, _, c, h⟩) cfE (swoE w base) 31 #[] g 0 cap ds.toArray w eg hcmp hH hgs (by simpa [← hn] using hl)
  change Calls Try.prog 30 _ _ _ at hcon
  rw [show ds.toArray.size = l.length by rw [hn]; simp] at hcon
  refine hcon.mono ?_
  rintro e w' ⟨rfl, d', n, os, hp, hs, rfl⟩
  obtain ⟨hp1, _, hp3⟩ := hp
  have hdn : d'.size = l.length := by rw [hp1, hn]; simp
  refine ⟨rfl, d'.toList.map opE', ?_, ?_, ⟨d'.toList.flatMap encV, ⟨?_, .inr ⟨g, cap, putCells id 0 (flatK encV 4 d') cur, ?_, hbg, srt_row encV 4 n d' os hg, ?_, hcm, ?_, ?_⟩⟩, holdE_of (eltV_stays hg n d' os) _⟩, srt_below encV 4 w g 0 n base d' os hbg hgs⟩
  · rw [e2]
    refine List.Perm.map _ ?_
    have : (d'.extract 0 l.length).toList.Perm (ds.toArray.extract 0 l.length).toList := hp3
    rw [Array.extract_eq_self_of_le (by omega), Array.extract_eq_self_of_le (by simp [hn])] at this
    simpa using this
  · rw [List.pairwise_map, List.pairwise_iff_getElem]
    intro i j hi hj hij
    have := hs i j (Nat.zero_le _) hij (by rw [← hdn]; simpa using hj)
    rw [getElem!_pos d' j (by simpa using hj), getElem!_pos d' i (by simpa using hi)] at this
    unfold ltOf cfE at this
    have h := of_decide_eq_false this
    simpa [opE'] using h
  · rw [← flatK_list encV 4 (by decide) encV_len]
    simp
  · simp [hdn]
  · simpa [hdn] using hlc
  · rw [putCells_size]; exact hcs
  · have h3 : (flatK encV 4 d').size = l.length * 4 := by rw [size_flatK, hdn]
    rw [List.length_map, Array.length_toList, hdn, ← h3, putCells_take _ _ (by rw [h3, hcs]; exact Nat.mul_le_mul_right 4 hlc), flatK_list encV 4 (by decide) encV_len]
end Go.Proofs.Ytmiepnnpccpicaa.Views

namespace Go.Proofs.Ytmiepnnpccpicaa.Covers
open Ops Stamp Bags Marks Homes Go.Proofs.Ytmiepnnpccpicaa.Place
/-- Does a span hold a place? -/
def homB (F T p : List Run) : Bool := decide (cmp F p ≤ 0) && (decide (T.length = 0) || decide (cmp p T < 0))
theorem begin_any {live : List Opn} (h : Liv live) (a : Int) : anyB (beginM live a) = true := by
  unfold beginM
  split
  · rename_i hx
    have hj : (a - 1).toNat < live.length := by omega
    rw [List.getD_eq_getElem?_getD, List.getElem?_eq_getElem hj]
    exact anyB_may (mayO_parts (h.may _ (List.getElem_mem hj)).1).2.1
  · rfl
theorem from_any {l : List Opn} {s : Id} (hE : spanE l s = 0) : anyB (fromL l s) = true := by
  obtain ⟨hb, hs⟩ := spanE_zero.1 hE
  unfold fromL
  rw [if_pos ⟨(bagB_iff l).2 hb, hs⟩]
  exact begin_any (liv_bag hb) _
theorem homB_is {l : List Opn} {s : Id} (hE : spanE l s = 0) {p : List Run} (hp : anyB p = true) : homB (fromL l s) (toL l s) p = decide (homeM (livesM l l) p = s) := by
  obtain ⟨hb, hs⟩ := spanE_zero.1 hE
  have hw : whereN (livesM l l) s < (livesM l l).length + 1 := by
    unfold whereM at hs
    split at hs
    · assumption
    · omega
  have e := where_of hw
  obtain ⟨i, hi⟩ : ∃ i, whereN (livesM l l) s = i := ⟨_, rfl⟩
  rw [hi] at hw e
  subst e
  obtain ⟨e1, e2, _⟩ := span_at hb hw
  rw [e1, e2]
  unfold homB
  rw [span_home (liv_bag hb) hp hw, decide_eq_decide, eq_comm (a := homeM _ _), home_at (liv_bag hb) hw]
theorem cut_ahead {p : List Run} (h : mayB p = true) {j k : Nat} (hj : j ≤ k) : Go.Proofs.Ytmiepnnpccpicaa.Place.hold (all (cutN p j)) (all (cutN p k)) = 0 ∨ Go.Proofs.Ytmiepnnpccpicaa.Place.hold (all (cutN p j)) (all (cutN p k)) = -1 := by
  have hc := ((mayB_iff p).1 h).2.2.1
  rw [all_cutN hc, all_cutN hc]
  have e : (all p).take k = (all p).take j ++ ((all p).take k).drop j := by
    have := List.take_append_drop j ((all p).take k)
    rw [List.take_take, Nat.min_eq_left hj] at this
    exact this.symm
  rw [e]
  cases ((all p).take k).drop j with
  | nil => left; rw [List.append_nil]; exact (hold_eq _ _).2 rfl
  | cons a m => right; exact hold_front _ a m
theorem cmp_any {p q : List Run} (hp : anyB p = true) (hq : anyB q = true) : cmp p q = Go.Proofs.Ytmiepnnpccpicaa.Place.hold (all p) (all q) := by
  unfold cmp; rw [if_pos ⟨hp, hq⟩]
theorem cmp_back {F p : List Run} (hF : anyB F = true) (h : mayB p = true) {j k : Nat} (hj : j ≤ k) (hk : cmp (cutN p k) F < 0) : cmp F (cutN p j) > 0 := by
  rw [cmp_any (any_cutN h) hF] at hk
  rw [cmp_any hF (any_cutN h)]
  have h1 := hold_range (all (cutN p k)) (all F)
  have h2 := hold_neg (all (cutN p j)) (all F)
  have h3 : Go.Proofs.Ytmiepnnpccpicaa.Place.hold (all (cutN p j)) (all F) = -1 := by
    rcases cut_ahead h hj with e | e
    · rw [(hold_eq _ _).1 e]; omega
    · exact hold_trans _ _ _ e (by omega)
  omega
/-- From a stamp on, all that is homed in the section is there. -/
def okN (l : List Opn) (s : Id) (o : Opn) (k : Nat) : Prop := ∀ j, k ≤ j → j < (all o.pl).length → homeM (livesM l l) (cutN o.pl (j + 1)) = s → hasO l ((all o.pl).getD j zid) = true
theorem ok_end (l : List Opn) (s : Id) (o : Opn) : okN l s o (all o.pl).length := fun j h1 h2 => by omega
theorem ok_zero {l : List Opn} {s : Id} {o : Opn} (h : okN l s o 0) : isB l (livesM l l) s o = true :=
  isB_iff.2 fun k hk e => h k (by omega) (by have := manyN_le o; omega) e
theorem ok_break {l : List Opn} {s : Id} {o : Opn} {k : Nat} (hE : spanE l s = 0) (ho : o ∈ l) (h : okN l s o k) (hk : cmp (cutN o.pl k) (fromL l s) < 0) : isB l (livesM l l) s o = true := by
  have hm := (mayO_parts ((spanE_zero.1 hE).1.2.1 o ho)).2.1
  refine isB_iff.2 fun j hj e => ?_
  by_cases hjk : k ≤ j
  · exact h j hjk (by have := manyN_le o; omega) e
  · exfalso
    have h1 := cmp_back (from_any hE) hm (show j + 1 ≤ k by omega) hk
    have h2 := homB_is hE (any_cutN (k := j + 1) hm)
    rw [decide_eq_true e] at h2
    unfold homB at h2
    rw [decide_eq_false (by omega)] at h2
    simp at h2
theorem ok_step {l : List Opn} {s : Id} {o : Opn} {k : Nat} (h : okN l s o (k + 1)) (hh : hasO l ((all o.pl).getD k zid) = true) : okN l s o k := fun j h1 h2 e => by
  by_cases hjk : j = k
  · subst hjk; exact hh
  · exact h j (by omega) h2 e
theorem own_last {o : Opn} (h : mayO o = true) (hk : ownB o = true) : (all o.pl).getD ((all o.pl).length - 1) zid = idO o := by
  have h3 := (mayO_parts h).2.2
  have hl := lastV_all (mayO_parts h).2.1
  unfold kindB kindF at h3
  unfold ownB at hk
  rw [hl] at h3
  have : o.k = 1 ∨ o.k = 2 := by simpa using hk
  have h4 : (((((all o.pl).getD ((all o.pl).length - 1) zid).t : Int), (((all o.pl).getD ((all o.pl).length - 1) zid).r : Int)) : Int × Int) = ((o.t : Int), (o.r : Int)) := by
    rcases this with e | e
    · rw [e] at h3; simp at h3; simpa using h3.1
    · rw [e] at h3; simp at h3; simpa using h3.1
  obtain ⟨h5, h6⟩ := Prod.mk.inj h4
  exact Id.ext' (by show _ = o.t; omega) (by show _ = o.r; omega)
theorem ok_no {l : List Opn} {s : Id} {o : Opn} {k : Nat} (hE : spanE l s = 0) (ho : o ∈ l) (hB : homB (fromL l s) (toL l s) o.pl = true) (hk : k < (all o.pl).length)
    (h1 : ¬ cmp (cutN o.pl (k + 1)) (fromL l s) < 0) (h2 : hasO l ((all o.pl).getD k zid) = false) : isB l (livesM l l) s o = false := by
  have hO := (spanE_zero.1 hE).1.2.1 o ho
  have hm := (mayO_parts hO).2.1
  have hc := ((mayB_iff o.pl).1 hm).2.2.1
  have hkm : k < manyN o := by
    unfold manyN offs
    by_cases hw : ownB o = true
    · rw [if_pos hw]
      by_cases he : k = (all o.pl).length - 1
      · rw [he, own_last hO hw] at h2
        exact absurd rfl (hasO_no.1 h2 o ho)
      · omega
    · rw [if_neg hw]; omega
  have hh : homeM (livesM l l) (cutN o.pl (k + 1)) = s := by
    have e := homB_is hE (any_cutN (k := k + 1) hm)
    have hF := from_any hE
    have e2 : homB (fromL l s) (toL l s) (cutN o.pl (k + 1)) = true := by
      unfold homB at hB ⊢
      rw [Bool.and_eq_true, Bool.or_eq_true, decide_eq_true_iff, decide_eq_true_iff, decide_eq_true_iff] at hB ⊢
      refine ⟨?_, hB.2.imp id fun h => ?_⟩
      · rw [cmp_any hF (any_cutN hm)]
        rw [cmp_any (any_cutN hm) hF] at h1
        have := hold_neg (all (cutN o.pl (k + 1))) (all (fromL l s))
        omega
      · have hT : anyB (toL l s) = true := by
          obtain ⟨hb, hs⟩ := spanE_zero.1 hE
          unfold toL
          rw [if_pos ⟨(bagB_iff l).2 hb, hs⟩]
          exact begin_any (liv_bag hb) _
        rw [cmp_any (anyB_may hm) hT] at h
        rw [cmp_any (any_cutN hm) hT]
        have h3 := hold_range (all o.pl) (all (toL l s))
        have h4 := cut_ahead hm (show k + 1 ≤ (all o.pl).length by omega)
        rw [cutN_all hc] at h4
        rcases h4 with h5 | h5
        · rw [(hold_eq _ _).1 h5]; omega
        · have := hold_trans _ _ _ h5 (show Go.Proofs.Ytmiepnnpccpicaa.Place.hold (all o.pl) (all (toL l s)) = -1 by omega)
          omega
    rw [e2] at e
    exact of_decide_eq_true e.symm
  cases hz : isB l (livesM l l) s o
  · rfl
  · have := isB_iff.1 hz k hkm hh
    rw [this] at h2
    cases h2
/-- A place without its last stamp, by its last run. -/
def downL (p : List Run) : List Run := p.take (p.length - 1) ++ (if (p.getD (p.length - 1) zrun).m = 1 then [] else [mkRun (p.getD (p.length - 1) zrun).t (p.getD (p.length - 1) zrun).r ((p.getD (p.length - 1) zrun).m - 1)])
theorem down_is : ∀ {p : List Run}, Chain p → 0 < p.length → cutN p ((all p).length - 1) = downL p
  | [], _, h => by simp at h
  | [x], hc, _ => by
    obtain ⟨n, hn, n1, n2, n3, n4⟩ := hc.head.nat
    have e : (all [x]).length = n := by
      show (up x.t x.r x.m.toNat ++ []).length = n
      rw [List.append_nil, up_len]; omega
    rw [e]
    unfold downL cutN
    simp only [List.length_singleton, Nat.sub_self, List.take_zero, List.nil_append, List.getD_cons_zero]
    by_cases h1 : x.m = 1
    · rw [if_pos h1, if_pos (by omega)]
    · rw [if_neg h1, if_neg (by omega), if_neg (by omega)]
      congr 2
      omega
  | x :: y :: p, hc, _ => by
    obtain ⟨n, hn, n1, n2, n3, n4⟩ := hc.head.nat
    have ih := down_is hc.tail (by simp)
    obtain ⟨m, hm, m1, m2, m3, m4⟩ := hc.tail.head.nat
    have e2 : 1 ≤ (all (y :: p)).length := by
      show 1 ≤ (up y.t y.r y.m.toNat ++ all p).length
      rw [List.length_append, up_len]; omega
    have e : (all (x :: y :: p)).length = n + (all (y :: p)).length := by
      show (up x.t x.r x.m.toNat ++ all (y :: p)).length = _
      rw [List.length_append, up_len]; omega
    have e3 : cutN (x :: y :: p) ((all (x :: y :: p)).length - 1) = x :: cutN (y :: p) ((all (y :: p)).length - 1) := by
      rw [e]
      conv => lhs; unfold cutN
      rw [if_neg (by omega), if_pos (by omega)]
      congr 2
      omega
    rw [e3, ih]
    unfold downL
    simp
theorem cut_down {p : List Run} (h : mayB p = true) {k : Nat} (hk : k < (all p).length) : cutN p k = downL (cutN p (k + 1)) := by
  have hc := ((mayB_iff p).1 h).2.2.1
  have hm := may_cutN (k := k + 1) h (by omega)
  have e : (all (cutN p (k + 1))).length = k + 1 := by rw [all_cutN hc, List.length_take]; omega
  rw [← down_is (chain_cutN hc) ((mayB_iff _).1 hm).1, e, cutN_cutN hc (by omega)]
  rfl
end Go.Proofs.Ytmiepnnpccpicaa.Covers

namespace Go.Proofs.Ytmiepnnpccpicaa.Covers
open Go.RowKit Go.WideShapes Stamp Go.Proofs.Ytmiepnnpccpicaa.Place Ops Codes Bags Marks Homes
attribute [local go_sem ↓] Go.wp_at_zero Go.wp_at_succ
attribute [local go_sem] yielded_undef
theorem own_less {w : World} {B n k cap sz : Nat} {e : TypeId} {ao : Option Addr} {cs : List Value} (h : w.ownsRow B e sz (.slice ao n cap) n cs) (hk : k ≤ n) (hn : 0 < n) : w.ownsRow B e sz (.slice ao k cap) k (cs.take (k * sz)) := by
  obtain ⟨hl, h⟩ := h
  rcases h with ⟨h1, h2⟩ | ⟨g, c, cur, h1, h2, h3, h4, h5, h6, h7⟩
  · omega
  · cases h1
    refine ⟨by rw [List.length_take, hl]; exact Nat.min_eq_left (Nat.mul_le_mul_right _ hk), .inr ⟨g, cap, cur, rfl, h2, h3, by omega, h5, h6, ?_⟩⟩
    rw [← h7, List.take_take, Nat.min_eq_left (Nat.mul_le_mul_right _ hk)]
theorem runs_take (l : List Run) (k : Nat) (h : k ≤ l.length) : runs (l.take k) = (runs l).take (k * 3) := by
  have e : runs l = runs (l.take k) ++ runs (l.drop k) := by rw [← runs_append, List.take_append_drop]
  rw [e, List.take_append_of_le_length (by rw [runs_len, List.length_take]; omega)]
  exact (List.take_of_length_le (by rw [runs_len, List.length_take]; omega)).symm
theorem runs_last {l : List Run} (hl : 0 < l.length) {m : Int} (hm : -9223372036854775808 ≤ m ∧ m ≤ 9223372036854775807) :
    (runs l).set ((l.length - 1) * 3 + 2) (.int .i64 m) = runs (l.take (l.length - 1) ++ [mkRun (l.getD (l.length - 1) zrun).t (l.getD (l.length - 1) zrun).r m]) := by
  obtain ⟨k, hk⟩ : ∃ k, l.length = k + 1 := ⟨l.length - 1, by omega⟩
  have e : l = l.take k ++ [l.getD k zrun] := by
    have := List.take_append_drop k l
    rw [List.drop_eq_getElem_cons (by omega), List.drop_eq_nil_iff.2 (by omega)] at this
    rw [show l.getD k zrun = l[k] by rw [List.getD_eq_getElem?_getD, List.getElem?_eq_getElem (by omega)]; rfl]
    exact this.symm
  obtain ⟨x, hx⟩ : ∃ x, l.getD k zrun = x := ⟨_, rfl⟩
  rw [hk, Nat.add_sub_cancel, hx]
  rw [hx] at e
  have hl2 : (l.take k).length = k := by rw [List.length_take]; omega
  have e2 : runs l = runs (l.take k) ++ runs [x] := by rw [← runs_append, ← e]
  rw [e2, List.set_append_right _ _ (by rw [runs_len, hl2]; omega), runs_append]
  congr 1
  rw [runs_len, hl2, show k * 3 + 2 - k * 3 = 2 by omega]
  show [Value.int .u32 (x.t : Int), .int .u8 (x.r : Int), .int .i64 m] = [Value.int .u32 ((mkRun x.t x.r m).t : Int), .int .u8 ((mkRun x.t x.r m).r : Int), .int .i64 (mkRun x.t x.r m).m]
  rw [mkRun_t x.ht, mkRun_r x.hr, mkRun_m hm]
theorem down_len {p : List Run} (hp : 0 < p.length) : (downL p).length = if (p.getD (p.length - 1) zrun).m = 1 then p.length - 1 else p.length := by
  unfold downL
  rw [List.length_append, List.length_take]
  split <;> simp <;> omega
set_option maxRecDepth 100000 in
set_option maxHeartbeats 4000000 in
theorem vcut_any {v : Value} {p : List Run} {B : Nat} {w : World} (hv : w.ownsRow B 42 3 v p.length (runs p)) (hp : 0 < p.length) (hl : p.length ≤ 1000) (hc : Chain p) :
    Calls Try.prog 60 #[v] w fun e w' => (∃ ao cap, e = .returned (.slice ao (downL p).length cap) ∧ w'.ownsRow B 42 3 (.slice ao (downL p).length cap) (downL p).length (runs (downL p))) ∧ Below B w w' := by
  obtain ⟨ao, cap, rfl⟩ : ∃ ao cap, v = .slice ao p.length cap := Sees.shape (Sees.own hv)
  obtain ⟨g, rfl⟩ : ∃ g, ao = some ⟨g, 0, none⟩ := by
    rcases hv.2 with ⟨_, h⟩ | ⟨g, c, cur, h, _⟩
    · omega
    · cases h; exact ⟨g, rfl⟩
  have hg : B ≤ g := by
    rcases hv.2 with ⟨_, h⟩ | ⟨g', c, cur, h, h2, _⟩
    · omega
    · cases h; exact h2
  obtain ⟨x, hx⟩ : ∃ x, p.getD (p.length - 1) zrun = x := ⟨_, rfl⟩
  have hone : Go.Proofs.Ytmiepnnpccpicaa.Place.One x := by rw [← hx]; exact chain_one hc (by omega)
  obtain ⟨n, hn⟩ : ∃ n, p.length = n := ⟨_, rfl⟩
  obtain ⟨k, rfl⟩ : ∃ k, n = k + 1 := ⟨n - 1, by omega⟩
  have hdl := down_len hp
  have hset := runs_last hp (m := x.m - 1) (by have := hone.2.2.2; omega)
  have hdn : downL p = p.take k ++ (if x.m = 1 then [] else [mkRun x.t x.r (x.m - 1)]) := by unfold downL; rw [hx, hn]; rfl
  rw [hx, hn] at hdl hset
  rw [Nat.add_sub_cancel] at hset hdl
  rw [hn] at hv
  have xm : w.cell? ⟨g, k * 3 + 2, none⟩ = some (.int .i64 x.m) := by
    rw [hv.cellAt (k * 3 + 2) (by omega), (runs_get p k (by omega)).2.2, show p.getD k zrun = x by rw [← hx, hn]; rfl]
  have xf : w.frozen? ⟨g, k * 3 + 2, none⟩ = false := hv.frozenAt _
  have h1 := hone.2.2.2.1
  have h2 := hone.2.2.2.2.1
  have hst := (hv.stored (k * 3 + 2) (.int .i64 (x.m - 1))).1
  rw [hset] at hst
  have BW : Hid (Below B w (w.setCell ⟨g, k * 3 + 2, none⟩ (.int .i64 (x.m - 1)))) := (Below.refl _ _).setCell (p := ⟨g, k * 3 + 2, none⟩) hg _
  have ym : (w.setCell ⟨g, k * 3 + 2, none⟩ (.int .i64 (x.m - 1))).cell? ⟨g, k * 3 + 2, none⟩ = some (.int .i64 (x.m - 1)) := by
    rw [hst.cellAt (k * 3 + 2) (by omega)]
    have e := (runs_get (p.take k ++ [mkRun x.t x.r (x.m - 1)]) k (by simp; omega)).2.2
    rw [e]
    have e3 : (p.take k ++ [mkRun x.t x.r (x.m - 1)]).getD k zrun = mkRun x.t x.r (x.m - 1) := by
      rw [List.getD_eq_getElem?_getD, List.getElem?_append_right (by rw [List.length_take]; omega), List.length_take, Nat.min_eq_left (by omega)]
      simp
    rw [e3, mkRun_m (by omega)]
  have OW : Hid ((w.setCell ⟨g, k * 3 + 2, none⟩ (.int .i64 (x.m - 1))).ownsRow B 42 3 (.slice (some ⟨g, 0, none⟩) (k + 1) cap) (k + 1) (runs (p.take k ++ [mkRun x.t x.r (x.m - 1)]))) := hst
  have hcap : k + 1 ≤ cap ∧ cap ≤ 9223372036854775807 := by
    have := (Sees.cap (Sees.own hv)).2
    exact ⟨this.1, this.2.1⟩
  have hk0 : ((k + 1 : Nat) : Int) - 1 = (k : Int) := by omega
  have e1 : ((k : Int) + 1) - 1 = (k : Int) := by omega
  have e2 : IntKind.i64.wrap (k : Int) = (k : Int) := IntWalk.i64_in _ (by omega)
  have w0 : (0 : Int) ≤ (k : Int) := by omega
  have w1 : (k : Int) < (k : Int) + 1 := by omega
  have w2 : (k : Int) ≤ (cap : Int) := by omega
  have e4 : IntKind.i64.wrap (x.m - 1) = x.m - 1 := IntWalk.i64_in _ (by omega)
  have hkp : k ≤ p.length := by omega
  obtain ⟨WX, hWX⟩ : ∃ W, w.setCell ⟨g, k * 3 + 2, none⟩ (.int .i64 (x.m - 1)) = W := ⟨_, rfl⟩
  rw [hWX] at OW BW ym
  obtain ⟨m, hm⟩ : ∃ m, x.m = m := ⟨_, rfl⟩
  rw [hm] at hdn hdl xm h1 h2 e4 OW ym hWX
  have HDN := Lib.hid hdn
  have HDL := Lib.hid hdl
  clear hdn hdl hset hst hone hv hl hc hx
  rw [hn]
  by_cases hm1 : m = 1
  · subst hm1
    have q : decide ((1 : Int) - 1 = 0) = true := by decide
    have L2 : Hid ((downL p).length = k) := by have := HDL.out; rwa [if_pos rfl] at this
    have OK : Hid (WX.ownsRow B 42 3 (.slice (some ⟨g, 0, none⟩) k cap) k (runs (downL p))) := by
      have h := own_less OW.out (Nat.le_succ k) (Nat.succ_pos k)
      rw [← runs_take _ _ (by simp; omega), List.take_append_of_le_length (by rw [List.length_take]; omega), List.take_take, Nat.min_self] at h
      unfold Hid
      rw [HDN.out, if_pos rfl, List.append_nil]
      exact h
    have hWX0 : w.setCell ⟨g, k * 3 + 2, none⟩ (.int .i64 0) = WX := hWX
    clear OW HDN HDL hm hn hWX
    go_enter Try.func60, Try.ntmps60
    go_wp2
    go_ret
    rw [L2.out]
    exact ⟨⟨_, _, rfl, OK.out⟩, BW.out⟩
  · have q : decide (m - 1 = 0) = false := decide_eq_false (by omega)
    have q0 : ¬ m - 1 = 0 := by omega
    have L2 : Hid ((downL p).length = k + 1) := by have := HDL.out; rwa [if_neg hm1] at this
    have OK : Hid (WX.ownsRow B 42 3 (.slice (some ⟨g, 0, none⟩) (k + 1) cap) (k + 1) (runs (downL p))) := by
      unfold Hid
      rw [HDN.out, if_neg hm1]
      exact OW.out
    clear OW HDN HDL hm hn
    go_enter Try.func60, Try.ntmps60
    go_wp2
    go_ret
    rw [L2.out]
    exact ⟨⟨_, _, rfl, OK.out⟩, BW.out⟩
theorem ZU (w : World) : (zeroValue 66).run Try.prog w = .ok (.agg #[]) w := by kernel_rfl
set_option maxRecDepth 100000 in
set_option maxHeartbeats 4000000 in
/-- What asking makes, called: is there an operation of a stamp? -/
theorem there_any {b n g : Nat} {S : Id → Bool} (a : Id) {w : World} (hs : SetI w b n S) (hc : w.cell? ⟨g, 0, none⟩ = some (.map (some b))) (hg : g < w.heap.size) :
    Calls Try.prog 86 #[.agg #[.int .u32 (a.t : Int), .int .u8 (a.r : Int)], .pointer (some ⟨g, 0, none⟩)] w fun e w' => e = .returned (.bool (S a)) ∧ Below w.heap.size w w' := by
  have B0 : Below w.heap.size w (w.alloc (.cells #[.int .u32 (a.t : Int), .int .u8 (a.r : Int)] 30)) := (Below.refl _ _).alloc (Nat.le_refl _) _
  obtain ⟨D, d1, d2⟩ := hs.keeps B0
  obtain ⟨v, ps, hrun, hv⟩ := d1.look_ok idLaw Try.underlying64 (ZU _) unitElem_mk (key_of a)
  obtain ⟨rfl, _⟩ := unitElem_inv hv
  rw [d2 a] at hrun
  unfold idv at hrun
  have c0 := (B0.cell (p := ⟨g, 0, none⟩) hg).trans hc
  have B1 : Hid (Below w.heap.size w ((w.alloc (.cells #[.int .u32 (a.t : Int), .int .u8 (a.r : Int)] 30)).alloc (.cells #[] 66))) := B0.alloc (by simp) _
  obtain ⟨q, hq⟩ : ∃ q, S a = q := ⟨_, rfl⟩
  rw [hq] at hrun ⊢
  clear hs hc d1 d2 hv B0 hq
  go_enter Try.func86, Try.ntmps86
  go_wp2
  go_ret
  exact ⟨rfl, B1.out⟩
theorem hasO_snoc {l : List Opn} {x : Opn} (a : Id) : hasO (l ++ [x]) a = (hasO l a || decide (idO x = a)) := by
  rw [Bool.eq_iff_iff, Bool.or_eq_true, hasO_iff, hasO_iff, decide_eq_true_iff]
  simp only [List.mem_append, List.mem_singleton]
  constructor
  · rintro ⟨o, h | rfl, e⟩
    · exact .inl ⟨o, h, e⟩
    · exact .inr e
  · rintro (⟨o, h, e⟩ | e)
    · exact ⟨o, .inl h, e⟩
    · exact ⟨x, .inr rfl, e⟩
set_option maxRecDepth 100000 in
set_option maxHeartbeats 4000000 in
theorem asking_any {v : Value} {l : List Opn} {w : World} (hv : OpL w v l) (hl : l.length ≤ 1024) :
    Calls Try.prog 57 #[v] w fun e w' => ∃ g b n, e = .returned (.func (.func 86) #[] #[.pointer (some ⟨g, 0, none⟩)]) ∧ g < w'.heap.size ∧ w'.cell? ⟨g, 0, none⟩ = some (.map (some b)) ∧ SetI w' b n (hasO l) ∧ Below w.heap.size w w' := by
  obtain ⟨ao, cap, rfl⟩ := hv.shape
  obtain ⟨n, hn⟩ : ∃ n, n = l.length := ⟨_, rfl⟩
  have HV : Hid (∀ W : World, Below w.heap.size w W → OpL W (.slice ao l.length cap) l) := fun W h => hv.keeps h
  have HN := Lib.hid hn
  rw [← hn] at hl ⊢
  have hmm := @run_makeMap Try.prog
  obtain ⟨wl, hwl⟩ : ∃ wl, (w.alloc (.map #[] 0)).alloc (.cells #[.map (some w.heap.size)] 64) = wl := ⟨_, rfl⟩
  have hsz : (w.alloc (.map #[] 0)).heap.size = w.heap.size + 1 := Array.size_push _
  have BA : Below (w.alloc (.map #[] 0)).heap.size (w.alloc (.map #[] 0)) wl := by rw [← hwl]; exact (Below.refl _ _).alloc (Nat.le_refl _) _
  have S0 : Hid (SetI wl w.heap.size 0 (hasO (l.take 0))) := by
    have h : SetI (w.alloc (.map #[] 0)) w.heap.size 0 (hasO (l.take 0)) := (SetI.made w).ext (fun a => by rw [List.take_zero]; rfl)
    exact h.keeps BA
  have X0 : Hid (wl.heap[w.heap.size + 1]? = some (.cells #[.map (some w.heap.size)] 64)) := by rw [← hwl]; exact blk_new hsz
  have B0 : Hid (Below w.heap.size w wl) := by rw [← hwl]; exact ((Below.refl _ _).alloc (Nat.le_refl _) _).alloc (by rw [hsz]; omega) _
  have HW := Lib.hid hwl
  clear hv hn hwl BA hsz
  go_enter Try.func57, Try.ntmps57
  go_wp2
  rw [HW.out]
  go_loopw [9] (fun i wr => ∃ j : Nat, j ≤ n ∧ i = .int .i64 (j : Int) ∧ Hid (SetI wr w.heap.size j (hasO (l.take j))) ∧ Hid (wr.heap[w.heap.size + 1]? = some (.cells #[.map (some w.heap.size)] 64)) ∧ Hid (Below w.heap.size w wr)) (fun i _ => n - (intOf i).toNat)
  case atStart => exact ⟨0, by omega, rfl, S0, X0, B0⟩
  case round =>
    clear S0 B0 X0 HW
    obtain ⟨j, hj, rfl, hset, hblk, hbel⟩ := hrel
    by_cases hjn : j < n
    rotate_left
    · have q3 : decide (j < n) = false := by simpa using hjn
      have hkk : l.take j = l := List.take_of_length_le (by have := HN.out; omega)
      rw [hkk] at hset
      have hsz : Hid (w.heap.size + 1 < wr.heap.size) := (Array.getElem?_eq_some_iff.1 hblk.out).1
      have hce : Hid (wr.cell? ⟨w.heap.size + 1, 0, none⟩ = some (.map (some w.heap.size))) := cell_of_row _ _ 0 _ _ _ hblk.out
      obtain rfl : j = n := by omega
      clear hkk
      go_wp2
      go_ret
      exact ⟨_, _, _, rfl, hsz.out, hce.out, hset.out, hbel.out⟩
    have q3 : decide (j < n) = true := by simpa using hjn
    have q4 : (0 : Int) ≤ (j : Int) := by omega
    have q5 : (j : Int) < (n : Int) := by omega
    have hjl : j < l.length := by rw [← HN.out]; exact hjn
    obtain ⟨bb, oo, u, e, hbb, hru, h0, h1, h2, h3, h4⟩ := opl_at (HV.out wr hbel.out) j hjl
    subst e
    obtain ⟨x, hx⟩ : ∃ x, x = l[j]'hjl := ⟨_, rfl⟩
    rw [← hx] at hru h0 h1 h2 h4
    have HSN : Hid (∀ a, hasO (l.take (j + 1)) a = (hasO (l.take j) a || decide (idO x = a))) := fun a => by rw [List.take_succ_eq_append_getElem hjl, hasO_snoc, hx]
    obtain ⟨uo, uc, rfl⟩ := hru.shape
    obtain ⟨nu, hnu⟩ : ∃ n, n = x.pl.length := ⟨_, rfl⟩
    rw [← hnu] at h3
    clear hru hx hnu
    obtain ⟨k, t, r, pl, p, hk, ht, hr, hp⟩ := x
    simp only at h0 h1 h2 h4
    have BL : Hid (Below wr.heap.size wr (wr.alloc (.cells #[.int .u8 (k : Int), .int .u32 (t : Int), .int .u8 (r : Int), .slice uo nu uc, .int .i64 p] 36))) := (Below.refl _ _).alloc (Nat.le_refl _) _
    have SL := Lib.hid (hset.out.keeps BL.out)
    have XL := Lib.hid (blk_below BL.out hblk.out)
    have BW := Lib.hid (bt hbel.out BL.out)
    have c0 := cell_of_row _ _ 0 _ _ _ XL.out
    clear hset hblk BL
    go_wp2_with (at_mapUpdate; refine wpList_put_set _ rfl _ _ _ 64 66 rfl Try.underlying64 w.heap.size j ⟨t, r, ht, hr⟩ (hasO (l.take j)) SL.out (by omega) rfl rfl rfl ?_)
    intro w3 s3 g3
    have S3 : Hid (SetI w3 w.heap.size (j + 1) (hasO (l.take (j + 1)))) := s3.ext (fun a => by
      rw [HSN.out a, Bool.or_comm]
      simp [eq_comm, idO])
    have X3 := Lib.hid (blk_grown g3 (by simp) XL.out)
    have B3 : Hid (Below w.heap.size w w3) := BW.out.grown g3 BW.out.size (fun i e => by cases e; exact Nat.le_refl _)
    clear s3 g3 SL XL BW c0
    go_wp2
    go_roundw
    case rel => exact ⟨j + 1, by omega, by go_num, S3, X3, B3⟩
    case measure => simp [intOf]; omega
set_option maxRecDepth 100000 in
set_option maxHeartbeats 4000000 in
theorem homes_any {va vb u th : Value} {F T : List Run} {o : Opn} {w : World} (ha : Runs w va F) (hb : Runs w vb T) (hu : Runs w u o.pl) (hth : ∃ f x y, th = .func f x y) :
    Calls Try.prog 59 #[.agg #[va, vb, th], opv o u] w fun e w' => e = .returned (.bool (homB F T o.pl)) ∧ Below w.heap.size w w' := by
  have C1 : Hid (∀ W : World, Below w.heap.size w W → Calls Try.prog 21 #[va, u] W fun e w' => e = .returned (.int .i64 (cmp F o.pl)) ∧ Below W.heap.size W w') := fun W h => pCompare_any (ha.keeps h) (hu.keeps h)
  have C2 : Hid (∀ W : World, Below w.heap.size w W → Calls Try.prog 21 #[u, vb] W fun e w' => e = .returned (.int .i64 (cmp o.pl T)) ∧ Below W.heap.size W w') := fun W h => pCompare_any (hu.keeps h) (hb.keeps h)
  obtain ⟨f1, f2, f3, rfl⟩ := hth
  obtain ⟨ao, ac, rfl⟩ := ha.shape
  obtain ⟨bo, bc, rfl⟩ := hb.shape
  obtain ⟨uo, uc, rfl⟩ := hu.shape
  have B0 : Hid (Below w.heap.size w ((w.alloc (.cells #[.slice ao F.length ac, .slice bo T.length bc, .func f1 f2 f3] 88)).alloc (.cells #[.int .u8 (o.k : Int), .int .u32 (o.t : Int), .int .u8 (o.r : Int), .slice uo o.pl.length uc, .int .i64 o.p] 36))) := ((Below.refl _ _).alloc (Nat.le_refl _) _).alloc (by simp) _
  have SK : Hid (∀ W : World, Below ((w.alloc (.cells #[.slice ao F.length ac, .slice bo T.length bc, .func f1 f2 f3] 88)).alloc (.cells #[.int .u8 (o.k : Int), .int .u32 (o.t : Int), .int .u8 (o.r : Int), .slice uo o.pl.length uc, .int .i64 o.p] 36)).heap.size ((w.alloc (.cells #[.slice ao F.length ac, .slice bo T.length bc, .func f1 f2 f3] 88)).alloc (.cells #[.int .u8 (o.k : Int), .int .u32 (o.t : Int), .int .u8 (o.r : Int), .slice uo o.pl.length uc, .int .i64 o.p] 36)) W →
      W.cell? ⟨w.heap.size, 1, none⟩ = some (.slice bo T.length bc) ∧ W.cell? ⟨w.heap.size + 1, 3, none⟩ = some (.slice uo o.pl.length uc)) := fun W h => by
    have g1 : W.heap[w.heap.size]? = some (.cells #[.slice ao F.length ac, .slice bo T.length bc, .func f1 f2 f3] 88) := blk_below h (blk_old (blk_new rfl))
    have g2 : W.heap[w.heap.size + 1]? = some (.cells #[.int .u8 (o.k : Int), .int .u32 (o.t : Int), .int .u8 (o.r : Int), .slice uo o.pl.length uc, .int .i64 o.p] 36) := blk_below h (blk_new (by simp))
    exact ⟨cell_of_row _ _ 1 _ _ _ g1, cell_of_row _ _ 3 _ _ _ g2⟩
  have HH : Hid (homB F T o.pl = (decide (cmp F o.pl ≤ 0) && (decide (T.length = 0) || decide (cmp o.pl T < 0)))) := rfl
  obtain ⟨z, hz⟩ : ∃ z, homB F T o.pl = z := ⟨_, rfl⟩
  rw [hz] at HH ⊢
  obtain ⟨c, hc⟩ : ∃ c, cmp F o.pl = c := ⟨_, rfl⟩
  obtain ⟨d, hd⟩ : ∃ c, cmp o.pl T = c := ⟨_, rfl⟩
  rw [hc] at C1 HH
  rw [hd] at C2 HH
  obtain ⟨nf, hnf⟩ : ∃ n, F.length = n := ⟨_, rfl⟩
  obtain ⟨nt, hnt⟩ : ∃ n, T.length = n := ⟨_, rfl⟩
  obtain ⟨nu, hnu⟩ : ∃ n, o.pl.length = n := ⟨_, rfl⟩
  rw [hnf] at C1 B0 SK ⊢
  rw [hnt] at C2 B0 SK HH ⊢
  rw [hnu] at C1 C2 B0 SK
  unfold opv
  rw [hnu]
  clear ha hb hu hz hc hd hnf hnt hnu
  obtain ⟨k, t, r, l, p, hk, ht, hr, hp⟩ := o
  simp only at B0 SK ⊢
  clear hk ht hr hp
  by_cases h1 : c ≤ 0
  rotate_left
  · have q1 : decide (c ≤ 0) = false := decide_eq_false h1
    obtain rfl : false = z := by rw [HH.out, q1]; rfl
    clear HH C2
    go_enter Try.func59, Try.ntmps59
    go_wp2_with fail
    refine (C1.out _ B0.out).mono ?_
    rintro e w1 ⟨rfl, b1⟩
    have B1 := Lib.hid (bt B0.out b1)
    clear b1 C1 B0 SK
    go_wp2
    go_ret
    exact ⟨rfl, B1.out⟩
  have q1 : decide (c ≤ 0) = true := decide_eq_true h1
  by_cases h2 : nt = 0
  · obtain rfl : true = z := by rw [HH.out, q1, decide_eq_true h2]; rfl
    subst h2
    clear HH C2
    go_enter Try.func59, Try.ntmps59
    go_wp2_with fail
    refine (C1.out _ B0.out).mono ?_
    rintro e w1 ⟨rfl, b1⟩
    obtain ⟨g1, g2⟩ := SK.out _ b1
    have B1 := Lib.hid (bt B0.out b1)
    clear b1 C1 B0 SK
    go_wp2
    go_ret
    exact ⟨rfl, B1.out⟩
  · have q2 : decide ((nt : Int) = 0) = false := decide_eq_false (by omega)
    have q3 : ((nt : Int) == 0) = false := by simp; omega
    have q4 : decide (nt = 0) = false := decide_eq_false h2
    obtain rfl : decide (d < 0) = z := by rw [HH.out, q1, q4]; simp
    clear HH h1
    go_enter Try.func59, Try.ntmps59
    go_wp2_with fail
    refine (C1.out _ B0.out).mono ?_
    rintro e w1 ⟨rfl, b1⟩
    obtain ⟨g1, g2⟩ := SK.out _ b1
    have B1 := Lib.hid (bt B0.out b1)
    clear b1 C1 B0 SK
    go_wp2_with fail
    refine (C2.out _ B1.out).mono ?_
    rintro e w2 ⟨rfl, b2⟩
    have B2 := Lib.hid (bt B1.out b2)
    clear b2 C2 B1
    go_wp2
    go_ret
    exact ⟨rfl, B2.out⟩
end Go.Proofs.Ytmiepnnpccpicaa.Covers
