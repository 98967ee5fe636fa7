/- slices.SortFunc over operations by their places: what it leaves. Conditions: a list of the call's own; places that may be, or the beginning. -/
import Derived.Shelf.SlSortCmp.NoneTotal
import Derived.Deep.DrawnRows
import Derived.Deep.RegionHeld3
import Derived.Test.YtdackenaknieaaaGreatPt17
import Derived.Test.YtdackenaknieaaaGreatPt12
import Derived.Test.YtdackenaknieaaaGreatPt13
import Derived.Test.YtdackenaknieaaaGreatPt06
import Derived.Test.YtdackenaknieaaaGreatPt08
import Derived.Test.YtdackenaknieaaaGreatPt02
import Derived.Test.YtdackenaknieaaaGreatPt07

namespace Go.Proofs.YtdackenaknieaaaGreat.Marks
open Go.RowKit Go.WideShapes Go.Sort Stamp Go.Proofs.YtdackenaknieaaaGreat.Place Ops Codes

theorem sortL_any {v : Value} {l : List Opn} {base : Nat} {w : World} (hv : OwnL w base v l) (hm : ∀ o ∈ l, anyB o.pl = true) (hl : l.length < 4611686018427387904) :
    Calls Tryz.prog 90 #[v, .func (.func 91) #[] #[]] w fun e w' => e = .returned (.tuple #[]) ∧ ∃ l', l'.Perm l ∧ l'.Pairwise (fun a b => ¬ cmp b.pl a.pl < 0) ∧ OwnL w' base v l' ∧ Below base w w' := by
  obtain ⟨cs, h1, h2⟩ := hv
  by_cases hz : l = []
  · subst hz
    obtain ⟨ao, cap, rfl⟩ : ∃ ao cap, v = .slice ao 0 cap := Sees.shape (Sees.own h1)
    refine (AnyF.slices_SortFunc_none sortOp ao cap (.func (.func 91) #[] #[]) w).mono ?_
    rintro e w' ⟨rfl, rfl⟩
    exact ⟨rfl, [], .refl _, .nil, ⟨cs, h1, h2⟩, Below.refl _ _⟩
  rcases h1.2 with ⟨rfl, h⟩ | ⟨g, cap, cur, rfl, hbg, hg, hlc, hcm, hcs, hct⟩
  · exact absurd (List.length_eq_zero_iff.1 h) hz
  obtain ⟨ds, e1, e2⟩ := elts_of h2 hm
  have hn : l.length = ds.length := by rw [e2, List.length_map]
  have hgs := (Array.getElem?_eq_some_iff.1 hg).1
  have eg : ∀ args w, (callFunc 91 args).run Tryz.prog w = .ok (.enter 91 args) w := enters_of Tryz.func91 (by kernel_rfl) rfl
  have hcmp : CmpLays Tryz.prog 91 #[] (encE (w := w) (base := base)) 5 cfE g 0 ds.toArray.size w := fun m os dk _ x y =>
    Draws.calls_grow (cls_any (Runs.own (elt_stays hg m dk os x)) (Runs.own (elt_stays hg m dk os y)))
  have hH : HoldsK encE 5 w g 0 ds.toArray := elt_holds ⟨cur, hg, hcs, by rw [hct, e1]⟩ hn hlc
  have hcon := AnyQ.slices_SortFunc sortOp 5 Tryz.isAgg31 Tryz.sizeOf31 encE encE_len (fun x => by
      obtain ⟨ao, c, h⟩ := Sees.shape (Sees.own x.2.2)
      exact five_one x.1.1 x.1.2 ⟨ao, _, c, h⟩) cfE (swoE w base) 91 #[] g 0 cap ds.toArray w eg hcmp hH hgs (by simpa [← hn] using hl)
  change Calls Tryz.prog 90 _ _ _ at hcon
  rw [show ds.toArray.size = l.length by rw [hn]; simp] at hcon
  refine hcon.mono ?_
  rintro e w' ⟨rfl, d', n, os, hp, hs, rfl⟩
  obtain ⟨hp1, _, hp3⟩ := hp
  have hdn : d'.size = l.length := by rw [hp1, hn]; simp
  refine ⟨rfl, d'.toList.map opE', ?_, ?_, ⟨d'.toList.flatMap encE, ⟨?_, .inr ⟨g, cap, putCells id 0 (flatK encE 5 d') cur, ?_, hbg, srt_row encE 5 n d' os hg, ?_, hcm, ?_, ?_⟩⟩, holdP_of (elt_stays hg n d' os) _⟩, srt_below encE 5 w g 0 n base d' os hbg hgs⟩
  · rw [e2]
    refine List.Perm.map _ ?_
    have : (d'.extract 0 l.length).toList.Perm (ds.toArray.extract 0 l.length).toList := hp3
    rw [Array.extract_eq_self_of_le (by omega), Array.extract_eq_self_of_le (by simp [hn])] at this
    simpa using this
  · rw [List.pairwise_map, List.pairwise_iff_getElem]
    intro i j hi hj hij
    have := hs i j (Nat.zero_le _) hij (by rw [← hdn]; simpa using hj)
    rw [getElem!_pos d' j (by simpa using hj), getElem!_pos d' i (by simpa using hi)] at this
    unfold ltOf cfE at this
    have h := of_decide_eq_false this
    simpa [opE'] using h
  · rw [← flatK_list encE 5 (by decide) encE_len]
    simp
  · simp [hdn]
  · simpa [hdn] using hlc
  · rw [putCells_size]; exact hcs
  · have h3 : (flatK encE 5 d').size = l.length * 5 := by rw [size_flatK, hdn]
    rw [List.length_map, Array.length_toList, hdn, ← h3, putCells_take _ _ (by rw [h3, hcs]; exact Nat.mul_le_mul_right 5 hlc), flatK_list encE 5 (by decide) encE_len]
end Go.Proofs.YtdackenaknieaaaGreat.Marks

/- octavo/marks.joinedIn, takeOut: what each answers. Conditions: operations that may be, not more than a bag's. -/
namespace Go.Proofs.YtdackenaknieaaaGreat.Marks
open Go.RowKit Go.WideShapes Stamp Go.Proofs.YtdackenaknieaaaGreat.Place Ops Codes Bags
attribute [local go_sem ↓] Go.wp_at_zero Go.wp_at_succ

theorem ended_snoc (l : List Opn) (x : Opn) (a : Id) : ended (l ++ [x]) a = (ended l a || (decide (x.k = 4) && decide (tgt x = a))) := by
  unfold ended
  rw [List.any_append]
  simp

set_option maxRecDepth 100000 in
set_option maxHeartbeats 4000000 in
theorem joinedIn_any {v : Value} {l : List Opn} {w : World} (hv : OpL w v l) (hm : ∀ o ∈ l, mayO o = true) (hl : l.length ≤ 1024) :
    Calls Tryz.prog 88 #[v] w fun e w' => e = .returned (.map (some w.heap.size)) ∧ SetI w' w.heap.size l.length (ended l) ∧ Below w.heap.size w w' := by
  obtain ⟨ao, cap, rfl⟩ := hv.shape
  obtain ⟨n, hn⟩ : ∃ n, n = l.length := ⟨_, rfl⟩
  have HV : Hid (∀ W : World, Below w.heap.size w W → OpL W (.slice ao l.length cap) l) := fun W h => hv.keeps h
  have HN := Lib.hid hn
  have HMY := Lib.hid hm
  rw [← hn] at hl ⊢
  have hmm := @run_makeMap Tryz.prog
  have S0 : Hid (SetI (w.alloc (.map #[] 0)) w.heap.size 0 (ended (l.take 0))) := (SetI.made w).ext (fun a => by rw [List.take_zero]; rfl)
  have B0 := Lib.hid ((Below.refl w.heap.size w).alloc (Nat.le_refl _) (.map #[] 0))
  clear hv hn hm
  go_enter Tryz.func88, Tryz.ntmps88
  go_wp2
  go_loopw [9] (fun i wr => ∃ j : Nat, j ≤ n ∧ i = .int .i64 (j : Int) ∧ Hid (SetI wr w.heap.size j (ended (l.take j))) ∧ Hid (Below w.heap.size w wr)) (fun i _ => n - (intOf i).toNat)
  case atStart => exact ⟨0, by omega, rfl, S0, B0⟩
  case round =>
    clear S0 B0
    obtain ⟨j, hj, rfl, hset, hbel⟩ := hrel
    by_cases hjn : j < n
    rotate_left
    · have q3 : decide (j < n) = false := by simpa using hjn
      have hkk : l.take j = l := List.take_of_length_le (by have := HN.out; omega)
      rw [hkk] at hset
      obtain rfl : j = n := by omega
      clear hkk
      go_wp2
      go_ret
      exact ⟨rfl, hset.out, hbel.out⟩
    have q3 : decide (j < n) = true := by simpa using hjn
    have q4 : (0 : Int) ≤ (j : Int) := by omega
    have q5 : (j : Int) < (n : Int) := by omega
    have hjl : j < l.length := by rw [← HN.out]; exact hjn
    obtain ⟨bb, oo, u, e, hbb, hru, h0, h1, h2, h3, h4⟩ := opl_at (HV.out wr hbel.out) j hjl
    subst e
    obtain ⟨x, hx⟩ : ∃ x, x = l[j]'hjl := ⟨_, rfl⟩
    rw [← hx] at hru h0 h1 h2 h4
    have hxm : x ∈ l := by rw [hx]; exact List.getElem_mem _
    have MX := HMY.out x hxm
    have hsn : ∀ a, ended (l.take (j + 1)) a = (ended (l.take j) a || (decide (x.k = 4) && decide (tgt x = a))) := fun a => by rw [List.take_succ_eq_append_getElem hjl, ended_snoc, hx]
    have HSN := Lib.hid hsn
    have hc := tgt_cells MX
    have LS : Hid (∀ W : World, Below wr.heap.size wr W → Calls Tryz.prog 66 #[u] W fun e w' => e = .returned (.agg #[.int .u32 ((tgt x).t : Int), .int .u8 ((tgt x).r : Int)]) ∧ Below W.heap.size W w') := fun W h => by
      rw [hc.1, hc.2]
      exact pLast_any (hru.keeps h)
    obtain ⟨g, hg⟩ : ∃ g, tgt x = g := ⟨_, rfl⟩
    rw [hg] at LS HSN
    obtain ⟨T, R, hT, hR⟩ := g
    simp only at LS
    obtain ⟨uo, uc, rfl⟩ := hru.shape
    obtain ⟨nu, hnu⟩ : ∃ n, n = x.pl.length := ⟨_, rfl⟩
    rw [← hnu] at h3 LS
    obtain ⟨k, hk⟩ : ∃ z, x.k = z := ⟨_, rfl⟩
    obtain ⟨t, ht⟩ : ∃ z, x.t = z := ⟨_, rfl⟩
    obtain ⟨r, hr⟩ : ∃ z, x.r = z := ⟨_, rfl⟩
    obtain ⟨p, hp⟩ : ∃ z, x.p = z := ⟨_, rfl⟩
    rw [hk] at h0 HSN
    rw [ht] at h1
    rw [hr] at h2
    rw [hp] at h4
    have BL : Hid (Below wr.heap.size wr (wr.alloc (.cells #[.int .u8 (k : Int), .int .u32 (t : Int), .int .u8 (r : Int), .slice uo nu uc, .int .i64 p] 31))) := (Below.refl _ _).alloc (Nat.le_refl _) _
    have SL := Lib.hid (hset.out.keeps BL.out)
    have BW := Lib.hid (bt hbel.out BL.out)
    clear hru hx hxm MX hc hg hnu hk ht hr hp hsn hset
    by_cases hk4 : k = 4
    rotate_left
    · have qk : ((k : Int) == 4) = false := by simp; omega
      have qk2 : decide ((k : Int) = 4) = false := decide_eq_false (by omega)
      have S6 : Hid (SetI (wr.alloc (.cells #[.int .u8 (k : Int), .int .u32 (t : Int), .int .u8 (r : Int), .slice uo nu uc, .int .i64 p] 31)) w.heap.size (j + 1) (ended (l.take (j + 1)))) := by
        obtain ⟨D, d1, d2⟩ := SL.out
        exact ⟨D, d1.mono (Nat.le_succ _), fun a => by rw [d2 a, HSN.out a, decide_eq_false hk4]; simp⟩
      clear SL LS hk4 HSN
      go_wp2
      go_roundw
      case rel => exact ⟨j + 1, by omega, by go_num, S6, BW⟩
      case measure => simp [intOf]; omega
    · subst hk4
      have qk : ((((4 : Nat) : Int)) == 4) = true := by rfl
      go_wp2_with fail
      refine (LS.out _ BL.out).mono ?_
      rintro e w2 ⟨rfl, b2⟩
      have S2 := Lib.hid (SL.out.keeps b2)
      have B2 := Lib.hid (bt BW.out b2)
      clear b2 SL BW
      go_wp2_with (at_mapUpdate; refine wpList_put_set _ rfl _ _ _ 115 137 rfl Tryz.underlying115 w.heap.size j ⟨T, R, hT, hR⟩ (ended (l.take j)) S2.out (by omega) rfl rfl rfl ?_)
      intro w3 s3 g3
      have S3 : Hid (SetI w3 w.heap.size (j + 1) (ended (l.take (j + 1)))) := s3.ext (fun a => by
        rw [HSN.out a, Bool.or_comm]
        simp [eq_comm])
      have B3 : Hid (Below w.heap.size w w3) := B2.out.grown g3 B2.out.size (fun i e => by cases e; exact Nat.le_refl _)
      clear s3 g3 S2 B2 LS BL
      go_wp2
      go_roundw
      case rel => exact ⟨j + 1, by omega, by go_num, S3, B3⟩
      case measure => simp [intOf]; omega

set_option maxRecDepth 100000 in
set_option maxHeartbeats 4000000 in
theorem takeOut_any {b n : Nat} {S : Id → Bool} (i : Id) {w : World} (hs : SetI w b n S) :
    Calls Tryz.prog 89 #[.map (some b), .agg #[.int .u32 (i.t : Int), .int .u8 (i.r : Int)]] w fun e w' => e = .returned (.bool (S i)) ∧ SetI w' b n (fun a => S a && !decide (a = i)) ∧ w.grownBy w' (some b) := by
  obtain ⟨D, d1, d2⟩ := hs
  have D1 : Hid ((w.alloc (.cells #[.int .u32 (i.t : Int), .int .u8 (i.r : Int)] 28)).ownsMap Tryz.prog 28 unitElem b n D) := d1.alloc _
  have G1 : Hid (w.grownBy (w.alloc (.cells #[.int .u32 (i.t : Int), .int .u8 (i.r : Int)] 28)) none) := World.grownBy_alloc _ _ _
  have h := del_size d1 i
  rw [d2 i] at h
  obtain ⟨m1, hm1⟩ : ∃ z, Maps.size D = z := ⟨_, rfl⟩
  obtain ⟨m2, hm2⟩ : ∃ z, Maps.size (D.del (key i)) = z := ⟨_, rfl⟩
  rw [hm1, hm2] at h
  have HM1 := Lib.hid hm1
  have HM2 := Lib.hid hm2
  obtain ⟨q, hq⟩ : ∃ q, S i = q := ⟨_, rfl⟩
  rw [hq] at h ⊢
  have h' : decide ((m2 : Int) < (m1 : Int)) = q := by rw [← h]; exact decide_eq_decide.2 (by omega)
  have HD : Hid (∀ a : Id, Maps.has (D.del (key i)) (key a) = (S a && !decide (a = i))) := del_has d2 i
  clear d1 d2 hm1 hm2 hq
  obtain ⟨w3, hrun, d3, t3⟩ := D1.out.drop idLaw Tryz.underlying115 (key_of i) 0
  unfold idv at hrun
  have D3 := Lib.hid d3
  have G3 := Lib.hid t3.grown
  clear d3 t3
  have hl1 := D1.out.len Tryz.underlying115 3
  rw [HM1.out] at hl1
  have hl3 := D3.out.len Tryz.underlying115 3
  rw [HM2.out] at hl3
  go_enter Tryz.func89, Tryz.ntmps89
  go_wp2
  go_ret
  exact ⟨rfl, ⟨_, D3.out, HD.out⟩, ⟨G3.out.os.trans G1.out.os, G3.out.tape.trans G1.out.tape, G3.out.output.trans G1.out.output, Nat.le_trans G1.out.size G3.out.size, fun k hk hne => (G3.out.block k (Nat.lt_of_lt_of_le hk G1.out.size) hne).trans (G1.out.block k hk (by simp))⟩⟩
end Go.Proofs.YtdackenaknieaaaGreat.Marks

/- octavo/bag.Check: what it answers. Conditions: the slice's cells are operations. -/
namespace Go.Proofs.YtdackenaknieaaaGreat.Bags
open Go.RowKit Go.WideShapes Stamp Go.Proofs.YtdackenaknieaaaGreat.Place Ops Codes
attribute [local go_sem ↓] Go.wp_at_zero Go.wp_at_succ
attribute [local go_sem] yielded_undef

theorem chkL_no {l : List Opn} (h : ¬ Bag l) : chkL l = 8 := by unfold chkL; rw [bagB_no h]; rfl
theorem chkL_yes {l : List Opn} (h : Bag l) : chkL l = 0 := by unfold chkL; rw [(bagB_iff l).2 h]; rfl

set_option maxRecDepth 100000 in
set_option maxHeartbeats 16000000 in
theorem bCheck_any {v : Value} {l : List Opn} {w : World} (hv : OpL w v l) :
    Calls Tryz.prog 55 #[v] w fun e w' => e = .returned (.int .i64 (chkL l)) ∧ Below w.heap.size w w' := by
  obtain ⟨ao, cap, rfl⟩ := hv.shape
  obtain ⟨n, hn⟩ : ∃ n, n = l.length := ⟨_, rfl⟩
  have hmx : n ≤ 9223372036854775807 := by rw [hn]; exact hv.max
  have HV : Hid (∀ W : World, Below w.heap.size w W → OpL W (.slice ao l.length cap) l) := fun W h => hv.keeps h
  have HN := Lib.hid hn
  obtain ⟨q, hq⟩ : ∃ q, chkL l = q := ⟨_, rfl⟩
  have QN : Hid (¬ Bag l → q = 8) := fun h => by rw [← hq]; exact chkL_no h
  have QY : Hid (Bag l → q = 0) := fun h => by rw [← hq]; exact chkL_yes h
  rw [hq, ← hn]
  clear hv hn hq
  have B0 : Hid (Below w.heap.size w w) := Below.refl _ _
  go_enter Tryz.func55, Tryz.ntmps55
  by_cases hbig : 1024 < n
  · have q1 : decide (1024 < n) = true := decide_eq_true hbig
    have q2 : decide (1024 < (n : Int)) = true := decide_eq_true (by omega)
    obtain rfl : q = 8 := QN.out (fun h => by have := h.1; have := HN.out; omega)
    go_wp2
    go_ret
    exact ⟨rfl, B0.out⟩
  have q1 : decide (1024 < n) = false := decide_eq_false hbig
  have q2 : decide (1024 < (n : Int)) = false := decide_eq_false (by omega)
  go_wp2
  go_loopw [10] (fun i wr => ∃ j : Nat, j ≤ n ∧ i = .int .i64 (j : Int) ∧ Hid (∀ k (h : k < l.length), k < j → mayO (l[k]'h) = true) ∧ Hid (∀ k (h : k + 1 < l.length), k + 1 < j → lessO (l[k]'(by omega)) (l[k + 1]'h)) ∧ Hid (Below w.heap.size w wr)) (fun i _ => n - (intOf i).toNat)
  case atStart => exact ⟨0, by omega, rfl, fun k h hk => by omega, fun k h hk => by omega, B0⟩
  case round =>
    clear B0
    obtain ⟨j, hj, rfl, hmay, hless, hbel⟩ := hrel
    by_cases hjn : j < n
    rotate_left
    · have q3 : decide (j < n) = false := by simpa using hjn
      obtain rfl : q = 0 := QY.out (by
        refine ⟨by have := HN.out; omega, fun o ho => ?_, pw_adj (fun k h => hless.out k h (by have := HN.out; omega))⟩
        obtain ⟨i, hi, rfl⟩ := List.getElem_of_mem ho
        exact hmay.out i hi (by have := HN.out; omega))
      go_wp2
      go_ret
      exact ⟨rfl, hbel.out⟩
    have q3 : decide (j < n) = true := by simpa using hjn
    have q4 : (0 : Int) ≤ (j : Int) := by omega
    have q5 : (j : Int) < (n : Int) := by omega
    have hjl : j < l.length := by rw [← HN.out]; exact hjn
    obtain ⟨bb, oo, u, e, hbb, hru, h0, h1, h2, h3, h4⟩ := opl_at (HV.out wr hbel.out) j hjl
    subst e
    obtain ⟨x, hx⟩ : ∃ x, x = l[j]'hjl := ⟨_, rfl⟩
    rw [← hx] at hru h0 h1 h2 h4
    have HO : Hid (∀ v : Value, opv x v = .agg #[.int .u8 (x.k : Int), .int .u32 (x.t : Int), .int .u8 (x.r : Int), v, .int .i64 x.p]) := fun v => rfl
    obtain ⟨uo, uc, rfl⟩ := hru.shape
    obtain ⟨nu, hnu⟩ : ∃ n, n = x.pl.length := ⟨_, rfl⟩
    have HNU := Lib.hid hnu
    rw [← hnu] at hru h3
    clear hnu
    have MA : Hid (∀ W : World, Below wr.heap.size wr W → Calls Tryz.prog 47 #[opv x (.slice uo nu uc)] W fun e w' => e = .returned (.int .i64 (chkO x)) ∧ Below W.heap.size W w') := fun W h => oCheck_any (hru.keeps h)
    have HJ := Lib.hid hjl
    have HX : Hid (x = l[j]'hjl) := hx
    have LX : Hid (∀ (i : Nat) (hi : i + 1 = j) (W : World) (y : Opn), y = l[i]'(by omega) → Calls Tryz.prog 96 #[.agg #[.int .u32 (y.t : Int), .int .u8 (y.r : Int)], .agg #[.int .u32 (x.t : Int), .int .u8 (x.r : Int)]] W fun e w' => e = .returned (.bool (decide (lessO y x))) ∧ Below W.heap.size W w') := fun i hi W y hy => by
      have := less_any y.t y.r x.t x.r y.ht y.hr x.ht x.hr W
      rwa [show less y.t y.r x.t x.r = decide (lessO y x) from rfl] at this
    obtain ⟨my, hmy⟩ : ∃ b, mayO x = b := ⟨_, rfl⟩
    unfold chkO at MA
    rw [hmy] at MA
    have HMY := Lib.hid hmy
    clear hmy hx
    obtain ⟨k, hk⟩ : ∃ z, x.k = z := ⟨_, rfl⟩
    obtain ⟨t, ht⟩ : ∃ z, x.t = z := ⟨_, rfl⟩
    obtain ⟨r, hr⟩ : ∃ z, x.r = z := ⟨_, rfl⟩
    obtain ⟨p, hp⟩ : ∃ z, x.p = z := ⟨_, rfl⟩
    rw [hk, ht, hr, hp] at HO
    rw [hk] at h0
    rw [ht] at h1
    rw [hr] at h2
    rw [hp] at h4
    simp only [HO.out] at MA
    rw [ht, hr] at LX
    have BL : Hid (Below wr.heap.size wr (wr.alloc (.cells #[.int .u8 (k : Int), .int .u32 (t : Int), .int .u8 (r : Int), .slice uo nu uc, .int .i64 p] 31))) := (Below.refl _ _).alloc (Nat.le_refl _) _
    have SK : Hid (∀ w' : World, Below (wr.alloc (.cells #[.int .u8 (k : Int), .int .u32 (t : Int), .int .u8 (r : Int), .slice uo nu uc, .int .i64 p] 31)).heap.size (wr.alloc (.cells #[.int .u8 (k : Int), .int .u32 (t : Int), .int .u8 (r : Int), .slice uo nu uc, .int .i64 p] 31)) w' → Below (wr.alloc (.cells #[.int .u8 (k : Int), .int .u32 (t : Int), .int .u8 (r : Int), .slice uo nu uc, .int .i64 p] 31)).heap.size (wr.alloc (.cells #[.int .u8 (k : Int), .int .u32 (t : Int), .int .u8 (r : Int), .slice uo nu uc, .int .i64 p] 31)) w' ∧ w'.cell? ⟨wr.heap.size, 0, none⟩ = some (.int .u8 (k : Int)) ∧ w'.cell? ⟨wr.heap.size, 1, none⟩ = some (.int .u32 (t : Int)) ∧ w'.cell? ⟨wr.heap.size, 2, none⟩ = some (.int .u8 (r : Int)) ∧ w'.cell? ⟨wr.heap.size, 3, none⟩ = some (.slice uo nu uc) ∧ w'.cell? ⟨wr.heap.size, 4, none⟩ = some (.int .i64 p)) := fun W h => ⟨h, five_cells h⟩
    have SZ : wr.heap.size = wr.heap.size := rfl
    clear hk ht hr hp HO SZ
    cases my
    · obtain rfl : q = 8 := QN.out (fun h => by have := h.2.1 x (by rw [HX.out]; exact List.getElem_mem _); rw [HMY.out] at this; cases this)
      rw [if_neg (by simp)] at MA
      go_wp2
      refine wp_region_held_drew (S := fun w' => Below (wr.alloc (.cells #[.int .u8 (k : Int), .int .u32 (t : Int), .int .u8 (r : Int), .slice uo nu uc, .int .i64 p] 31)).heap.size (wr.alloc (.cells #[.int .u8 (k : Int), .int .u32 (t : Int), .int .u8 (r : Int), .slice uo nu uc, .int .i64 p] 31)) w' ∧ w'.cell? ⟨wr.heap.size, 0, none⟩ = some (.int .u8 (k : Int)) ∧ w'.cell? ⟨wr.heap.size, 1, none⟩ = some (.int .u32 (t : Int)) ∧ w'.cell? ⟨wr.heap.size, 2, none⟩ = some (.int .u8 (r : Int)) ∧ w'.cell? ⟨wr.heap.size, 3, none⟩ = some (.slice uo nu uc) ∧ w'.cell? ⟨wr.heap.size, 4, none⟩ = some (.int .i64 p)) (by kernel_rfl) (SK.out _ (drew1 _)) (fun hHeld => ?_)
      refine wpAnyH_take (i := 0) (v := ?va0) rfl (by kernel_rfl) (by kernel_rfl) (by kernel_rfl) (fun _ _ _ h => h) (Or.inl ⟨by rfl, ?ya0⟩) (by assumption) ?_
      case ya0 => intro w hSw; (try dsimp only at hSw); go_simp <;> with_reducible rfl
      try simp only [List.getElem_toArray, List.getElem_cons_zero, Act.put, List.setIfInBounds_toArray, List.set_cons_zero, List.set_cons_succ]
      refine wpAnyH_ready (rs := [1]) (by kernel_rfl) (by simp) ?_
      refine AllReadyH.cons rfl (fun K hK => ?_) ?za1
      case za1 => exact AllReadyH.nil
      go_simp
      refine (MA.out _ (bt BL.out hHeld.1)).mono ?_
      rintro e w9a1 ⟨rfl, b9⟩
      refine hK.out _ _ (SK.out _ (bt hHeld.1 b9)) (fun hNew => ?_)
      clear hHeld
      have hHeld := hNew
      clear hNew hK K
      try simp only [List.getElem_toArray, List.getElem_cons_succ, List.getElem_cons_zero, Act.put, List.setIfInBounds_toArray, List.set_cons_zero, List.set_cons_succ]
      refine wpAnyH_take (i := 2) (v := ?va2) rfl (by kernel_rfl) (by kernel_rfl) (by kernel_rfl) (fun _ _ _ h => h) (Or.inl ⟨by rfl, ?ya2⟩) (by assumption) ?_
      case ya2 => intro w hSw; (try dsimp only at hSw); go_simp <;> with_reducible rfl
      try simp only [List.getElem_toArray, List.getElem_cons_succ, List.getElem_cons_zero, Act.put, List.setIfInBounds_toArray, List.set_cons_zero, List.set_cons_succ]
      refine wpAnyH_take (i := 3) (v := ?va3) rfl (by kernel_rfl) (by kernel_rfl) (by kernel_rfl) (fun _ _ _ h => h) (Or.inl ⟨by rfl, ?ya3⟩) (by assumption) ?_
      case ya3 => intro w hSw; (try dsimp only at hSw); go_simp <;> with_reducible rfl
      try simp only [List.getElem_toArray, List.getElem_cons_succ, List.getElem_cons_zero, Act.put, List.setIfInBounds_toArray, List.set_cons_zero, List.set_cons_succ]
      refine wpAnyH_take (i := 4) (v := undef) rfl (by kernel_rfl) (by kernel_rfl) (by kernel_rfl) (fun _ _ _ h => h) (Or.inr ⟨by rfl, rfl⟩) (by assumption) ?_
      try simp only [List.getElem_toArray, List.getElem_cons_succ, List.getElem_cons_zero, Act.put, List.setIfInBounds_toArray, List.set_cons_zero, List.set_cons_succ]
      refine wpAnyH_take (i := 5) (v := undef) rfl (by kernel_rfl) (by kernel_rfl) (by kernel_rfl) (fun _ _ _ h => h) (Or.inr ⟨by rfl, rfl⟩) (by assumption) ?_
      try simp only [List.getElem_toArray, List.getElem_cons_succ, List.getElem_cons_zero, Act.put, List.setIfInBounds_toArray, List.set_cons_zero, List.set_cons_succ]
      refine wpAnyH_take (i := 6) (v := undef) rfl (by kernel_rfl) (by kernel_rfl) (by kernel_rfl) (fun _ _ _ h => h) (Or.inr ⟨by rfl, rfl⟩) (by assumption) ?_
      try simp only [List.getElem_toArray, List.getElem_cons_succ, List.getElem_cons_zero, Act.put, List.setIfInBounds_toArray, List.set_cons_zero, List.set_cons_succ]
      refine wpAnyH_take (i := 7) (v := undef) rfl (by kernel_rfl) (by kernel_rfl) (by kernel_rfl) (fun _ _ _ h => h) (Or.inr ⟨by rfl, rfl⟩) (by assumption) ?_
      try simp only [List.getElem_toArray, List.getElem_cons_succ, List.getElem_cons_zero, Act.put, List.setIfInBounds_toArray, List.set_cons_zero, List.set_cons_succ]
      refine wpAnyH_take (i := 8) (v := undef) rfl (by kernel_rfl) (by kernel_rfl) (by kernel_rfl) (fun _ _ _ h => h) (Or.inr ⟨by rfl, rfl⟩) (by assumption) ?_
      try simp only [List.getElem_toArray, List.getElem_cons_succ, List.getElem_cons_zero, Act.put, List.setIfInBounds_toArray, List.set_cons_zero, List.set_cons_succ]
      refine wpAnyH_take (i := 9) (v := undef) rfl (by kernel_rfl) (by kernel_rfl) (by kernel_rfl) (fun _ _ _ h => h) (Or.inr ⟨by rfl, rfl⟩) (by assumption) ?_
      try simp only [List.getElem_toArray, List.getElem_cons_succ, List.getElem_cons_zero, Act.put, List.setIfInBounds_toArray, List.set_cons_zero, List.set_cons_succ]
      refine wpAnyH_take (i := 10) (v := undef) rfl (by kernel_rfl) (by kernel_rfl) (by kernel_rfl) (fun _ _ _ h => h) (Or.inr ⟨by rfl, rfl⟩) (by assumption) ?_
      try simp only [List.getElem_toArray, List.getElem_cons_succ, List.getElem_cons_zero, Act.put, List.setIfInBounds_toArray, List.set_cons_zero, List.set_cons_succ]
      refine wpAnyH_take (i := 11) (v := undef) rfl (by kernel_rfl) (by kernel_rfl) (by kernel_rfl) (fun _ _ _ h => h) (Or.inr ⟨by rfl, rfl⟩) (by assumption) ?_
      try simp only [List.getElem_toArray, List.getElem_cons_succ, List.getElem_cons_zero, Act.put, List.setIfInBounds_toArray, List.set_cons_zero, List.set_cons_succ]
      refine wpAnyH_take (i := 12) (v := undef) rfl (by kernel_rfl) (by kernel_rfl) (by kernel_rfl) (fun _ _ _ h => h) (Or.inr ⟨by rfl, rfl⟩) (by assumption) ?_
      try simp only [List.getElem_toArray, List.getElem_cons_succ, List.getElem_cons_zero, Act.put, List.setIfInBounds_toArray, List.set_cons_zero, List.set_cons_succ]
      refine wpAnyH_take (i := 13) (v := undef) rfl (by kernel_rfl) (by kernel_rfl) (by kernel_rfl) (fun _ _ _ h => h) (Or.inr ⟨by rfl, rfl⟩) (by assumption) ?_
      try simp only [List.getElem_toArray, List.getElem_cons_succ, List.getElem_cons_zero, Act.put, List.setIfInBounds_toArray, List.set_cons_zero, List.set_cons_succ]
      refine wpAnyH_take (i := 14) (v := undef) rfl (by kernel_rfl) (by kernel_rfl) (by kernel_rfl) (fun _ _ _ h => h) (Or.inr ⟨by rfl, rfl⟩) (by assumption) ?_
      try simp only [List.getElem_toArray, List.getElem_cons_succ, List.getElem_cons_zero, Act.put, List.setIfInBounds_toArray, List.set_cons_zero, List.set_cons_succ]
      refine wpAnyH_take (i := 15) (v := undef) rfl (by kernel_rfl) (by kernel_rfl) (by kernel_rfl) (fun _ _ _ h => h) (Or.inr ⟨by rfl, rfl⟩) (by assumption) ?_
      try simp only [List.getElem_toArray, List.getElem_cons_succ, List.getElem_cons_zero, Act.put, List.setIfInBounds_toArray, List.set_cons_zero, List.set_cons_succ]
      refine wpAnyH_take (i := 16) (v := undef) rfl (by kernel_rfl) (by kernel_rfl) (by kernel_rfl) (fun _ _ _ h => h) (Or.inr ⟨by rfl, rfl⟩) (by assumption) ?_
      try simp only [List.getElem_toArray, List.getElem_cons_succ, List.getElem_cons_zero, Act.put, List.setIfInBounds_toArray, List.set_cons_zero, List.set_cons_succ]
      refine wpAnyH_take (i := 17) (v := undef) rfl (by kernel_rfl) (by kernel_rfl) (by kernel_rfl) (fun _ _ _ h => h) (Or.inr ⟨by rfl, rfl⟩) (by assumption) ?_
      try simp only [List.getElem_toArray, List.getElem_cons_succ, List.getElem_cons_zero, Act.put, List.setIfInBounds_toArray, List.set_cons_zero, List.set_cons_succ]
      refine wpAnyH_take (i := 18) (v := ?va18) rfl (by kernel_rfl) (by kernel_rfl) (by kernel_rfl) (fun _ _ _ h => h) (Or.inl ⟨by rfl, ?ya18⟩) (by assumption) ?_
      case ya18 => intro w hSw; (try dsimp only at hSw); go_simp <;> with_reducible rfl
      try simp only [List.getElem_toArray, List.getElem_cons_succ, List.getElem_cons_zero, Act.put, List.setIfInBounds_toArray, List.set_cons_zero, List.set_cons_succ]
      refine wpAnyH_done (by kernel_rfl) ?_ _
      go_wp2
      go_ret
      exact ⟨rfl, bt hbel.out (bt BL.out hHeld.1)⟩
    rw [if_pos rfl] at MA
    have MJ : Hid (∀ k (h : k < l.length), k < j + 1 → mayO (l[k]'h) = true) := fun i h hi => by
      by_cases e : i = j
      · subst e; rw [← HX.out]; exact HMY.out
      · exact hmay.out i h (by omega)
    by_cases hj0 : j = 0
    · have q8 : decide (0 < (j : Int)) = false := decide_eq_false (by omega)
      have q9 : decide (0 < j) = false := decide_eq_false (by omega)
      have LJ : Hid (∀ k (h : k + 1 < l.length), k + 1 < j + 1 → lessO (l[k]'(by omega)) (l[k + 1]'h)) := fun k h hk => by omega
      clear hj0
      go_wp2
      refine wp_region_held_drew (S := fun w' => Below (wr.alloc (.cells #[.int .u8 (k : Int), .int .u32 (t : Int), .int .u8 (r : Int), .slice uo nu uc, .int .i64 p] 31)).heap.size (wr.alloc (.cells #[.int .u8 (k : Int), .int .u32 (t : Int), .int .u8 (r : Int), .slice uo nu uc, .int .i64 p] 31)) w' ∧ w'.cell? ⟨wr.heap.size, 0, none⟩ = some (.int .u8 (k : Int)) ∧ w'.cell? ⟨wr.heap.size, 1, none⟩ = some (.int .u32 (t : Int)) ∧ w'.cell? ⟨wr.heap.size, 2, none⟩ = some (.int .u8 (r : Int)) ∧ w'.cell? ⟨wr.heap.size, 3, none⟩ = some (.slice uo nu uc) ∧ w'.cell? ⟨wr.heap.size, 4, none⟩ = some (.int .i64 p)) (by kernel_rfl) (SK.out _ (drew1 _)) (fun hHeld => ?_)
      refine wpAnyH_take (i := 0) (v := ?vb0) rfl (by kernel_rfl) (by kernel_rfl) (by kernel_rfl) (fun _ _ _ h => h) (Or.inl ⟨by rfl, ?yb0⟩) (by assumption) ?_
      case yb0 => intro w hSw; (try dsimp only at hSw); go_simp <;> with_reducible rfl
      try simp only [List.getElem_toArray, List.getElem_cons_zero, Act.put, List.setIfInBounds_toArray, List.set_cons_zero, List.set_cons_succ]
      refine wpAnyH_ready (rs := [1]) (by kernel_rfl) (by simp) ?_
      refine AllReadyH.cons rfl (fun K hK => ?_) ?zb1
      case zb1 => exact AllReadyH.nil
      go_simp
      refine (MA.out _ (bt BL.out hHeld.1)).mono ?_
      rintro e w9b1 ⟨rfl, b9⟩
      refine hK.out _ _ (SK.out _ (bt hHeld.1 b9)) (fun hNew => ?_)
      clear hHeld
      have hHeld := hNew
      clear hNew hK K
      try simp only [List.getElem_toArray, List.getElem_cons_succ, List.getElem_cons_zero, Act.put, List.setIfInBounds_toArray, List.set_cons_zero, List.set_cons_succ]
      refine wpAnyH_take (i := 2) (v := ?vb2) rfl (by kernel_rfl) (by kernel_rfl) (by kernel_rfl) (fun _ _ _ h => h) (Or.inl ⟨by rfl, ?yb2⟩) (by assumption) ?_
      case yb2 => intro w hSw; (try dsimp only at hSw); go_simp <;> with_reducible rfl
      try simp only [List.getElem_toArray, List.getElem_cons_succ, List.getElem_cons_zero, Act.put, List.setIfInBounds_toArray, List.set_cons_zero, List.set_cons_succ]
      refine wpAnyH_take (i := 3) (v := ?vb3) rfl (by kernel_rfl) (by kernel_rfl) (by kernel_rfl) (fun _ _ _ h => h) (Or.inl ⟨by rfl, ?yb3⟩) (by assumption) ?_
      case yb3 => intro w hSw; (try dsimp only at hSw); go_simp <;> with_reducible rfl
      try simp only [List.getElem_toArray, List.getElem_cons_succ, List.getElem_cons_zero, Act.put, List.setIfInBounds_toArray, List.set_cons_zero, List.set_cons_succ]
      refine wpAnyH_take (i := 4) (v := ?vb4) rfl (by kernel_rfl) (by kernel_rfl) (by kernel_rfl) (fun _ _ _ h => h) (Or.inl ⟨by rfl, ?yb4⟩) (by assumption) ?_
      case yb4 => intro w hSw; (try dsimp only at hSw); go_simp <;> with_reducible rfl
      try simp only [List.getElem_toArray, List.getElem_cons_succ, List.getElem_cons_zero, Act.put, List.setIfInBounds_toArray, List.set_cons_zero, List.set_cons_succ]
      refine wpAnyH_take (i := 5) (v := ?vb5) rfl (by kernel_rfl) (by kernel_rfl) (by kernel_rfl) (fun _ _ _ h => h) (Or.inl ⟨by rfl, ?yb5⟩) (by assumption) ?_
      case yb5 => intro w hSw; (try dsimp only at hSw); go_simp <;> with_reducible rfl
      try simp only [List.getElem_toArray, List.getElem_cons_succ, List.getElem_cons_zero, Act.put, List.setIfInBounds_toArray, List.set_cons_zero, List.set_cons_succ]
      refine wpAnyH_take (i := 6) (v := ?vb6) rfl (by kernel_rfl) (by kernel_rfl) (by kernel_rfl) (fun _ _ _ h => h) (Or.inl ⟨by rfl, ?yb6⟩) (by assumption) ?_
      case yb6 => intro w hSw; (try dsimp only at hSw); go_simp <;> with_reducible rfl
      try simp only [List.getElem_toArray, List.getElem_cons_succ, List.getElem_cons_zero, Act.put, List.setIfInBounds_toArray, List.set_cons_zero, List.set_cons_succ]
      refine wpAnyH_take (i := 7) (v := undef) rfl (by kernel_rfl) (by kernel_rfl) (by kernel_rfl) (fun _ _ _ h => h) (Or.inr ⟨by rfl, rfl⟩) (by assumption) ?_
      try simp only [List.getElem_toArray, List.getElem_cons_succ, List.getElem_cons_zero, Act.put, List.setIfInBounds_toArray, List.set_cons_zero, List.set_cons_succ]
      refine wpAnyH_take (i := 8) (v := undef) rfl (by kernel_rfl) (by kernel_rfl) (by kernel_rfl) (fun _ _ _ h => h) (Or.inr ⟨by rfl, rfl⟩) (by assumption) ?_
      try simp only [List.getElem_toArray, List.getElem_cons_succ, List.getElem_cons_zero, Act.put, List.setIfInBounds_toArray, List.set_cons_zero, List.set_cons_succ]
      refine wpAnyH_take (i := 9) (v := undef) rfl (by kernel_rfl) (by kernel_rfl) (by kernel_rfl) (fun _ _ _ h => h) (Or.inr ⟨by rfl, rfl⟩) (by assumption) ?_
      try simp only [List.getElem_toArray, List.getElem_cons_succ, List.getElem_cons_zero, Act.put, List.setIfInBounds_toArray, List.set_cons_zero, List.set_cons_succ]
      refine wpAnyH_take (i := 10) (v := undef) rfl (by kernel_rfl) (by kernel_rfl) (by kernel_rfl) (fun _ _ _ h => h) (Or.inr ⟨by rfl, rfl⟩) (by assumption) ?_
      try simp only [List.getElem_toArray, List.getElem_cons_succ, List.getElem_cons_zero, Act.put, List.setIfInBounds_toArray, List.set_cons_zero, List.set_cons_succ]
      refine wpAnyH_take (i := 11) (v := undef) rfl (by kernel_rfl) (by kernel_rfl) (by kernel_rfl) (fun _ _ _ h => h) (Or.inr ⟨by rfl, rfl⟩) (by assumption) ?_
      try simp only [List.getElem_toArray, List.getElem_cons_succ, List.getElem_cons_zero, Act.put, List.setIfInBounds_toArray, List.set_cons_zero, List.set_cons_succ]
      refine wpAnyH_take (i := 12) (v := undef) rfl (by kernel_rfl) (by kernel_rfl) (by kernel_rfl) (fun _ _ _ h => h) (Or.inr ⟨by rfl, rfl⟩) (by assumption) ?_
      try simp only [List.getElem_toArray, List.getElem_cons_succ, List.getElem_cons_zero, Act.put, List.setIfInBounds_toArray, List.set_cons_zero, List.set_cons_succ]
      refine wpAnyH_take (i := 13) (v := undef) rfl (by kernel_rfl) (by kernel_rfl) (by kernel_rfl) (fun _ _ _ h => h) (Or.inr ⟨by rfl, rfl⟩) (by assumption) ?_
      try simp only [List.getElem_toArray, List.getElem_cons_succ, List.getElem_cons_zero, Act.put, List.setIfInBounds_toArray, List.set_cons_zero, List.set_cons_succ]
      refine wpAnyH_take (i := 14) (v := undef) rfl (by kernel_rfl) (by kernel_rfl) (by kernel_rfl) (fun _ _ _ h => h) (Or.inr ⟨by rfl, rfl⟩) (by assumption) ?_
      try simp only [List.getElem_toArray, List.getElem_cons_succ, List.getElem_cons_zero, Act.put, List.setIfInBounds_toArray, List.set_cons_zero, List.set_cons_succ]
      refine wpAnyH_take (i := 15) (v := undef) rfl (by kernel_rfl) (by kernel_rfl) (by kernel_rfl) (fun _ _ _ h => h) (Or.inr ⟨by rfl, rfl⟩) (by assumption) ?_
      try simp only [List.getElem_toArray, List.getElem_cons_succ, List.getElem_cons_zero, Act.put, List.setIfInBounds_toArray, List.set_cons_zero, List.set_cons_succ]
      refine wpAnyH_take (i := 16) (v := undef) rfl (by kernel_rfl) (by kernel_rfl) (by kernel_rfl) (fun _ _ _ h => h) (Or.inr ⟨by rfl, rfl⟩) (by assumption) ?_
      try simp only [List.getElem_toArray, List.getElem_cons_succ, List.getElem_cons_zero, Act.put, List.setIfInBounds_toArray, List.set_cons_zero, List.set_cons_succ]
      refine wpAnyH_take (i := 17) (v := ?vb17) rfl (by kernel_rfl) (by kernel_rfl) (by kernel_rfl) (fun _ _ _ h => h) (Or.inl ⟨by rfl, ?yb17⟩) (by assumption) ?_
      case yb17 => intro w hSw; (try dsimp only at hSw); go_simp <;> with_reducible rfl
      try simp only [List.getElem_toArray, List.getElem_cons_succ, List.getElem_cons_zero, Act.put, List.setIfInBounds_toArray, List.set_cons_zero, List.set_cons_succ]
      refine wpAnyH_take (i := 18) (v := ?vb18) rfl (by kernel_rfl) (by kernel_rfl) (by kernel_rfl) (fun _ _ _ h => h) (Or.inl ⟨by rfl, ?yb18⟩) (by assumption) ?_
      case yb18 => intro w hSw; (try dsimp only at hSw); go_simp <;> with_reducible rfl
      try simp only [List.getElem_toArray, List.getElem_cons_succ, List.getElem_cons_zero, Act.put, List.setIfInBounds_toArray, List.set_cons_zero, List.set_cons_succ]
      refine wpAnyH_done (by kernel_rfl) ?_ _
      go_wp2
      go_roundw
      case rel => exact ⟨j + 1, by omega, by go_num, MJ, LJ, Lib.hid (bt hbel.out (bt BL.out hHeld.1))⟩
      case measure => simp [intOf]; omega
    obtain ⟨i, hi⟩ : ∃ i, i + 1 = j := ⟨j - 1, by omega⟩
    have hil : i < l.length := by omega
    obtain ⟨bby, ooy, uy, ey, hbby, hruy, h0y, h1y, h2y, h3y, h4y⟩ := opl_at (HV.out wr hbel.out) i hil
    cases ey
    obtain ⟨xy, hxy⟩ : ∃ x, x = l[i]'hil := ⟨_, rfl⟩
    rw [← hxy] at hruy h0y h1y h2y h4y
    have HOy : Hid (∀ v : Value, opv xy v = .agg #[.int .u8 (xy.k : Int), .int .u32 (xy.t : Int), .int .u8 (xy.r : Int), v, .int .i64 xy.p]) := fun v => rfl
    have LY := Lib.hid (fun W => LX.out i hi W xy hxy)
    have HXY : Hid (xy = l[i]'hil) := hxy
    clear hxy LX hruy
    obtain ⟨ly, hly⟩ : ∃ b, decide (lessO xy x) = b := ⟨_, rfl⟩
    rw [hly] at LY
    have HLY := Lib.hid hly
    clear hly
    obtain ⟨ky, hky⟩ : ∃ z, xy.k = z := ⟨_, rfl⟩
    obtain ⟨ty, hty⟩ : ∃ z, xy.t = z := ⟨_, rfl⟩
    obtain ⟨ry, hry⟩ : ∃ z, xy.r = z := ⟨_, rfl⟩
    obtain ⟨py, hpy⟩ : ∃ z, xy.p = z := ⟨_, rfl⟩
    rw [hky, hty, hry, hpy] at HOy
    rw [hky] at h0y
    rw [hty] at h1y
    rw [hry] at h2y
    rw [hpy] at h4y
    rw [hty, hry] at LY
    have SL : Hid (∀ w' : World, Below (wr.alloc (.cells #[.int .u8 (k : Int), .int .u32 (t : Int), .int .u8 (r : Int), .slice uo nu uc, .int .i64 p] 31)).heap.size (wr.alloc (.cells #[.int .u8 (k : Int), .int .u32 (t : Int), .int .u8 (r : Int), .slice uo nu uc, .int .i64 p] 31)) w' → Below (wr.alloc (.cells #[.int .u8 (k : Int), .int .u32 (t : Int), .int .u8 (r : Int), .slice uo nu uc, .int .i64 p] 31)).heap.size (wr.alloc (.cells #[.int .u8 (k : Int), .int .u32 (t : Int), .int .u8 (r : Int), .slice uo nu uc, .int .i64 p] 31)) w' ∧ w'.cell? ⟨wr.heap.size, 0, none⟩ = some (.int .u8 (k : Int)) ∧ w'.cell? ⟨wr.heap.size, 1, none⟩ = some (.int .u32 (t : Int)) ∧ w'.cell? ⟨wr.heap.size, 2, none⟩ = some (.int .u8 (r : Int)) ∧ w'.cell? ⟨wr.heap.size, 3, none⟩ = some (.slice uo nu uc) ∧ w'.cell? ⟨wr.heap.size, 4, none⟩ = some (.int .i64 p) ∧ w'.cell? ⟨bb, oo + i * 5 + 1, none⟩ = some (.int .u32 (ty : Int)) ∧ w'.cell? ⟨bb, oo + i * 5 + 2, none⟩ = some (.int .u8 (ry : Int))) := fun W h => by
      have a1 := five_cells h
      have b1 := bt BL.out h
      exact ⟨h, a1.1, a1.2.1, a1.2.2.1, a1.2.2.2.1, a1.2.2.2.2, (b1.cell (p := ⟨bb, oo + i * 5 + 1, none⟩) hbb).trans h1y, (b1.cell (p := ⟨bb, oo + i * 5 + 2, none⟩) hbb).trans h2y⟩
    have ej : (j : Int) - 1 = (i : Int) := by omega
    have ew : IntKind.i64.wrap (i : Int) = (i : Int) := IntWalk.i64_in _ (by omega)
    have q6 : (0 : Int) ≤ (i : Int) := by omega
    have q7 : (i : Int) < (n : Int) := by omega
    have q8 : decide (0 < (j : Int)) = true := decide_eq_true (by omega)
    have q9 : decide (0 < j) = true := decide_eq_true (by omega)
    clear hky hty hry hpy h0y h1y h2y h3y h4y HOy SK hbby
    cases ly
    · obtain rfl : q = 8 := QN.out (fun h => by have h2 := of_decide_eq_false HLY.out; rw [HXY.out, HX.out] at h2; exact h2 (List.pairwise_iff_getElem.1 h.2.2 i j hil HJ.out (by omega)))
      go_wp2
      refine wp_region_held_drew (S := fun w' => Below (wr.alloc (.cells #[.int .u8 (k : Int), .int .u32 (t : Int), .int .u8 (r : Int), .slice uo nu uc, .int .i64 p] 31)).heap.size (wr.alloc (.cells #[.int .u8 (k : Int), .int .u32 (t : Int), .int .u8 (r : Int), .slice uo nu uc, .int .i64 p] 31)) w' ∧ w'.cell? ⟨wr.heap.size, 0, none⟩ = some (.int .u8 (k : Int)) ∧ w'.cell? ⟨wr.heap.size, 1, none⟩ = some (.int .u32 (t : Int)) ∧ w'.cell? ⟨wr.heap.size, 2, none⟩ = some (.int .u8 (r : Int)) ∧ w'.cell? ⟨wr.heap.size, 3, none⟩ = some (.slice uo nu uc) ∧ w'.cell? ⟨wr.heap.size, 4, none⟩ = some (.int .i64 p) ∧ w'.cell? ⟨bb, oo + i * 5 + 1, none⟩ = some (.int .u32 (ty : Int)) ∧ w'.cell? ⟨bb, oo + i * 5 + 2, none⟩ = some (.int .u8 (ry : Int))) (by kernel_rfl) (SL.out _ (drew1 _)) (fun hHeld => ?_)
      refine wpAnyH_take (i := 0) (v := ?vc0) rfl (by kernel_rfl) (by kernel_rfl) (by kernel_rfl) (fun _ _ _ h => h) (Or.inl ⟨by rfl, ?yc0⟩) (by assumption) ?_
      case yc0 => intro w hSw; (try dsimp only at hSw); go_simp <;> with_reducible rfl
      try simp only [List.getElem_toArray, List.getElem_cons_zero, Act.put, List.setIfInBounds_toArray, List.set_cons_zero, List.set_cons_succ]
      refine wpAnyH_ready (rs := [1]) (by kernel_rfl) (by simp) ?_
      refine AllReadyH.cons rfl (fun K hK => ?_) ?zc1
      case zc1 => exact AllReadyH.nil
      go_simp
      refine (MA.out _ (bt BL.out hHeld.1)).mono ?_
      rintro e w9c1 ⟨rfl, b9⟩
      refine hK.out _ _ (SL.out _ (bt hHeld.1 b9)) (fun hNew => ?_)
      clear hHeld
      have hHeld := hNew
      clear hNew hK K
      try simp only [List.getElem_toArray, List.getElem_cons_succ, List.getElem_cons_zero, Act.put, List.setIfInBounds_toArray, List.set_cons_zero, List.set_cons_succ]
      refine wpAnyH_take (i := 2) (v := ?vc2) rfl (by kernel_rfl) (by kernel_rfl) (by kernel_rfl) (fun _ _ _ h => h) (Or.inl ⟨by rfl, ?yc2⟩) (by assumption) ?_
      case yc2 => intro w hSw; (try dsimp only at hSw); go_simp <;> with_reducible rfl
      try simp only [List.getElem_toArray, List.getElem_cons_succ, List.getElem_cons_zero, Act.put, List.setIfInBounds_toArray, List.set_cons_zero, List.set_cons_succ]
      refine wpAnyH_take (i := 3) (v := ?vc3) rfl (by kernel_rfl) (by kernel_rfl) (by kernel_rfl) (fun _ _ _ h => h) (Or.inl ⟨by rfl, ?yc3⟩) (by assumption) ?_
      case yc3 => intro w hSw; (try dsimp only at hSw); go_simp <;> with_reducible rfl
      try simp only [List.getElem_toArray, List.getElem_cons_succ, List.getElem_cons_zero, Act.put, List.setIfInBounds_toArray, List.set_cons_zero, List.set_cons_succ]
      refine wpAnyH_take (i := 4) (v := ?vc4) rfl (by kernel_rfl) (by kernel_rfl) (by kernel_rfl) (fun _ _ _ h => h) (Or.inl ⟨by rfl, ?yc4⟩) (by assumption) ?_
      case yc4 => intro w hSw; (try dsimp only at hSw); go_simp <;> with_reducible rfl
      try simp only [List.getElem_toArray, List.getElem_cons_succ, List.getElem_cons_zero, Act.put, List.setIfInBounds_toArray, List.set_cons_zero, List.set_cons_succ]
      refine wpAnyH_take (i := 5) (v := ?vc5) rfl (by kernel_rfl) (by kernel_rfl) (by kernel_rfl) (fun _ _ _ h => h) (Or.inl ⟨by rfl, ?yc5⟩) (by assumption) ?_
      case yc5 => intro w hSw; (try dsimp only at hSw); go_simp <;> with_reducible rfl
      try simp only [List.getElem_toArray, List.getElem_cons_succ, List.getElem_cons_zero, Act.put, List.setIfInBounds_toArray, List.set_cons_zero, List.set_cons_succ]
      refine wpAnyH_take (i := 6) (v := ?vc6) rfl (by kernel_rfl) (by kernel_rfl) (by kernel_rfl) (fun _ _ _ h => h) (Or.inl ⟨by rfl, ?yc6⟩) (by assumption) ?_
      case yc6 => intro w hSw; (try dsimp only at hSw); go_simp <;> with_reducible rfl
      try simp only [List.getElem_toArray, List.getElem_cons_succ, List.getElem_cons_zero, Act.put, List.setIfInBounds_toArray, List.set_cons_zero, List.set_cons_succ]
      refine wpAnyH_take (i := 7) (v := ?vc7) rfl (by kernel_rfl) (by kernel_rfl) (by kernel_rfl) (fun _ _ _ h => h) (Or.inl ⟨by rfl, ?yc7⟩) (by assumption) ?_
      case yc7 => intro w hSw; (try dsimp only at hSw); go_simp <;> with_reducible rfl
      try simp only [List.getElem_toArray, List.getElem_cons_succ, List.getElem_cons_zero, Act.put, List.setIfInBounds_toArray, List.set_cons_zero, List.set_cons_succ]
      refine wpAnyH_take (i := 8) (v := ?vc8) rfl (by kernel_rfl) (by kernel_rfl) (by kernel_rfl) (fun _ _ _ h => h) (Or.inl ⟨by rfl, ?yc8⟩) (by assumption) ?_
      case yc8 => intro w hSw; (try dsimp only at hSw); go_simp <;> with_reducible rfl
      try simp only [List.getElem_toArray, List.getElem_cons_succ, List.getElem_cons_zero, Act.put, List.setIfInBounds_toArray, List.set_cons_zero, List.set_cons_succ]
      refine wpAnyH_take (i := 9) (v := ?vc9) rfl (by kernel_rfl) (by kernel_rfl) (by kernel_rfl) (fun _ _ _ h => h) (Or.inl ⟨by rfl, ?yc9⟩) (by assumption) ?_
      case yc9 => intro w hSw; (try dsimp only at hSw); go_simp <;> with_reducible rfl
      try simp only [List.getElem_toArray, List.getElem_cons_succ, List.getElem_cons_zero, Act.put, List.setIfInBounds_toArray, List.set_cons_zero, List.set_cons_succ]
      refine wpAnyH_take (i := 10) (v := ?vc10) rfl (by kernel_rfl) (by kernel_rfl) (by kernel_rfl) (fun _ _ _ h => h) (Or.inl ⟨by rfl, ?yc10⟩) (by assumption) ?_
      case yc10 => intro w hSw; (try dsimp only at hSw); go_simp <;> with_reducible rfl
      try simp only [List.getElem_toArray, List.getElem_cons_succ, List.getElem_cons_zero, Act.put, List.setIfInBounds_toArray, List.set_cons_zero, List.set_cons_succ]
      refine wpAnyH_take (i := 11) (v := ?vc11) rfl (by kernel_rfl) (by kernel_rfl) (by kernel_rfl) (fun _ _ _ h => h) (Or.inl ⟨by rfl, ?yc11⟩) (by assumption) ?_
      case yc11 => intro w hSw; (try dsimp only at hSw); go_simp <;> with_reducible rfl
      try simp only [List.getElem_toArray, List.getElem_cons_succ, List.getElem_cons_zero, Act.put, List.setIfInBounds_toArray, List.set_cons_zero, List.set_cons_succ]
      refine wpAnyH_take (i := 12) (v := ?vc12) rfl (by kernel_rfl) (by kernel_rfl) (by kernel_rfl) (fun _ _ _ h => h) (Or.inl ⟨by rfl, ?yc12⟩) (by assumption) ?_
      case yc12 => intro w hSw; (try dsimp only at hSw); go_simp <;> with_reducible rfl
      try simp only [List.getElem_toArray, List.getElem_cons_succ, List.getElem_cons_zero, Act.put, List.setIfInBounds_toArray, List.set_cons_zero, List.set_cons_succ]
      refine wpAnyH_take (i := 13) (v := ?vc13) rfl (by kernel_rfl) (by kernel_rfl) (by kernel_rfl) (fun _ _ _ h => h) (Or.inl ⟨by rfl, ?yc13⟩) (by assumption) ?_
      case yc13 => intro w hSw; (try dsimp only at hSw); go_simp <;> with_reducible rfl
      try simp only [List.getElem_toArray, List.getElem_cons_succ, List.getElem_cons_zero, Act.put, List.setIfInBounds_toArray, List.set_cons_zero, List.set_cons_succ]
      refine wpAnyH_take (i := 14) (v := ?vc14) rfl (by kernel_rfl) (by kernel_rfl) (by kernel_rfl) (fun _ _ _ h => h) (Or.inl ⟨by rfl, ?yc14⟩) (by assumption) ?_
      case yc14 => intro w hSw; (try dsimp only at hSw); go_simp <;> with_reducible rfl
      try simp only [List.getElem_toArray, List.getElem_cons_succ, List.getElem_cons_zero, Act.put, List.setIfInBounds_toArray, List.set_cons_zero, List.set_cons_succ]
      refine wpAnyH_ready (rs := [15]) (by kernel_rfl) (by simp) ?_
      refine AllReadyH.cons rfl (fun K hK => ?_) ?zc15
      case zc15 => exact AllReadyH.nil
      go_simp
      refine (LY.out _).mono ?_
      rintro e w9c15 ⟨rfl, b9⟩
      refine hK.out _ _ (SL.out _ (bt hHeld.1 b9)) (fun hNew => ?_)
      clear hHeld
      have hHeld := hNew
      clear hNew hK K
      try simp only [List.getElem_toArray, List.getElem_cons_succ, List.getElem_cons_zero, Act.put, List.setIfInBounds_toArray, List.set_cons_zero, List.set_cons_succ]
      refine wpAnyH_take (i := 16) (v := ?vc16) rfl (by kernel_rfl) (by kernel_rfl) (by kernel_rfl) (fun _ _ _ h => h) (Or.inl ⟨by rfl, ?yc16⟩) (by assumption) ?_
      case yc16 => intro w hSw; (try dsimp only at hSw); go_simp <;> with_reducible rfl
      try simp only [List.getElem_toArray, List.getElem_cons_succ, List.getElem_cons_zero, Act.put, List.setIfInBounds_toArray, List.set_cons_zero, List.set_cons_succ]
      refine wpAnyH_take (i := 17) (v := ?vc17) rfl (by kernel_rfl) (by kernel_rfl) (by kernel_rfl) (fun _ _ _ h => h) (Or.inl ⟨by rfl, ?yc17⟩) (by assumption) ?_
      case yc17 => intro w hSw; (try dsimp only at hSw); go_simp <;> with_reducible rfl
      try simp only [List.getElem_toArray, List.getElem_cons_succ, List.getElem_cons_zero, Act.put, List.setIfInBounds_toArray, List.set_cons_zero, List.set_cons_succ]
      refine wpAnyH_take (i := 18) (v := ?vc18) rfl (by kernel_rfl) (by kernel_rfl) (by kernel_rfl) (fun _ _ _ h => h) (Or.inl ⟨by rfl, ?yc18⟩) (by assumption) ?_
      case yc18 => intro w hSw; (try dsimp only at hSw); go_simp <;> with_reducible rfl
      try simp only [List.getElem_toArray, List.getElem_cons_succ, List.getElem_cons_zero, Act.put, List.setIfInBounds_toArray, List.set_cons_zero, List.set_cons_succ]
      refine wpAnyH_done (by kernel_rfl) ?_ _
      go_wp2
      go_ret
      exact ⟨rfl, bt hbel.out (bt BL.out hHeld.1)⟩
    have LJ : Hid (∀ k (h : k + 1 < l.length), k + 1 < j + 1 → lessO (l[k]'(by omega)) (l[k + 1]'h)) := fun k h hk => by
      by_cases e : k = i
      · subst e; subst hi; have h2 := of_decide_eq_true HLY.out; rw [HXY.out, HX.out] at h2; exact h2
      · exact hless.out k h (by omega)
    go_wp2
    refine wp_region_held_drew (S := fun w' => Below (wr.alloc (.cells #[.int .u8 (k : Int), .int .u32 (t : Int), .int .u8 (r : Int), .slice uo nu uc, .int .i64 p] 31)).heap.size (wr.alloc (.cells #[.int .u8 (k : Int), .int .u32 (t : Int), .int .u8 (r : Int), .slice uo nu uc, .int .i64 p] 31)) w' ∧ w'.cell? ⟨wr.heap.size, 0, none⟩ = some (.int .u8 (k : Int)) ∧ w'.cell? ⟨wr.heap.size, 1, none⟩ = some (.int .u32 (t : Int)) ∧ w'.cell? ⟨wr.heap.size, 2, none⟩ = some (.int .u8 (r : Int)) ∧ w'.cell? ⟨wr.heap.size, 3, none⟩ = some (.slice uo nu uc) ∧ w'.cell? ⟨wr.heap.size, 4, none⟩ = some (.int .i64 p) ∧ w'.cell? ⟨bb, oo + i * 5 + 1, none⟩ = some (.int .u32 (ty : Int)) ∧ w'.cell? ⟨bb, oo + i * 5 + 2, none⟩ = some (.int .u8 (ry : Int))) (by kernel_rfl) (SL.out _ (drew1 _)) (fun hHeld => ?_)
    refine wpAnyH_take (i := 0) (v := ?vd0) rfl (by kernel_rfl) (by kernel_rfl) (by kernel_rfl) (fun _ _ _ h => h) (Or.inl ⟨by rfl, ?yd0⟩) (by assumption) ?_
    case yd0 => intro w hSw; (try dsimp only at hSw); go_simp <;> with_reducible rfl
    try simp only [List.getElem_toArray, List.getElem_cons_zero, Act.put, List.setIfInBounds_toArray, List.set_cons_zero, List.set_cons_succ]
    refine wpAnyH_ready (rs := [1]) (by kernel_rfl) (by simp) ?_
    refine AllReadyH.cons rfl (fun K hK => ?_) ?zd1
    case zd1 => exact AllReadyH.nil
    go_simp
    refine (MA.out _ (bt BL.out hHeld.1)).mono ?_
    rintro e w9d1 ⟨rfl, b9⟩
    refine hK.out _ _ (SL.out _ (bt hHeld.1 b9)) (fun hNew => ?_)
    clear hHeld
    have hHeld := hNew
    clear hNew hK K
    try simp only [List.getElem_toArray, List.getElem_cons_succ, List.getElem_cons_zero, Act.put, List.setIfInBounds_toArray, List.set_cons_zero, List.set_cons_succ]
    refine wpAnyH_take (i := 2) (v := ?vd2) rfl (by kernel_rfl) (by kernel_rfl) (by kernel_rfl) (fun _ _ _ h => h) (Or.inl ⟨by rfl, ?yd2⟩) (by assumption) ?_
    case yd2 => intro w hSw; (try dsimp only at hSw); go_simp <;> with_reducible rfl
    try simp only [List.getElem_toArray, List.getElem_cons_succ, List.getElem_cons_zero, Act.put, List.setIfInBounds_toArray, List.set_cons_zero, List.set_cons_succ]
    refine wpAnyH_take (i := 3) (v := ?vd3) rfl (by kernel_rfl) (by kernel_rfl) (by kernel_rfl) (fun _ _ _ h => h) (Or.inl ⟨by rfl, ?yd3⟩) (by assumption) ?_
    case yd3 => intro w hSw; (try dsimp only at hSw); go_simp <;> with_reducible rfl
    try simp only [List.getElem_toArray, List.getElem_cons_succ, List.getElem_cons_zero, Act.put, List.setIfInBounds_toArray, List.set_cons_zero, List.set_cons_succ]
    refine wpAnyH_take (i := 4) (v := ?vd4) rfl (by kernel_rfl) (by kernel_rfl) (by kernel_rfl) (fun _ _ _ h => h) (Or.inl ⟨by rfl, ?yd4⟩) (by assumption) ?_
    case yd4 => intro w hSw; (try dsimp only at hSw); go_simp <;> with_reducible rfl
    try simp only [List.getElem_toArray, List.getElem_cons_succ, List.getElem_cons_zero, Act.put, List.setIfInBounds_toArray, List.set_cons_zero, List.set_cons_succ]
    refine wpAnyH_take (i := 5) (v := ?vd5) rfl (by kernel_rfl) (by kernel_rfl) (by kernel_rfl) (fun _ _ _ h => h) (Or.inl ⟨by rfl, ?yd5⟩) (by assumption) ?_
    case yd5 => intro w hSw; (try dsimp only at hSw); go_simp <;> with_reducible rfl
    try simp only [List.getElem_toArray, List.getElem_cons_succ, List.getElem_cons_zero, Act.put, List.setIfInBounds_toArray, List.set_cons_zero, List.set_cons_succ]
    refine wpAnyH_take (i := 6) (v := ?vd6) rfl (by kernel_rfl) (by kernel_rfl) (by kernel_rfl) (fun _ _ _ h => h) (Or.inl ⟨by rfl, ?yd6⟩) (by assumption) ?_
    case yd6 => intro w hSw; (try dsimp only at hSw); go_simp <;> with_reducible rfl
    try simp only [List.getElem_toArray, List.getElem_cons_succ, List.getElem_cons_zero, Act.put, List.setIfInBounds_toArray, List.set_cons_zero, List.set_cons_succ]
    refine wpAnyH_take (i := 7) (v := ?vd7) rfl (by kernel_rfl) (by kernel_rfl) (by kernel_rfl) (fun _ _ _ h => h) (Or.inl ⟨by rfl, ?yd7⟩) (by assumption) ?_
    case yd7 => intro w hSw; (try dsimp only at hSw); go_simp <;> with_reducible rfl
    try simp only [List.getElem_toArray, List.getElem_cons_succ, List.getElem_cons_zero, Act.put, List.setIfInBounds_toArray, List.set_cons_zero, List.set_cons_succ]
    refine wpAnyH_take (i := 8) (v := ?vd8) rfl (by kernel_rfl) (by kernel_rfl) (by kernel_rfl) (fun _ _ _ h => h) (Or.inl ⟨by rfl, ?yd8⟩) (by assumption) ?_
    case yd8 => intro w hSw; (try dsimp only at hSw); go_simp <;> with_reducible rfl
    try simp only [List.getElem_toArray, List.getElem_cons_succ, List.getElem_cons_zero, Act.put, List.setIfInBounds_toArray, List.set_cons_zero, List.set_cons_succ]
    refine wpAnyH_take (i := 9) (v := ?vd9) rfl (by kernel_rfl) (by kernel_rfl) (by kernel_rfl) (fun _ _ _ h => h) (Or.inl ⟨by rfl, ?yd9⟩) (by assumption) ?_
    case yd9 => intro w hSw; (try dsimp only at hSw); go_simp <;> with_reducible rfl
    try simp only [List.getElem_toArray, List.getElem_cons_succ, List.getElem_cons_zero, Act.put, List.setIfInBounds_toArray, List.set_cons_zero, List.set_cons_succ]
    refine wpAnyH_take (i := 10) (v := ?vd10) rfl (by kernel_rfl) (by kernel_rfl) (by kernel_rfl) (fun _ _ _ h => h) (Or.inl ⟨by rfl, ?yd10⟩) (by assumption) ?_
    case yd10 => intro w hSw; (try dsimp only at hSw); go_simp <;> with_reducible rfl
    try simp only [List.getElem_toArray, List.getElem_cons_succ, List.getElem_cons_zero, Act.put, List.setIfInBounds_toArray, List.set_cons_zero, List.set_cons_succ]
    refine wpAnyH_take (i := 11) (v := ?vd11) rfl (by kernel_rfl) (by kernel_rfl) (by kernel_rfl) (fun _ _ _ h => h) (Or.inl ⟨by rfl, ?yd11⟩) (by assumption) ?_
    case yd11 => intro w hSw; (try dsimp only at hSw); go_simp <;> with_reducible rfl
    try simp only [List.getElem_toArray, List.getElem_cons_succ, List.getElem_cons_zero, Act.put, List.setIfInBounds_toArray, List.set_cons_zero, List.set_cons_succ]
    refine wpAnyH_take (i := 12) (v := ?vd12) rfl (by kernel_rfl) (by kernel_rfl) (by kernel_rfl) (fun _ _ _ h => h) (Or.inl ⟨by rfl, ?yd12⟩) (by assumption) ?_
    case yd12 => intro w hSw; (try dsimp only at hSw); go_simp <;> with_reducible rfl
    try simp only [List.getElem_toArray, List.getElem_cons_succ, List.getElem_cons_zero, Act.put, List.setIfInBounds_toArray, List.set_cons_zero, List.set_cons_succ]
    refine wpAnyH_take (i := 13) (v := ?vd13) rfl (by kernel_rfl) (by kernel_rfl) (by kernel_rfl) (fun _ _ _ h => h) (Or.inl ⟨by rfl, ?yd13⟩) (by assumption) ?_
    case yd13 => intro w hSw; (try dsimp only at hSw); go_simp <;> with_reducible rfl
    try simp only [List.getElem_toArray, List.getElem_cons_succ, List.getElem_cons_zero, Act.put, List.setIfInBounds_toArray, List.set_cons_zero, List.set_cons_succ]
    refine wpAnyH_take (i := 14) (v := ?vd14) rfl (by kernel_rfl) (by kernel_rfl) (by kernel_rfl) (fun _ _ _ h => h) (Or.inl ⟨by rfl, ?yd14⟩) (by assumption) ?_
    case yd14 => intro w hSw; (try dsimp only at hSw); go_simp <;> with_reducible rfl
    try simp only [List.getElem_toArray, List.getElem_cons_succ, List.getElem_cons_zero, Act.put, List.setIfInBounds_toArray, List.set_cons_zero, List.set_cons_succ]
    refine wpAnyH_ready (rs := [15]) (by kernel_rfl) (by simp) ?_
    refine AllReadyH.cons rfl (fun K hK => ?_) ?zd15
    case zd15 => exact AllReadyH.nil
    go_simp
    refine (LY.out _).mono ?_
    rintro e w9d15 ⟨rfl, b9⟩
    refine hK.out _ _ (SL.out _ (bt hHeld.1 b9)) (fun hNew => ?_)
    clear hHeld
    have hHeld := hNew
    clear hNew hK K
    try simp only [List.getElem_toArray, List.getElem_cons_succ, List.getElem_cons_zero, Act.put, List.setIfInBounds_toArray, List.set_cons_zero, List.set_cons_succ]
    refine wpAnyH_take (i := 16) (v := ?vd16) rfl (by kernel_rfl) (by kernel_rfl) (by kernel_rfl) (fun _ _ _ h => h) (Or.inl ⟨by rfl, ?yd16⟩) (by assumption) ?_
    case yd16 => intro w hSw; (try dsimp only at hSw); go_simp <;> with_reducible rfl
    try simp only [List.getElem_toArray, List.getElem_cons_succ, List.getElem_cons_zero, Act.put, List.setIfInBounds_toArray, List.set_cons_zero, List.set_cons_succ]
    refine wpAnyH_take (i := 17) (v := ?vd17) rfl (by kernel_rfl) (by kernel_rfl) (by kernel_rfl) (fun _ _ _ h => h) (Or.inl ⟨by rfl, ?yd17⟩) (by assumption) ?_
    case yd17 => intro w hSw; (try dsimp only at hSw); go_simp <;> with_reducible rfl
    try simp only [List.getElem_toArray, List.getElem_cons_succ, List.getElem_cons_zero, Act.put, List.setIfInBounds_toArray, List.set_cons_zero, List.set_cons_succ]
    refine wpAnyH_take (i := 18) (v := ?vd18) rfl (by kernel_rfl) (by kernel_rfl) (by kernel_rfl) (fun _ _ _ h => h) (Or.inl ⟨by rfl, ?yd18⟩) (by assumption) ?_
    case yd18 => intro w hSw; (try dsimp only at hSw); go_simp <;> with_reducible rfl
    try simp only [List.getElem_toArray, List.getElem_cons_succ, List.getElem_cons_zero, Act.put, List.setIfInBounds_toArray, List.set_cons_zero, List.set_cons_succ]
    refine wpAnyH_done (by kernel_rfl) ?_ _
    go_wp2
    go_roundw
    case rel => exact ⟨j + 1, by omega, by go_num, MJ, LJ, Lib.hid (bt hbel.out (bt BL.out hHeld.1))⟩
    case measure => simp [intOf]; omega
end Go.Proofs.YtdackenaknieaaaGreat.Bags
