/- octavo/clock: Ids: what it answers. Conditions: the slices' cells are replicas' spans. -/
import Derived.WalkKit
import Derived.WalkSpells
import Derived.WalkLawsBesides
import Derived.RegionTactic
import Derived.Deep.RegionHeld3
import Derived.Deep.DrawnRows
import Derived.Deep.QuietTactic
import Derived.BigQuiet
import Derived.IntWalk
import Derived.Test.YtmgdbgloacbacaaPk14
import Derived.Test.YtmgdbgloacbacaaPk02
import Derived.Test.YtmgdbgloacbacaaPk10

namespace Go.Proofs.Ytmgdbgloacbacaa.Clocks
open Go.RowKit Go.Proofs.Ytmgdbgloacbacaa.Spans
attribute [local go_sem ↓] Go.wp_at_zero Go.wp_at_succ

/-- A block stays, as another row grows. -/
theorem box_grown {w w' : World} {base sz n k : Nat} {e e' : TypeId} {v : Value} {cs : List Value} {a : Array Value} (hv : w.ownsRow base e sz v n cs) (hg : w.grownBy w' v.ownBlock) (hk : w.heap[k]? = some (.cells a e')) (hne : e' ≠ e) : w'.heap[k]? = some (.cells a e') :=
  (hg.block k (Array.getElem?_eq_some_iff.1 hk).1 (fun h => own_ne hv hk (fun c hc => hne (by injection hc)) h.symm)).trans hk

set_option maxRecDepth 100000 in
set_option maxHeartbeats 8000000 in
theorem cIds_any {v : Value} {c : List Tm} {w : World} (hv : Tms w v c) :
    Calls Try.prog 8 #[v] w (DoneI (idsCC c).1 (idsCC c).2 w) := by
  obtain ⟨ao, cap, rfl⟩ := hv.shape
  obtain ⟨n, hn⟩ : ∃ n, n = c.length := ⟨_, rfl⟩
  have hm : n ≤ 9223372036854775807 := by rw [hn]; exact Tms.max hv
  have M := Lib.hid (cCheck_any hv)
  have HV := Lib.hid hv
  have HN := Lib.hid hn
  obtain ⟨L, x, hd⟩ : ∃ L x, idsCC c = (L, x) := ⟨_, _, rfl⟩
  rw [hd]
  unfold idsCC at hd
  simp only
  unfold chkC at M
  have CN : Hid (∀ W : World, Below w.heap.size w W → Calls Try.prog 18 #[.slice ao c.length cap] W fun e w' => e = .returned (.int .i64 (countC c : Int)) ∧ Below W.heap.size W w') := fun W hW => cCount_any (HV.out.keeps hW)
  unfold countC at CN
  cases hb : mayC c
  · rw [hb, if_neg (by simp)] at M
    rw [hb, if_neg (by simp)] at hd
    obtain ⟨rfl, rfl⟩ : [] = L ∧ (8 : Int) = x := Prod.mk.inj hd
    clear hb hv hn CN
    go_enter Try.func8, Try.ntmps8
    go_wp2_with fail
    refine M.out.mono ?_
    rintro e w1 ⟨rfl, b1⟩
    go_wp2
    go_ret2
    exact ⟨_, rfl, OwnI.nil _ _, b1⟩
  rw [hb, if_pos rfl] at M CN hd
  have hc := (mayC_iff c).1 hb
  obtain ⟨mc, hmc⟩ : ∃ mc, mc = manyC c := ⟨_, rfl⟩
  rw [← hmc] at CN hd
  by_cases hbig : 1024 < mc
  · rw [if_pos hbig] at hd
    obtain ⟨rfl, rfl⟩ : [] = L ∧ (4 : Int) = x := Prod.mk.inj hd
    have t1 : decide ((1024 : Int) < (mc : Int)) = true := decide_eq_true (by omega)
    have t2 : decide (1024 < mc) = true := decide_eq_true hbig
    clear hb hv hn hc hmc
    go_enter Try.func8, Try.ntmps8
    go_wp2_with fail
    refine M.out.mono ?_
    rintro e w1 ⟨rfl, b1⟩
    have B1 := Lib.hid b1
    clear b1
    go_wp2_with fail
    refine (CN.out _ B1.out).mono ?_
    rintro e w2 ⟨rfl, b2⟩
    have B2 := Lib.hid (bt B1.out b2)
    clear b2
    go_wp2
    go_ret2
    exact ⟨_, rfl, OwnI.nil _ _, B2.out⟩
  rw [if_neg hbig] at hd
  obtain ⟨rfl, rfl⟩ : allI c = L ∧ (0 : Int) = x := Prod.mk.inj hd
  have t1 : decide ((1024 : Int) < (mc : Int)) = false := decide_eq_false (by omega)
  have t2 : decide (1024 < mc) = false := decide_eq_false hbig
  have HC := Lib.hid hc
  have HL : Hid ((allI c).length ≤ 1024) := by show _ ≤ _; rw [allI_len (cok_all hc), ← hmc]; omega
  rw [← hn] at M CN ⊢
  have O0 : Hid (∀ W : World, OwnI W w.heap.size (.slice none 0 0) (allI (c.take 0))) := fun W => OwnI.nil _ _
  obtain ⟨LL, hLL⟩ : ∃ LL, LL = allI c := ⟨_, rfl⟩
  have HLL := Lib.hid hLL
  rw [← hLL]
  clear hv hn hc hb hmc hLL hd
  go_enter Try.func8, Try.ntmps8
  go_wp2_with fail
  refine M.out.mono ?_
  rintro e w1 ⟨rfl, b1⟩
  have B1 := Lib.hid b1
  clear b1
  go_wp2_with fail
  refine (CN.out _ B1.out).mono ?_
  rintro e w2 ⟨rfl, b2⟩
  have B0 := Lib.hid (bt B1.out b2)
  clear b2 B1
  go_wp2
  go_loopw [5, 21] (fun o i wr => ∃ k : Nat, k ≤ n ∧ i = .int .i64 (k : Int) ∧ Hid (OwnI wr w.heap.size o (allI (c.take k))) ∧ Hid (Below w.heap.size w wr)) (fun _ i _ => n - (intOf i).toNat)
  case atStart => exact ⟨0, by omega, rfl, Lib.hid (O0.out _), B0⟩
  case round =>
    clear O0 B0
    obtain ⟨k, hk, rfl, hown, hbel⟩ := hrel
    by_cases hkn : k < n
    · have q1 : decide (k < n) = true := by simpa using hkn
      have q2 : (0 : Int) ≤ (k : Int) := by omega
      have q3 : (k : Int) < (n : Int) := by omega
      have hkl : k < c.length := by rw [← HN.out]; exact hkn
      obtain ⟨b1, o1, u, rfl, hb1, ha0, ha1, -, hsp⟩ := (HV.out.keeps hbel.out).at k hkl
      have hs := tm_take_snoc c k hkl
      have hts := allI_snoc (c.take k) (c.getD k ztm)
      rw [← hs] at hts
      have hle := allI_take_le c (k + 1)
      rw [hts, List.length_append] at hle
      have hok := up_all HC.out _ (tm_mem hkl)
      obtain ⟨x, hx⟩ : ∃ x, x = c.getD k ztm := ⟨_, rfl⟩
      have hx' : c.getD k (0, []) = x := hx.symm
      rw [hx'] at ha0 hsp
      rw [← hx] at hts hle hok
      obtain ⟨xr, xs⟩ := x
      simp only at ha0 hsp hts hle hok
      obtain ⟨so, sc, rfl⟩ := hsp.shape
      have HOK : Hid (∀ y ∈ xs, Ok y) := ((mayB_iff _).1 hok.2.2.2).1.all
      have hx8 : xr < 8 := hok.2.1
      obtain ⟨wo, rfl⟩ : ∃ wo : World, wo = wr := ⟨_, rfl⟩
      obtain ⟨P, hP⟩ : ∃ P, P = allI (c.take k) := ⟨_, rfl⟩
      rw [← hP] at hown hts hle
      have HTS := Lib.hid hts
      have HLE : Hid (P.length + (spI xr xs).length ≤ 1024) := by show _ ≤ _; have := HL.out; omega
      obtain ⟨sl, hsl⟩ : ∃ sl, sl = xs.length := ⟨_, rfl⟩
      have HSL := Lib.hid hsl
      have HSP := Lib.hid hsp
      rw [← hsl] at ha1 HSP
      have hslm : sl ≤ 1024 := by rw [hsl]; exact ((mayB_iff _).1 hok.2.2.2).2
      have BX1 : Hid (Below wo.heap.size wo (wo.alloc (.cells #[.int .u8 (xr : Int), .slice so sl sc] 50))) := (Below.refl _ _).alloc (Nat.le_refl _) _
      have K7 : Hid ((wo.alloc (.cells #[.int .u8 (xr : Int), .slice so sl sc] 50)).heap[wo.heap.size]? = some (.cells #[.int .u8 (xr : Int), .slice so sl sc] 50)) := kb_new rfl
      have O1 : Hid (OwnI (wo.alloc (.cells #[.int .u8 (xr : Int), .slice so sl sc] 50)) w.heap.size u5 (P ++ spI xr (xs.take 0))) := by
        show OwnI _ _ _ _
        rw [List.take_zero]
        have := own_stays (show wo.ownsRow _ _ _ _ _ _ from hown.out) BX1.out
        simpa [spI, OwnI] using this
      have BB1 := Lib.hid (bt hbel.out BX1.out)
      have HSP1 := Lib.hid (HSP.out.keeps BX1.out)
      have SPW : Hid (∀ W : World, Below w.heap.size w W → ∀ i, i < sl → ∃ b off, so = some ⟨b, off, none⟩ ∧ W.cell? ⟨b, off + i * 2, none⟩ = some (.int .u32 ((xs.getD i zsp).f : Int)) ∧ W.cell? ⟨b, off + i * 2 + 1, none⟩ = some (.int .u32 ((xs.getD i zsp).t : Int))) := fun W hW i hi => by
        obtain ⟨b9, o9, u9, h9, -, -, hz1, -, hsp9⟩ := (HV.out.keeps hW).at k hkl
        have e9 : u9 = .slice so sl sc := by
          obtain ⟨b8, o8, u8, h8, hb8, -, hz8, -, -⟩ := HV.out.at k hkl
          rw [h8] at h9
          obtain ⟨rfl, rfl⟩ : b8 = b9 ∧ o8 = o9 := by simpa using h9
          have z1 := (hW.cell (p := ⟨b8, o8 + k * 2 + 1, none⟩) hb8).trans hz8
          have z2 := (hbel.out.cell (p := ⟨b8, o8 + k * 2 + 1, none⟩) hb8).trans hz8
          obtain ⟨rfl, rfl⟩ : b1 = b8 ∧ o1 = o8 := by simpa using h8
          rw [ha1] at z2
          rw [hz1] at z1
          exact (Option.some.inj (z1.trans z2.symm))
        subst e9
        rw [hx'] at hsp9
        obtain ⟨b, off, h1, _, h2, h3⟩ := hsp9.at i (by show i < xs.length; omega)
        exact ⟨b, off, h1, h2, h3⟩
      clear hx hx' hs hts hle hok hP hsl hown hsp hbel BX1 HSP1 HSP
      go_wp2
      go_loopw [5, 28] (fun o j wr => ∃ i : Nat, i ≤ sl ∧ j = .int .i64 (i : Int) ∧ Hid (OwnI wr w.heap.size o (P ++ spI xr (xs.take i))) ∧ Hid (wr.heap[wo.heap.size]? = some (.cells #[.int .u8 (xr : Int), .slice so sl sc] 50)) ∧ Hid (Below w.heap.size w wr)) (fun _ j _ => sl - (intOf j).toNat)
      case atStart => exact ⟨0, by omega, rfl, O1, K7, BB1⟩
      case round =>
        clear O1 BB1 K7 ha0 ha1
        obtain ⟨i, hi, rfl, hown, hK7, hbel2⟩ := hrel
        obtain ⟨w2, rfl⟩ : ∃ w2 : World, w2 = wr := ⟨_, rfl⟩
        by_cases his : i < sl
        · have p1 : decide (i < sl) = true := by simpa using his
          have p2 : (0 : Int) ≤ (i : Int) := by omega
          have p3 : (i : Int) < (sl : Int) := by omega
          obtain ⟨b2, o2, rfl, hc0, hc1⟩ := SPW.out w2 hbel2.out i his
          have hss := take_snoc xs i (by rw [← HSL.out]; exact his)
          have htt := spI_snoc xr (xs.take i) (xs.getD i zsp)
          rw [← hss] at htt
          have hle2 := spI_take_le xr xs (i + 1)
          rw [htt, List.length_append, runI_len] at hle2
          have hzo : Ok (xs.getD i zsp) := HOK.out _ (by rw [List.getD, List.getElem?_eq_getElem (by rw [← HSL.out]; exact his)]; exact List.getElem_mem _)
          obtain ⟨z, hz⟩ : ∃ z, z = xs.getD i zsp := ⟨_, rfl⟩
          rw [← hz] at hc0 hc1 htt hle2 hzo
          obtain ⟨f, t, hf, ht⟩ := z
          unfold Ok at hzo
          simp only at hc0 hc1 htt hle2 hzo
          obtain ⟨z1, z2, z3⟩ := hzo
          obtain ⟨Q, hQ⟩ : ∃ Q, Q = P ++ spI xr (xs.take i) := ⟨_, rfl⟩
          rw [← hQ] at hown
          have HTT : Hid (P ++ spI xr (xs.take (i + 1)) = Q ++ runI xr f (t + 1 - f)) := by show _ = _; rw [htt, hQ, List.append_assoc]
          have HQL : Hid (Q.length + (t + 1 - f) ≤ 1024) := by show _ ≤ _; rw [hQ, List.length_append]; have := HLE.out; omega
          have BX2 : Hid (Below w2.heap.size w2 (w2.alloc (.cells #[.int .u32 (f : Int), .int .u32 (t : Int)] 53))) := (Below.refl _ _).alloc (Nat.le_refl _) _
          have K9 : Hid ((w2.alloc (.cells #[.int .u32 (f : Int), .int .u32 (t : Int)] 53)).heap[w2.heap.size]? = some (.cells #[.int .u32 (f : Int), .int .u32 (t : Int)] 53)) := kb_new rfl
          have K72 : Hid ((w2.alloc (.cells #[.int .u32 (f : Int), .int .u32 (t : Int)] 53)).heap[wo.heap.size]? = some (.cells #[.int .u8 (xr : Int), .slice (some ⟨b2, o2, none⟩) sl sc] 50)) := kb_old hK7.out
          have O2 : Hid (OwnI (w2.alloc (.cells #[.int .u32 (f : Int), .int .u32 (t : Int)] 53)) w.heap.size u5 (Q ++ runI xr f (f - f))) := by
            show OwnI _ _ _ _
            rw [Nat.sub_self]
            have := own_stays (show w2.ownsRow _ _ _ _ _ _ from hown.out) BX2.out
            simpa [runI, OwnI] using this
          have BB2 := Lib.hid (bt hbel2.out BX2.out)
          clear hz hss htt hle2 hQ hown BX2 hK7
          go_wp2
          go_loopw [5, 10] (fun o q wr => ∃ e : Nat, f ≤ e ∧ e ≤ t + 1 ∧ q = .int .u32 (e : Int) ∧ Hid (OwnI wr w.heap.size o (Q ++ runI xr f (e - f))) ∧ Hid (wr.heap[wo.heap.size]? = some (.cells #[.int .u8 (xr : Int), .slice (some ⟨b2, o2, none⟩) sl sc] 50)) ∧ Hid (wr.heap[w2.heap.size]? = some (.cells #[.int .u32 (f : Int), .int .u32 (t : Int)] 53)) ∧ Hid (Below w.heap.size w wr)) (fun _ q _ => t + 1 - (intOf q).toNat)
          case atStart => exact ⟨f, by omega, by omega, rfl, O2, K72, K9, BB2⟩
          case round =>
            clear O2 K72 K9 BB2 hc0 hc1
            obtain ⟨e, he1, he2, rfl, hown, hK7, hK9, hbel3⟩ := hrel
            obtain ⟨w3, rfl⟩ : ∃ w3 : World, w3 = wr := ⟨_, rfl⟩
            obtain ⟨ha0, ha1⟩ := two_blk hK7.out
            obtain ⟨d0, d1⟩ := two_blk hK9.out
            by_cases het : e ≤ t
            · have t1 : decide ((e : Int) ≤ (t : Int)) = true := decide_eq_true (by omega)
              have t2 : decide (e ≤ t) = true := decide_eq_true het
              have hrun := runI_snoc xr (e - f) f
              rw [show f + (e - f) = e by omega] at hrun
              have hlen : (Q ++ runI xr f (e - f)).length = Q.length + (e - f) := by rw [List.length_append, runI_len]
              obtain ⟨M, hM⟩ : ∃ M, M = Q ++ runI xr f (e - f) := ⟨_, rfl⟩
              rw [← hM] at hown hlen
              have HR : Hid (Q ++ runI xr f (e + 1 - f) = M ++ [idOf xr e]) := by show _ = _; rw [show e + 1 - f = e - f + 1 by omega, hrun, hM, List.append_assoc]
              have hML : M.length ≤ 1024 := by have := HQL.out; omega
              have SE : Hid (Sees (w3.alloc (.cells #[.int .u32 (e : Int), .int .u8 (xr : Int)] 25)) (.slice (some ⟨w3.heap.size, 0, none⟩) 1 1) 2 1 (ids [idOf xr e])) := by
                have h := sees_new w3 (ids [idOf xr e]) 2 1 rfl (by omega) 25 (0, 0)
                rw [ids_one, idOf_t (by omega), idOf_r (by omega)] at h
                show Sees _ _ _ _ (ids [idOf xr e])
                rw [ids_one, idOf_t (by omega), idOf_r (by omega)]
                exact h
              have BX := Lib.hid ((Below.refl w3.heap.size w3).alloc (Nat.le_refl _) (.cells #[.int .u32 (e : Int), .int .u8 (xr : Int)] 25))
              have OX := Lib.hid (own_stays (show w3.ownsRow _ _ _ _ _ _ from hown.out) BX.out)
              have KX7 : Hid ((w3.alloc (.cells #[.int .u32 (e : Int), .int .u8 (xr : Int)] 25)).heap[wo.heap.size]? = some (.cells #[.int .u8 (xr : Int), .slice (some ⟨b2, o2, none⟩) sl sc] 50)) := kb_old hK7.out
              have KX9 : Hid ((w3.alloc (.cells #[.int .u32 (e : Int), .int .u8 (xr : Int)] 25)).heap[w2.heap.size]? = some (.cells #[.int .u32 (f : Int), .int .u32 (t : Int)] 53)) := kb_old hK9.out
              have hsz3 := hbel3.out.size
              have eT : IntKind.u32.wrap ((e : Int) + 1) = (e : Int) + 1 := by rw [IntKind.wrap_u32]; omega
              obtain ⟨oo, oc, rfl⟩ := Sees.shape (Sees.own (show w3.ownsRow _ _ _ _ _ _ from hown.out))
              obtain ⟨ml, hml⟩ : ∃ ml, ml = M.length := ⟨_, rfl⟩
              rw [← hml] at OX hML ⊢
              have HMLl := Lib.hid hml
              clear hrun hlen hM hown hml hK7 hK9
              go_wp2_with (at_builtin; refine wpList_append_sees rfl (.tmp 40) (.tmp 45) 26 25 rfl Try.underlying26 id_info rfl (by decide) w.heap.size _ ml (ids M) rfl OX.out _ 1 _ rfl SE.out (ids_oneCell _) ?a1 ?a2 ?a3 ?_)
              case a1 => omega
              case a2 => omega
              case a3 => exact Nat.le_trans hsz3 BX.out.size
              rintro v5 w5 o5 g5 b5
              have O5 : Hid (OwnI w5 w.heap.size v5 (Q ++ runI xr f (e + 1 - f))) := by
                show World.ownsRow _ _ _ _ _ _ _
                rw [HR.out, ids_append, List.length_append, ← HMLl.out]
                exact o5
              have K75 := Lib.hid (box_grown OX.out g5 KX7.out (by decide))
              have K95 := Lib.hid (box_grown OX.out g5 KX9.out (by decide))
              have B5 := Lib.hid ((hbel3.out.trans (BX.out.mono hsz3)).trans b5)
              clear o5 g5 b5 OX SE BX KX7 KX9
              go_wp2
              go_roundw
              case rel => exact ⟨e + 1, by omega, by omega, by go_num, O5, K75, K95, B5⟩
              case measure => simp [intOf]; omega
            · obtain rfl : e = t + 1 := by omega
              have t1 : decide (((t + 1 : Nat) : Int) ≤ (t : Int)) = false := decide_eq_false (by omega)
              have t1' : decide ((t : Int) + 1 ≤ (t : Int)) = false := decide_eq_false (by omega)
              have t2 : decide (t + 1 ≤ t) = false := decide_eq_false (by omega)
              have O6 : Hid (OwnI w3 w.heap.size u5 (P ++ spI xr (xs.take (i + 1)))) := by show OwnI _ _ _ _; rw [HTT.out]; exact hown.out
              clear hown
              go_wp2
              go_roundw
              case rel => exact ⟨i + 1, by omega, by go_num, O6, hK7, hbel3⟩
              case measure => simp [intOf]; omega
        · have p1 : decide (i < sl) = false := by simpa using his
          have hkk : xs.take i = xs := List.take_of_length_le (by have := HSL.out; omega)
          have HY3 : Hid (OwnI w2 w.heap.size u5 (allI (c.take (k + 1)))) := by show OwnI _ _ _ _; rw [HTS.out]; have := hown.out; rwa [hkk] at this
          clear hkk hown
          go_wp2
          go_roundw
          case rel => exact ⟨k + 1, by omega, by go_num, HY3, hbel2⟩
          case measure => simp [intOf]; omega
    · have q1 : decide (k < n) = false := by simpa using hkn
      have hkk : c.take k = c := List.take_of_length_le (by have := HN.out; omega)
      rw [hkk, ← HLL.out] at hown
      clear hkk
      obtain ⟨oo, oc, rfl⟩ := Sees.shape (Sees.own (show wr.ownsRow _ _ _ _ _ _ from hown.out))
      go_wp2
      go_ret2
      exact ⟨_, rfl, hown.out, hbel.out⟩
end Go.Proofs.Ytmgdbgloacbacaa.Clocks

/- Runs of stamps (places), and slices of them: what a slice value holds. Conditions: none. -/
namespace Go.Proofs.Ytmgdbgloacbacaa
open Go.RowKit Go.WideShapes

/-- A run: a time, a replica, how many. -/
structure Run where
  t : Nat
  r : Nat
  m : Int
  ht : t < 4294967296
  hr : r < 256
  hm : -9223372036854775808 ≤ m ∧ m ≤ 9223372036854775807
theorem Run.ext' {a b : Run} (h1 : a.t = b.t) (h2 : a.r = b.r) (h3 : a.m = b.m) : a = b := by
  obtain ⟨t, r, m, _, _, _⟩ := a; obtain ⟨u, s, n, _, _, _⟩ := b
  simp only at h1 h2 h3
  subst h1 h2 h3
  rfl
theorem Run.eq_iff {a b : Run} : a = b ↔ a.t = b.t ∧ a.r = b.r ∧ a.m = b.m := ⟨fun h => by rw [h]; exact ⟨rfl, rfl, rfl⟩, fun h => Run.ext' h.1 h.2.1 h.2.2⟩
instance : DecidableEq Run := fun a b => if h : a.t = b.t ∧ a.r = b.r ∧ a.m = b.m then isTrue (Run.eq_iff.2 h) else isFalse (fun e => h (Run.eq_iff.1 e))
def zrun : Run := ⟨0, 0, 0, by decide, by decide, by decide⟩
/-- Runs as cells. -/
def runs : List Run → List Value
  | [] => []
  | a :: l => .int .u32 (a.t : Int) :: .int .u8 (a.r : Int) :: .int .i64 a.m :: runs l
theorem runs_len : ∀ l : List Run, (runs l).length = l.length * 3
  | [] => rfl
  | a :: l => by simp [runs, runs_len l]; omega
theorem runs_append : ∀ l m : List Run, runs (l ++ m) = runs l ++ runs m
  | [], m => rfl
  | a :: l, m => by simp [runs, runs_append l m]
theorem runs_get : ∀ (l : List Run) (j : Nat), j < l.length → (runs l)[j * 3]? = some (.int .u32 ((l.getD j zrun).t : Int)) ∧ (runs l)[j * 3 + 1]? = some (.int .u8 ((l.getD j zrun).r : Int)) ∧ (runs l)[j * 3 + 2]? = some (.int .i64 (l.getD j zrun).m)
  | [], j, h => by simp at h
  | a :: l, 0, _ => by simp [runs]
  | a :: l, j + 1, h => by
    have := runs_get l j (by simpa using h)
    rw [show (j + 1) * 3 = j * 3 + 1 + 1 + 1 by omega]
    simpa [runs] using this
theorem runs_oneCell : ∀ l : List Run, ∀ u ∈ runs l, u.oneCell' = true
  | [], u, h => by simp [runs] at h
  | a :: l, u, h => by
    simp only [runs, List.mem_cons] at h
    rcases h with rfl | rfl | rfl | h
    · rfl
    · rfl
    · rfl
    · exact runs_oneCell l u h
/-- The cells from a run on. -/
theorem runs_drop : ∀ (l : List Run) (k : Nat), runs (l.drop k) = (runs l).drop (k * 3)
  | l, 0 => by simp
  | [], k + 1 => by simp [runs]
  | a :: l, k + 1 => by
    rw [List.drop_succ_cons, runs_drop l k, show (k + 1) * 3 = k * 3 + 1 + 1 + 1 by omega]
    simp [runs]
/-- A slice of runs. -/
def Runs (w : World) (v : Value) (l : List Run) : Prop := Sees w v 3 l.length (runs l)
theorem Runs.keeps {w w' : World} {v : Value} {l : List Run} (h : Runs w v l) (hb : Below w.heap.size w w') : Runs w' v l := Sees.keeps h hb
theorem Runs.nil (w : World) : Runs w (.slice none 0 0) [] := Sees.nil w 3
theorem Runs.shape {w : World} {v : Value} {l : List Run} (h : Runs w v l) : ∃ ao cap, v = .slice ao l.length cap := Sees.shape h
theorem Runs.at {w : World} {ao : Option Addr} {m cap : Nat} {l : List Run} (h : Runs w (.slice ao m cap) l) (k : Nat) (hk : k < l.length) :
    ∃ b off, ao = some ⟨b, off, none⟩ ∧ b < w.heap.size ∧ w.cell? ⟨b, off + k * 3, none⟩ = some (.int .u32 ((l.getD k zrun).t : Int)) ∧ w.cell? ⟨b, off + k * 3 + 1, none⟩ = some (.int .u8 ((l.getD k zrun).r : Int)) ∧ w.cell? ⟨b, off + k * 3 + 2, none⟩ = some (.int .i64 (l.getD k zrun).m) := by
  obtain ⟨b, off, h1, h2, h3⟩ := Sees.at h (k * 3) (by rw [runs_len]; omega)
  have e := runs_get l k hk
  exact ⟨b, off, h1, h2, (h3 (k * 3) (by rw [runs_len]; omega)).trans e.1, (h3 (k * 3 + 1) (by rw [runs_len]; omega)).trans e.2.1, (h3 (k * 3 + 2) (by rw [runs_len]; omega)).trans e.2.2⟩
theorem Runs.own {w : World} {base : Nat} {e : TypeId} {v : Value} {n : Nat} {l : List Run} (h : w.ownsRow base e 3 v n (runs l)) : Runs w v l := by
  have h1 := h.1
  rw [runs_len] at h1
  obtain rfl : l.length = n := by omega
  exact Sees.own h
theorem runs_new (w : World) (l : List Run) (n : Nat) (hn : n = l.length) (hl : l.length ≤ 1000000) (e : TypeId) (fr : Nat × Nat) : Runs (w.alloc (.cells (runs l).toArray e fr)) (.slice (some ⟨w.heap.size, 0, none⟩) n n) l := by
  subst hn
  exact sees_new w (runs l) 3 l.length (runs_len l) hl _ _
/-- What is behind the first runs. -/
theorem Runs.tail {w : World} {b off n cap k : Nat} {l : List Run} (h : Runs w (.slice (some ⟨b, off, none⟩) n cap) l) (hk : k ≤ l.length) : Runs w (.slice (some ⟨b, off + k * 3, none⟩) (n - k) (cap - k)) (l.drop k) := by
  obtain ⟨h1, ao, cap', he, h2, h3, h4, h5⟩ := h
  simp only [Value.slice.injEq] at he
  obtain ⟨rfl, rfl, rfl⟩ := he
  refine ⟨by rw [runs_len], some ⟨b, off + k * 3, none⟩, cap - k, by rw [List.length_drop], by rw [List.length_drop]; omega, by omega, by simp, ?_⟩
  rw [runs_drop]
  rcases h5 with h5 | ⟨b', off', he, hb, hc⟩
  · left; rw [h5]; simp
  · right
    simp only [Option.some.injEq, Addr.mk.injEq] at he
    obtain ⟨rfl, rfl, _⟩ := he
    refine ⟨b, off + k * 3, rfl, hb, fun j u hj => ?_⟩
    rw [List.getElem?_drop] at hj
    rw [show off + k * 3 + j = off + (k * 3 + j) by omega]
    exact hc _ _ hj

/-- A block whose first three cells are these. -/
def Tri (w : World) (h : Nat) (c0 c1 c2 : Value) : Prop := h < w.heap.size ∧ w.cell? ⟨h, 0, none⟩ = some c0 ∧ w.cell? ⟨h, 1, none⟩ = some c1 ∧ w.cell? ⟨h, 2, none⟩ = some c2
theorem Tri.keeps {w w' : World} {h : Nat} {c0 c1 c2 : Value} (p : Tri w h c0 c1 c2) (hb : Below w.heap.size w w') : Tri w' h c0 c1 c2 :=
  ⟨Nat.lt_of_lt_of_le p.1 hb.size, (hb.cell (p := ⟨h, 0, none⟩) p.1).trans p.2.1, (hb.cell (p := ⟨h, 1, none⟩) p.1).trans p.2.2.1, (hb.cell (p := ⟨h, 2, none⟩) p.1).trans p.2.2.2⟩
theorem tri_new (w : World) (c0 c1 c2 : Value) (e : TypeId) : Tri (w.alloc (.cells #[c0, c1, c2] e)) w.heap.size c0 c1 c2 :=
  ⟨by simp, cell_of_row _ w.heap.size 0 #[c0, c1, c2] e _ (heap_alloc_new w _), cell_of_row _ w.heap.size 1 #[c0, c1, c2] e _ (heap_alloc_new w _), cell_of_row _ w.heap.size 2 #[c0, c1, c2] e _ (heap_alloc_new w _)⟩
end Go.Proofs.Ytmgdbgloacbacaa

/- Stamps: which may be, which is less, the next one. Conditions: none. -/
namespace Go.Proofs.Ytmgdbgloacbacaa.Stamp

/-- May it be? -/
def may (t r : Nat) : Bool := decide (1 ≤ t ∧ t ≤ 1073741824 ∧ r < 8)
theorem may_iff {t r : Nat} : may t r = true ↔ 1 ≤ t ∧ t ≤ 1073741824 ∧ r < 8 := by simp [may]
theorem may_no {t r : Nat} : may t r = false ↔ ¬ (1 ≤ t ∧ t ≤ 1073741824 ∧ r < 8) := by simp only [may, decide_eq_false_iff_not]
def chk (t r : Nat) : Int := if may t r = true then 0 else 8
/-- Is one less? -/
def less (t r u s : Nat) : Bool := decide (t < u ∨ t = u ∧ r < s)
theorem less_iff {t r u s : Nat} : less t r u s = true ↔ t < u ∨ t = u ∧ r < s := by simp [less]
theorem less_no {t r u s : Nat} : less t r u s = false ↔ ¬ (t < u ∨ t = u ∧ r < s) := by simp only [less, decide_eq_false_iff_not]

/-- The greatest time. -/
def top : List Id → Nat
  | [] => 0
  | a :: l => max a.t (top l)
theorem top_append : ∀ l m : List Id, top (l ++ m) = max (top l) (top m)
  | [], m => by simp [top]
  | a :: l, m => by simp only [List.cons_append, top, top_append l m]; omega
theorem top_take (l : List Id) (k : Nat) (h : k < l.length) : top (l.take (k + 1)) = max (top (l.take k)) (l.getD k zid).t := by
  rw [List.take_succ_eq_append_getElem h, top_append]
  simp [top, List.getD, List.getElem?_eq_getElem h]
theorem top_le : ∀ (l : List Id) (k : Nat), k < l.length → (l.getD k zid).t ≤ top l
  | [], k, h => by simp at h
  | a :: l, 0, _ => by simp [top]; omega
  | a :: l, k + 1, h => by
    have := top_le l k (by simpa using h)
    simp [top] at this ⊢
    omega
theorem top_is : ∀ (l : List Id), top l ≠ 0 → ∃ k, k < l.length ∧ (l.getD k zid).t = top l
  | [], h => by simp [top] at h
  | a :: l, h => by
    by_cases h1 : top l ≤ a.t
    · exact ⟨0, by simp, by simp [top]; omega⟩
    · obtain ⟨k, h2, h3⟩ := top_is l (by omega)
      exact ⟨k + 1, by simpa using h2, by simp [top] at h3 ⊢; omega⟩
/-- The zero stamp, or one that may be. -/
def fine (a : Id) : Prop := a = zid ∨ may a.t a.r = true
instance (a : Id) : Decidable (fine a) := inferInstanceAs (Decidable (_ ∨ _))
def Fine (l : List Id) : Prop := ∀ a ∈ l, fine a
instance (l : List Id) : Decidable (Fine l) := inferInstanceAs (Decidable (∀ a ∈ l, fine a))
theorem fine_lt {a : Id} (h : fine a) : a.t ≤ 1073741824 ∧ a.r < 8 := by
  rcases h with rfl | h
  · simp [zid]
  · exact ⟨(may_iff.1 h).2.1, (may_iff.1 h).2.2⟩
theorem top_fine : ∀ {l : List Id}, Fine l → top l ≤ 1073741824
  | [], _ => by simp [top]
  | a :: l, h => by
    have h1 := (fine_lt (h a (by simp))).1
    have h2 := top_fine (l := l) (fun b hb => h b (by simp [hb]))
    simp [top]; omega
theorem Fine.take_snoc {l : List Id} {k : Nat} (h : k < l.length) (h1 : Fine (l.take k)) (h2 : fine (l.getD k zid)) : Fine (l.take (k + 1)) := by
  intro a ha
  rw [List.take_succ_eq_append_getElem h, List.mem_append] at ha
  rcases ha with ha | ha
  · exact h1 a ha
  · simp only [List.mem_singleton] at ha
    subst ha
    simpa [List.getD, List.getElem?_eq_getElem h] using h2
theorem getD_mem (l : List Id) (k : Nat) (h : k < l.length) : l.getD k zid ∈ l := by
  simp [List.getD, List.getElem?_eq_getElem h]
/-- The next one, and the error. -/
def next (r : Nat) (l : List Id) : Nat × Nat × Int :=
  if 1024 < l.length then (0, 0, 4) else if 8 ≤ r then (0, 0, 8) else if ¬ Fine l then (0, 0, 8) else if top l = 1073741824 then (0, 0, 50) else (top l + 1, r, 0)
theorem next_many {r : Nat} {l : List Id} (h : 1024 < l.length) : next r l = (0, 0, 4) := by simp [next, h]
theorem next_r {r : Nat} {l : List Id} (h : ¬ 1024 < l.length) (h2 : 8 ≤ r) : next r l = (0, 0, 8) := by simp [next, h, h2]
theorem next_bad {r : Nat} {l : List Id} (h : ¬ 1024 < l.length) (h2 : ¬ Fine l) : next r l = (0, 0, 8) := by simp [next, h, h2]
theorem next_time {r : Nat} {l : List Id} (h : ¬ 1024 < l.length) (h1 : ¬ 8 ≤ r) (h2 : Fine l) (h3 : top l = 1073741824) : next r l = (0, 0, 50) := by simp [next, h, h1, h2, h3]
theorem next_ok {r : Nat} {l : List Id} (h : ¬ 1024 < l.length) (h1 : ¬ 8 ≤ r) (h2 : Fine l) (h3 : top l ≠ 1073741824) : next r l = (top l + 1, r, 0) := by simp [next, h, h1, h2, h3]
/-- The next one as a value, with the error. -/
def nextv (r : Nat) (l : List Id) : Value := .tuple #[.agg #[.int .u32 ((next r l).1 : Int), .int .u8 ((next r l).2.1 : Int)], .int .i64 (next r l).2.2]
end Go.Proofs.Ytmgdbgloacbacaa.Stamp

/- Places: which may be, their stamps, how two are held against each other, in plain words. Conditions: none. -/
namespace Go.Proofs.Ytmgdbgloacbacaa.Place
open Stamp

/-- A stamp of two numbers, whatever they are. -/
def mk (t r : Nat) : Id := ⟨t % 4294967296, r % 256, Nat.mod_lt _ (by decide), Nat.mod_lt _ (by decide)⟩
theorem mk_t {t r : Nat} (h : t < 4294967296) : (mk t r).t = t := Nat.mod_eq_of_lt h
theorem mk_r {t r : Nat} (h : r < 256) : (mk t r).r = r := Nat.mod_eq_of_lt h
/-- The stamps of a run: n of them from t on. -/
def up (t r : Nat) : Nat → List Id
  | 0 => []
  | n + 1 => mk t r :: up (t + 1) r n
/-- A place's stamps. -/
def all : List Run → List Id
  | [] => []
  | x :: p => up x.t x.r x.m.toNat ++ all p
theorem up_len : ∀ (t r n : Nat), (up t r n).length = n
  | _, _, 0 => rfl
  | t, r, n + 1 => by simp [up, up_len (t + 1) r n]
theorem up_add : ∀ (t r m n : Nat), up t r (m + n) = up t r m ++ up (t + m) r n
  | t, r, 0, n => by simp [up]
  | t, r, m + 1, n => by
    rw [show m + 1 + n = (m + n) + 1 by omega]
    simp only [up, List.cons_append]
    rw [up_add (t + 1) r m n, show t + 1 + m = t + (m + 1) by omega]
theorem up_get : ∀ (t r n k : Nat), k < n → (up t r n).getD k zid = mk (t + k) r
  | t, r, 0, k, h => by omega
  | t, r, n + 1, 0, _ => by simp [up]
  | t, r, n + 1, k + 1, h => by
    have := up_get (t + 1) r n k (by omega)
    rw [show t + 1 + k = t + (k + 1) by omega] at this
    simpa [up] using this
theorem all_append : ∀ p q : List Run, all (p ++ q) = all p ++ all q
  | [], q => rfl
  | x :: p, q => by simp [all, all_append p q]

/-- May a run be, by itself? Its last time is t + m - 1. -/
def One (x : Run) : Prop := 1 ≤ x.t ∧ x.t ≤ 1073741824 ∧ x.r < 8 ∧ 1 ≤ x.m ∧ x.m ≤ 4096 ∧ (x.t : Int) + x.m - 1 ≤ 1073741824
instance (x : Run) : Decidable (One x) := inferInstanceAs (Decidable (_ ∧ _))
def fin (x : Run) : Int := (x.t : Int) + x.m - 1
/-- May one stand right behind another one? -/
def Next (x y : Run) : Prop := fin x < (y.t : Int) ∧ (y.r = x.r → fin x + 1 < (y.t : Int))
instance (x y : Run) : Decidable (Next x y) := inferInstanceAs (Decidable (_ ∧ _))
/-- How many stamps. -/
def long : List Run → Int
  | [] => 0
  | x :: p => x.m + long p
/-- Runs that may be, one behind the other. -/
def Chain : List Run → Prop
  | [] => True
  | [x] => One x
  | x :: y :: p => One x ∧ Next x y ∧ Chain (y :: p)
theorem Chain.head {x : Run} {p : List Run} (h : Chain (x :: p)) : One x := by
  cases p with
  | nil => exact h
  | cons y p => exact h.1
theorem Chain.tail {x : Run} {p : List Run} (h : Chain (x :: p)) : Chain p := by
  cases p with
  | nil => trivial
  | cons y p => exact h.2.2
def May (p : List Run) : Prop := 1 ≤ p.length ∧ p.length ≤ 64 ∧ Chain p ∧ long p ≤ 4096
def Any (p : List Run) : Prop := p = [] ∨ May p
theorem Any.chain {p : List Run} (h : Any p) : Chain p := by
  rcases h with rfl | h
  · trivial
  · exact h.2.2.1

/-- Stamps held against each other. -/
def hold : List Id → List Id → Int
  | [], [] => 0
  | _ :: _, [] => 1
  | [], _ :: _ => -1
  | a :: l, b :: m => if a = b then hold l m else if less b.t b.r a.t a.r = true then -1 else 1
/-- Is one a beginning of another one? -/
def first : List Id → List Id → Bool
  | [], _ => true
  | _ :: _, [] => false
  | a :: l, b :: m => decide (a = b) && first l m

theorem less_total {a b : Id} (h : a ≠ b) : less b.t b.r a.t a.r = true ↔ ¬ less a.t a.r b.t b.r = true := by
  rw [less_iff, less_iff]
  have : ¬ (a.t = b.t ∧ a.r = b.r) := fun h2 => h (Id.ext' h2.1 h2.2)
  omega
theorem hold_eq : ∀ l m : List Id, hold l m = 0 ↔ l = m
  | [], [] => by simp [hold]
  | a :: l, [] => by simp [hold]
  | [], b :: m => by simp [hold]
  | a :: l, b :: m => by
    by_cases h : a = b
    · subst h; simp [hold, hold_eq l m]
    · by_cases h2 : less b.t b.r a.t a.r = true <;> simp [hold, h, h2]
theorem hold_range : ∀ l m : List Id, hold l m = -1 ∨ hold l m = 0 ∨ hold l m = 1
  | [], [] => by simp [hold]
  | a :: l, [] => by simp [hold]
  | [], b :: m => by simp [hold]
  | a :: l, b :: m => by
    by_cases h : a = b
    · subst h; simpa [hold] using hold_range l m
    · by_cases h2 : less b.t b.r a.t a.r = true <;> simp [hold, h, h2]
theorem hold_neg : ∀ l m : List Id, hold m l = - hold l m
  | [], [] => by simp [hold]
  | a :: l, [] => by simp [hold]
  | [], b :: m => by simp [hold]
  | a :: l, b :: m => by
    by_cases h : a = b
    · subst h; simpa [hold] using hold_neg l m
    · have h' : ¬ b = a := fun e => h e.symm
      have ht := less_total h
      by_cases h2 : less b.t b.r a.t a.r = true
      · have h3 := ht.1 h2
        simp [hold, h, h', h2, h3]
      · have h3 : less a.t a.r b.t b.r = true := by
          by_cases h3 : less a.t a.r b.t b.r = true
          · exact h3
          · exact absurd (ht.2 h3) h2
        simp [hold, h, h', h2, h3]
theorem less_trans {a b c : Id} (h1 : less b.t b.r a.t a.r = true) (h2 : less c.t c.r b.t b.r = true) : less c.t c.r a.t a.r = true := by
  rw [less_iff] at *; omega
theorem less_irrefl (a : Id) : ¬ less a.t a.r a.t a.r = true := by rw [less_iff]; omega
theorem hold_cons_neg {a b : Id} {l m : List Id} : hold (a :: l) (b :: m) = -1 ↔ (a = b ∧ hold l m = -1) ∨ less b.t b.r a.t a.r = true := by
  by_cases h : a = b
  · subst h
    have := less_irrefl a
    simp [hold, this]
  · by_cases h2 : less b.t b.r a.t a.r = true <;> simp [hold, h, h2]
theorem hold_trans : ∀ l m n : List Id, hold l m = -1 → hold m n = -1 → hold l n = -1
  | [], m, [], h1, h2 => by cases m <;> simp [hold] at h1 h2
  | [], m, c :: n, h1, h2 => by simp [hold]
  | a :: l, [], n, h1, h2 => by simp [hold] at h1
  | a :: l, b :: m, [], h1, h2 => by simp [hold] at h2
  | a :: l, b :: m, c :: n, h1, h2 => by
    rw [hold_cons_neg] at *
    rcases h1 with ⟨rfl, h1⟩ | h1 <;> rcases h2 with ⟨rfl, h2⟩ | h2
    · exact .inl ⟨rfl, hold_trans l m n h1 h2⟩
    · exact .inr h2
    · exact .inr h1
    · exact .inr (less_trans h1 h2)
theorem hold_app : ∀ p l m : List Id, hold (p ++ l) (p ++ m) = hold l m
  | [], l, m => rfl
  | a :: p, l, m => by simp [hold, hold_app p l m]
theorem first_iff : ∀ l m : List Id, first l m = true ↔ ∃ n, m = l ++ n
  | [], m => by simp [first]
  | a :: l, [] => by simp [first]
  | a :: l, b :: m => by
    simp only [first, Bool.and_eq_true, decide_eq_true_eq, first_iff l m, List.cons_append, List.cons.injEq]
    constructor
    · rintro ⟨rfl, n, rfl⟩; exact ⟨n, rfl, rfl⟩
    · rintro ⟨n, rfl, rfl⟩; exact ⟨rfl, n, rfl⟩
theorem first_app : ∀ p l m : List Id, first (p ++ l) (p ++ m) = first l m
  | [], l, m => rfl
  | a :: p, l, m => by simp [first, first_app p l m]
end Go.Proofs.Ytmgdbgloacbacaa.Place

/- Places: runs that are cut, one way of writing, a stamp behind, rising. Conditions: none. -/
namespace Go.Proofs.Ytmgdbgloacbacaa.Place
open Stamp

theorem One.nat {x : Run} (h : One x) : ∃ n : Nat, x.m = (n : Int) ∧ 1 ≤ n ∧ n ≤ 4096 ∧ x.m.toNat = n ∧ x.t + n ≤ 1073741825 := by
  obtain ⟨h1, h2, h3, h4, h5, h6⟩ := h
  exact ⟨x.m.toNat, by omega, by omega, by omega, rfl, by omega⟩
/-- A run made of numbers, whatever they are. -/
def mkRun (t r : Nat) (m : Int) : Run := ⟨t % 4294967296, r % 256, if -9223372036854775808 ≤ m ∧ m ≤ 9223372036854775807 then m else 0, Nat.mod_lt _ (by decide), Nat.mod_lt _ (by decide), by split <;> omega⟩
theorem mkRun_t {t r : Nat} {m : Int} (h : t < 4294967296) : (mkRun t r m).t = t := Nat.mod_eq_of_lt h
theorem mkRun_r {t r : Nat} {m : Int} (h : r < 256) : (mkRun t r m).r = r := Nat.mod_eq_of_lt h
theorem mkRun_m {t r : Nat} {m : Int} (h : -9223372036854775808 ≤ m ∧ m ≤ 9223372036854775807) : (mkRun t r m).m = m := if_pos h
/-- Runs without their first n stamps, of which the first run has so many, and more, or just as many. -/
def cut (x : Run) (p : List Run) (n : Nat) : List Run := if x.m = (n : Int) then p else mkRun (x.t + n) x.r (x.m - n) :: p
theorem all_cut {x : Run} {p : List Run} {n : Nat} (h : One x) (hn : (n : Int) ≤ x.m) : all (x :: p) = up x.t x.r n ++ all (cut x p n) := by
  obtain ⟨k, hk, h1, h2, h3, h4⟩ := h.nat
  have hxt := x.hr
  unfold cut
  by_cases he : x.m = (n : Int)
  · rw [if_pos he, all, h3, show k = n by omega]
  · rw [if_neg he, all, all, mkRun_t (by omega), mkRun_r hxt, mkRun_m (by omega), h3, ← List.append_assoc, show (x.m - (n : Int)).toNat = k - n by omega, ← up_add, show n + (k - n) = k by omega]
theorem One.cut {x : Run} {n : Nat} (h : One x) (hn : (n : Int) < x.m) : One (mkRun (x.t + n) x.r (x.m - n)) ∧ fin (mkRun (x.t + n) x.r (x.m - n)) = fin x := by
  obtain ⟨h1, h2, h3, h4, h5, h6⟩ := h
  have hxt := x.hr
  unfold One fin
  rw [mkRun_t (by omega), mkRun_r hxt, mkRun_m (by omega)]
  omega
theorem Chain.cut {x : Run} {p : List Run} {n : Nat} (h : Chain (x :: p)) (hn : (n : Int) ≤ x.m) : Chain (cut x p n) := by
  unfold Place.cut
  by_cases he : x.m = (n : Int)
  · rw [if_pos he]; exact h.tail
  · rw [if_neg he]
    have hc := h.head.cut (n := n) (by omega)
    cases p with
    | nil => exact hc.1
    | cons y p =>
      refine ⟨hc.1, ?_, h.2.2⟩
      have h2 := h.2.1
      unfold Next at h2 ⊢
      rw [hc.2, mkRun_r x.hr]
      exact h2
theorem all_cons {x : Run} {p : List Run} (h : One x) : ∃ l, all (x :: p) = ⟨x.t, x.r, x.ht, x.hr⟩ :: l := by
  obtain ⟨k, hk, h1, h2, h3, h4⟩ := h.nat
  obtain ⟨j, rfl⟩ : ∃ j, k = j + 1 := ⟨k - 1, by omega⟩
  refine ⟨up (x.t + 1) x.r j ++ all p, ?_⟩
  rw [all, h3, up]
  have : mk x.t x.r = ⟨x.t, x.r, x.ht, x.hr⟩ := Id.ext' (mk_t x.ht) (mk_r x.hr)
  rw [this]; rfl
theorem all_nil {p : List Run} (h : Chain p) : all p = [] ↔ p = [] := by
  cases p with
  | nil => simp [all]
  | cons x p =>
    obtain ⟨l, hl⟩ := all_cons (p := p) h.head
    simp [hl]
theorem hold_cut {x y : Run} {p q : List Run} (h1 : One x) (h2 : One y) (ht : x.t = y.t) (hr : x.r = y.r) {n : Nat} (hn : (n : Int) ≤ x.m) (hn2 : (n : Int) ≤ y.m) :
    hold (all (x :: p)) (all (y :: q)) = hold (all (cut x p n)) (all (cut y q n)) := by
  rw [all_cut h1 hn, all_cut h2 hn2, ht, hr, hold_app]
theorem first_cut {x y : Run} {p q : List Run} (h1 : One x) (h2 : One y) (ht : x.t = y.t) (hr : x.r = y.r) {n : Nat} (hn : (n : Int) ≤ x.m) (hn2 : (n : Int) ≤ y.m) :
    first (all (x :: p)) (all (y :: q)) = first (all (cut x p n)) (all (cut y q n)) := by
  rw [all_cut h1 hn, all_cut h2 hn2, ht, hr, first_app]
theorem hold_part {x y : Run} {p q : List Run} (h1 : One x) (h2 : One y) (h : ¬ (x.t = y.t ∧ x.r = y.r)) : hold (all (x :: p)) (all (y :: q)) = if less y.t y.r x.t x.r = true then -1 else 1 := by
  obtain ⟨l, hl⟩ := all_cons (p := p) h1
  obtain ⟨m, hm⟩ := all_cons (p := q) h2
  rw [hl, hm, hold, if_neg (by rw [Id.eq_iff]; exact h)]
theorem first_part {x y : Run} {p q : List Run} (h1 : One x) (h2 : One y) (h : ¬ (x.t = y.t ∧ x.r = y.r)) : first (all (x :: p)) (all (y :: q)) = false := by
  obtain ⟨l, hl⟩ := all_cons (p := p) h1
  obtain ⟨m, hm⟩ := all_cons (p := q) h2
  rw [hl, hm, first, decide_eq_false (by rw [Id.eq_iff]; exact h), Bool.false_and]
theorem hold_right {x : Run} {p : List Run} (h : One x) : hold (all (x :: p)) [] = 1 := by
  obtain ⟨l, hl⟩ := all_cons (p := p) h
  rw [hl]; rfl
theorem hold_left {x : Run} {p : List Run} (h : One x) : hold [] (all (x :: p)) = -1 := by
  obtain ⟨l, hl⟩ := all_cons (p := p) h
  rw [hl]; rfl
theorem first_right {x : Run} {p : List Run} (h : One x) : first (all (x :: p)) [] = false := by
  obtain ⟨l, hl⟩ := all_cons (p := p) h
  rw [hl]; rfl

/-- How many stamps, as a number. -/
theorem long_len : ∀ {p : List Run}, Chain p → ((all p).length : Int) = long p
  | [], _ => rfl
  | x :: p, h => by
    obtain ⟨k, hk, h1, h2, h3, h4⟩ := h.head.nat
    have := long_len h.tail
    rw [all, List.length_append, up_len, h3, long]
    omega

/-- Places are written in one way alone. -/
theorem all_inj : ∀ {p q : List Run}, Chain p → Chain q → all p = all q → p = q
  | [], q, _, h2, h => ((all_nil h2).1 h.symm).symm
  | x :: p, [], h1, _, h => (all_nil h1).1 h
  | x :: p, y :: q, h1, h2, h => by
    obtain ⟨l, hl⟩ := all_cons (p := p) h1.head
    obtain ⟨m, hm⟩ := all_cons (p := q) h2.head
    have hxy : x.t = y.t ∧ x.r = y.r := by
      rw [hl, hm] at h
      exact Id.eq_iff.1 (List.cons.inj h).1
    obtain ⟨j, hj, j1, j2, j3, j4⟩ := h1.head.nat
    obtain ⟨k, hk, k1, k2, k3, k4⟩ := h2.head.nat
    -- a run that is longer than the other one would go on where the other place must leave
    have key : ∀ {x y : Run} {p q : List Run}, Chain (x :: p) → Chain (y :: q) → all (x :: p) = all (y :: q) → x.t = y.t → x.r = y.r → ¬ x.m < y.m := by
      intro x y p q h1 h2 h ht hr hlt
      obtain ⟨j, hj, j1, j2, j3, j4⟩ := h1.head.nat
      rw [all_cut h1.head (n := j) (by omega), all_cut h2.head (n := j) (by omega), ht, hr] at h
      have h := List.append_cancel_left h
      unfold cut at h
      rw [if_pos hj, if_neg (by omega)] at h
      have hc := h2.head.cut (n := j) (by omega)
      obtain ⟨m, hm⟩ := all_cons (p := q) hc.1
      cases p with
      | nil => rw [hm] at h; simp [all] at h
      | cons z p =>
        obtain ⟨l, hl⟩ := all_cons (p := p) h1.tail.head
        rw [hl, hm] at h
        have hz := Id.eq_iff.1 (List.cons.inj h).1
        simp only at hz
        rw [mkRun_t (by have := h2.head.nat; omega), mkRun_r y.hr] at hz
        have hn := h1.2.1
        unfold Next fin at hn
        have := hn.2 (by omega)
        omega
    have hm : x.m = y.m := by
      have a := key h1 h2 h hxy.1 hxy.2
      have b := key h2 h1 h.symm hxy.1.symm hxy.2.symm
      omega
    have e : x = y := Run.ext' hxy.1 hxy.2 hm
    subst e
    rw [all, all] at h
    rw [all_inj h1.tail h2.tail (List.append_cancel_left h)]
theorem hold_same {p q : List Run} (h1 : Chain p) (h2 : Chain q) : hold (all p) (all q) = 0 ↔ p = q := by
  rw [hold_eq]
  exact ⟨all_inj h1 h2, fun h => by rw [h]⟩

/-- The last run, the last stamp. -/
def last (p : List Run) : Run := p.getLastD zrun
theorem last_cons (x : Run) (p : List Run) : last (x :: p) = if p = [] then x else last p := by
  cases p with
  | nil => rfl
  | cons y p => simp [last]
def lastT (p : List Run) : Int := fin (last p)
/-- Times rise: each is at most the last one; the stamps of a place are below what is behind. -/
theorem chain_le : ∀ {p : List Run}, Chain p → ∀ x ∈ p, fin x ≤ lastT p
  | [], _, x, hx => by simp at hx
  | [y], _, x, hx => by simp only [List.mem_singleton] at hx; subst hx; exact Int.le_refl _
  | y :: z :: p, h, x, hx => by
    have e : lastT (y :: z :: p) = lastT (z :: p) := by simp [lastT, last]
    rw [e]
    have ih := chain_le h.2.2
    rw [List.mem_cons] at hx
    rcases hx with rfl | hx
    · have h1 := ih z (by simp)
      have h2 := h.2.1.1
      have h3 := h.2.2.head
      unfold One at h3
      unfold fin at h1 h2 ⊢
      omega
    · exact ih x hx
theorem chain_append : ∀ {p q : List Run}, Chain p → Chain q → (∀ x y, p.getLast? = some x → q.head? = some y → Next x y) → Chain (p ++ q)
  | [], q, _, h, _ => h
  | [x], [], h, _, _ => h
  | [x], y :: q, h1, h2, h => ⟨h1, h x y rfl rfl, h2⟩
  | x :: y :: p, q, h1, h2, h => ⟨h1.1, h1.2.1, chain_append h1.2.2 h2 (fun a b ha hb => h a b (by simpa using ha) hb)⟩
end Go.Proofs.Ytmgdbgloacbacaa.Place

/- octavoref06: Twin, Same, SameIds, end, one, Long: what each answers. Conditions: the slices' cells are runs (stamps). -/
namespace Go.Proofs.Ytmgdbgloacbacaa.Place
open Go.RowKit Stamp
attribute [local go_sem ↓] Go.wp_at_zero Go.wp_at_succ

theorem runs_ne : ∀ {a b : List Run}, a.length = b.length → a ≠ b → ∃ k, k < a.length ∧ a.getD k zrun ≠ b.getD k zrun
  | [], [], _, h => absurd rfl h
  | x :: a, y :: b, hl, h => by
    by_cases hxy : x = y
    · subst hxy
      obtain ⟨k, h1, h2⟩ := runs_ne (a := a) (b := b) (by simpa using hl) (fun e => h (by rw [e]))
      exact ⟨k + 1, by simpa using h1, by simpa using h2⟩
    · exact ⟨0, by simp, by simpa using hxy⟩
  | [], _ :: _, hl, _ => by simp at hl
  | _ :: _, [], hl, _ => by simp at hl

end Go.Proofs.Ytmgdbgloacbacaa.Place

/- octavoref06: end, one, Long, Final: what each answers. Conditions: the slices' cells are runs; Long: the sums fit. -/
namespace Go.Proofs.Ytmgdbgloacbacaa.Place
open Go.RowKit Stamp
attribute [local go_sem ↓] Go.wp_at_zero Go.wp_at_succ

/-- May a run be, by itself, as a Bool. -/
def oneB (t r : Nat) (m : Int) : Bool := decide (1 ≤ t ∧ t ≤ 1073741824 ∧ r < 8 ∧ 1 ≤ m ∧ m ≤ 4096 ∧ (t : Int) + m - 1 ≤ 1073741824)
theorem oneB_iff (x : Run) : oneB x.t x.r x.m = true ↔ One x := by unfold oneB One; rw [decide_eq_true_iff]

theorem long_take (l : List Run) (k : Nat) (h : k < l.length) : long (l.take (k + 1)) = long (l.take k) + (l.getD k zrun).m := by
  have : ∀ (p q : List Run), long (p ++ q) = long p + long q := by
    intro p q
    induction p with
    | nil => simp [long]
    | cons x p ih => simp [long, ih]; omega
  rw [List.take_succ_eq_append_getElem h, this]
  simp [long, List.getD, List.getElem?_eq_getElem h]
/-- Runs each of which may be by itself. -/
def Ones (l : List Run) : Prop := ∀ k, k < l.length → 1 ≤ (l.getD k zrun).m ∧ (l.getD k zrun).m ≤ 4097

end Go.Proofs.Ytmgdbgloacbacaa.Place

/- octavoref06.May, Any, Check: what each answers. Conditions: the slice's cells are runs. -/
namespace Go.Proofs.Ytmgdbgloacbacaa.Place
open Go.RowKit Stamp
attribute [local go_sem ↓] Go.wp_at_zero Go.wp_at_succ
attribute [local go_sem] yielded_undef

def chainB : List Run → Bool
  | [] => true
  | [x] => decide (One x)
  | x :: y :: p => decide (One x) && (decide (Next x y) && chainB (y :: p))
theorem chainB_iff : ∀ p : List Run, chainB p = true ↔ Chain p
  | [] => by simp [chainB, Chain]
  | [x] => by simp [chainB, Chain]
  | x :: y :: p => by simp [chainB, Chain, chainB_iff (y :: p)]
def mayB (p : List Run) : Bool := decide (1 ≤ p.length) && (decide (p.length ≤ 64) && (chainB p && decide (long p ≤ 4096)))
theorem mayB_iff (p : List Run) : mayB p = true ↔ May p := by simp [mayB, May, chainB_iff]
theorem mayB_no {p : List Run} (h : ¬ May p) : mayB p = false := by
  cases hb : mayB p
  · rfl
  · exact absurd ((mayB_iff p).1 hb) h
theorem chain_one : ∀ {l : List Run} {k : Nat}, Chain l → k < l.length → One (l.getD k zrun)
  | [], k, _, h => by simp at h
  | x :: p, 0, h, _ => by simpa using h.head
  | x :: p, k + 1, h, hk => by simpa using chain_one (k := k) h.tail (by simpa using hk)
theorem chain_next : ∀ {l : List Run} {k : Nat}, Chain l → k + 1 < l.length → Next (l.getD k zrun) (l.getD (k + 1) zrun)
  | [], k, _, h => by simp at h
  | [x], k, _, h => by simp at h
  | x :: y :: p, 0, h, _ => by simpa using h.2.1
  | x :: y :: p, k + 1, h, hk => by simpa using chain_next (k := k) h.2.2 (by simpa using hk)
theorem take_last (l : List Run) (k : Nat) (h : k + 1 ≤ l.length) : (l.take (k + 1)).getLast? = some (l.getD k zrun) := by
  rw [List.take_succ_eq_append_getElem (by omega), List.getLast?_concat]
  simp [List.getD, List.getElem?_eq_getElem (show k < l.length by omega)]
theorem chain_take_one (l : List Run) (h : 0 < l.length) (h1 : One (l.getD 0 zrun)) : Chain (l.take (0 + 1)) := by
  cases l with
  | nil => simp at h
  | cons x p => show One x; simpa using h1
theorem chain_take_succ (l : List Run) (j : Nat) (h : j + 1 < l.length) (hc : Chain (l.take (j + 1))) (h1 : One (l.getD (j + 1) zrun)) (h2 : Next (l.getD j zrun) (l.getD (j + 1) zrun)) : Chain (l.take (j + 1 + 1)) := by
  rw [List.take_succ_eq_append_getElem h]
  have e : l[j + 1] = l.getD (j + 1) zrun := by simp [List.getD, List.getElem?_eq_getElem h]
  rw [e]
  refine chain_append hc h1 ?_
  intro x y hx hy
  rw [take_last l j (by omega)] at hx
  simp only [Option.some.injEq, List.head?_cons] at hx hy
  subst hx hy
  exact h2

theorem keep5 {wl w1 w2 : World} {b o1 o2 o3 o4 o5 : Nat} {c1 c2 c3 c4 c5 : Value} (q : b < wl.heap.size ∧ wl.cell? ⟨b, o1, none⟩ = some c1 ∧ wl.cell? ⟨b, o2, none⟩ = some c2 ∧ wl.cell? ⟨b, o3, none⟩ = some c3 ∧ wl.cell? ⟨b, o4, none⟩ = some c4 ∧ wl.cell? ⟨b, o5, none⟩ = some c5) (h : Below w1.heap.size w1 w2) (hb : Below wl.heap.size wl w1) :
    Below wl.heap.size wl w2 ∧ w2.cell? ⟨b, o1, none⟩ = some c1 ∧ w2.cell? ⟨b, o2, none⟩ = some c2 ∧ w2.cell? ⟨b, o3, none⟩ = some c3 ∧ w2.cell? ⟨b, o4, none⟩ = some c4 ∧ w2.cell? ⟨b, o5, none⟩ = some c5 :=
  have a := bt hb h
  ⟨a, (a.cell (p := ⟨b, o1, none⟩) q.1).trans q.2.1, (a.cell (p := ⟨b, o2, none⟩) q.1).trans q.2.2.1, (a.cell (p := ⟨b, o3, none⟩) q.1).trans q.2.2.2.1, (a.cell (p := ⟨b, o4, none⟩) q.1).trans q.2.2.2.2.1, (a.cell (p := ⟨b, o5, none⟩) q.1).trans q.2.2.2.2.2⟩

def anyB (l : List Run) : Bool := decide (l.length = 0) || mayB l
theorem anyB_iff (l : List Run) : anyB l = true ↔ Any l := by simp [anyB, Any, mayB_iff]
def chk (l : List Run) : Int := if mayB l = true then 0 else 8
end Go.Proofs.Ytmgdbgloacbacaa.Place

/- octavoref06.cut, Held, First: what each answers. Conditions: the slices' cells are runs that may stand one behind the other. -/
namespace Go.Proofs.Ytmgdbgloacbacaa.Place
open Go.RowKit Stamp
attribute [local go_sem ↓] Go.wp_at_zero Go.wp_at_succ

theorem own_blk3 {X : World} {base g : Nat} {e : TypeId} {c0 c1 c2 : Value} (hb : base ≤ g) (h : X.heap[g]? = some (.cells #[c0, c1, c2] e)) : X.ownsRow base e 3 (.slice (some ⟨g, 0, none⟩) 1 1) 1 [c0, c1, c2] :=
  ⟨rfl, .inr ⟨g, 1, #[c0, c1, c2], rfl, hb, h, Nat.le_refl _, by decide, rfl, rfl⟩⟩
theorem keep3 {wl w1 w2 : World} {b o1 o2 o3 : Nat} {c1 c2 c3 : Value} (q : b < wl.heap.size ∧ wl.cell? ⟨b, o1, none⟩ = some c1 ∧ wl.cell? ⟨b, o2, none⟩ = some c2 ∧ wl.cell? ⟨b, o3, none⟩ = some c3) (h : Below w1.heap.size w1 w2) (hb : Below wl.heap.size wl w1) :
    Below wl.heap.size wl w2 ∧ w2.cell? ⟨b, o1, none⟩ = some c1 ∧ w2.cell? ⟨b, o2, none⟩ = some c2 ∧ w2.cell? ⟨b, o3, none⟩ = some c3 :=
  have a := bt hb h
  ⟨a, (a.cell (p := ⟨b, o1, none⟩) q.1).trans q.2.1, (a.cell (p := ⟨b, o2, none⟩) q.1).trans q.2.2.1, (a.cell (p := ⟨b, o3, none⟩) q.1).trans q.2.2.2⟩

/-- What is behind the first run. -/
theorem Runs.rest {w : World} {b off n cap : Nat} {x : Run} {q : List Run} (h : Runs w (.slice (some ⟨b, off, none⟩) n cap) (x :: q)) : Runs w (.slice (some (if cap = 1 then ⟨b, off, none⟩ else ⟨b, off + 3, none⟩)) (n - 1) (cap - 1)) q := by
  have hcap := Sees.cap h
  by_cases hc : cap = 1
  · rw [if_pos hc]
    have hq : q = [] := by
      cases q with
      | nil => rfl
      | cons y q => simp at hcap; omega
    subst hq
    refine ⟨rfl, some ⟨b, off, none⟩, cap - 1, by simp at hcap; simp [hcap.1], by simp, by omega, by simp, .inl rfl⟩
  · rw [if_neg hc]
    have := Go.Proofs.Ytmgdbgloacbacaa.Runs.tail h (k := 1) (by simp)
    simpa using this

/-- A run's cells, in the midst of a block. -/
def Pos3 (w : World) (b off t r : Nat) (m : Int) : Prop := b < w.heap.size ∧ w.cell? ⟨b, off, none⟩ = some (.int .u32 (t : Int)) ∧ w.cell? ⟨b, off + 1, none⟩ = some (.int .u8 (r : Int)) ∧ w.cell? ⟨b, off + 2, none⟩ = some (.int .i64 m)

end Go.Proofs.Ytmgdbgloacbacaa.Place
