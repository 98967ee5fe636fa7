/- octavoref08: put, told, Both, Left, Join, Less, One, Add: what each answers. Conditions: the slices' cells are replicas' spans. -/
import Derived.Deep.DrawnRows
import Derived.Deep.RegionHeld3
import Derived.Test.YtpgdnenkjommfaaGreatPk10
import Derived.Test.YtpgdnenkjommfaaGreatPk09
import Derived.Test.YtpgdnenkjommfaaGreatPk07

namespace Go.Proofs.YtpgdnenkjommfaaGreat.Clocks
open Go.RowKit Go.Proofs.YtpgdnenkjommfaaGreat.Spans
attribute [local go_sem ↓] Go.wp_at_zero Go.wp_at_succ

/-- A replica's spans behind a clock, if there are any. -/
def putC (c : List Tm) (r : Nat) (l : List Sp) : List Tm := c ++ if l = [] then [] else [(r, l)]

set_option maxHeartbeats 1000000 in
theorem put_any {base : Nat} {v u : Value} {c : List Tm} {l : List Sp} {r : Nat} {w : World} (hv : OwnC w base v c) (hu : w.ownsRow base 89 2 u l.length (sps l)) (hr : r < 256) (hc : c.length ≤ 1000) (hl : l.length ≤ 1024) (hb : base ≤ w.heap.size) :
    Calls Tryz.prog 83 #[v, .int .u8 (r : Int), u] w fun e w' => ∃ v', e = .returned (.tuple #[v', .bool true]) ∧ OwnC w' base v' (putC c r l) ∧ Below base w w' := by
  obtain ⟨cs, hv1, hv2⟩ := hv
  obtain ⟨ao, cap, rfl⟩ := Sees.shape (Sees.own hv1)
  obtain ⟨so, sc, rfl⟩ := Sees.shape (Sees.own hu)
  obtain ⟨n, hn⟩ : ∃ n, n = c.length := ⟨_, rfl⟩
  obtain ⟨m, hm⟩ : ∃ m, m = l.length := ⟨_, rfl⟩
  rw [← hn] at hv1 hc ⊢
  rw [← hm] at hu hl ⊢
  have HV1 := Lib.hid hv1
  have HV2 := Lib.hid hv2
  have HU := Lib.hid hu
  have HN := Lib.hid hn
  have HM := Lib.hid hm
  have t3 : decide ((m : Int) ≤ 1024) = true := decide_eq_true (by omega)
  have t4 : decide (m ≤ 1024) = true := decide_eq_true hl
  clear hv1 hv2 hu
  by_cases h0 : m = 0
  · have hl0 : l = [] := List.length_eq_zero_iff.1 (by omega)
    have t1 : decide ((0 : Int) < (m : Int)) = false := decide_eq_false (by omega)
    have t2 : decide (0 < m) = false := decide_eq_false (by omega)
    have e : putC c r l = c := by unfold putC; rw [if_pos hl0, List.append_nil]
    rw [e]
    clear hl0 hm hn e
    go_enter Tryz.func83, Tryz.ntmps83
    go_wp2
    go_ret2
    exact ⟨_, rfl, ⟨cs, by rw [← HN.out]; exact HV1.out, HV2.out⟩, Below.refl _ _⟩
  · have hl0 : l ≠ [] := fun h => h0 (by rw [hm, h]; rfl)
    have t1 : decide ((0 : Int) < (m : Int)) = true := decide_eq_true (by omega)
    have t2 : decide (0 < m) = true := decide_eq_true (by omega)
    have e : putC c r l = c ++ [(r, l)] := by unfold putC; rw [if_neg hl0]
    rw [e]
    have hlen : (c ++ [(r, l)]).length = n + 1 := by simp [hn]
    have HLEN := Lib.hid hlen
    have XB := Lib.hid ((Below.refl w.heap.size w).alloc (Nat.le_refl _) (.cells #[.int .u8 (r : Int), .slice (some (so.getD ⟨0, 0, none⟩)) 0 0] 63))
    clear hl0 hm hn e hlen XB
    have SE : Hid (Sees (w.alloc (.cells #[.int .u8 (r : Int), .slice so m sc] 63)) (.slice (some ⟨w.heap.size, 0, none⟩) 1 1) 2 1 [.int .u8 (r : Int), .slice so m sc]) := sees_new w [.int .u8 (r : Int), .slice so m sc] 2 1 rfl (by omega) _ _
    have BX := Lib.hid ((Below.refl w.heap.size w).alloc (Nat.le_refl _) (.cells #[.int .u8 (r : Int), .slice so m sc] 63))
    go_enter Tryz.func83, Tryz.ntmps83
    go_wp2_with (at_builtin; refine wpList_append_sees rfl (.tmp 11) (.tmp 15) 33 63 rfl Tryz.underlying33 times_info rfl (by decide) base _ n cs rfl (own_stays HV1.out BX.out) _ 1 _ rfl SE.out (by intro z hz; simp at hz; rcases hz with rfl | rfl <;> rfl) ?a1 ?a2 ?a3 ?_)
    case a1 => omega
    case a2 => omega
    case a3 => exact Nat.le_trans hb BX.out.size
    rintro v5 w5 o5 g5 b5
    have OW : Hid (OwnC w5 base v5 (c ++ [(r, l)])) := by
      have hx := own_stays HV1.out BX.out
      refine ⟨cs ++ [.int .u8 (r : Int), .slice so m sc], by rw [HLEN.out]; exact o5, HoldO.append (hold_grown (HV2.out.keeps BX.out) g5 (times_row hx)) ⟨rfl, hr, ?_, trivial⟩⟩
      have := own_kept_span (own_stays HU.out BX.out) hx g5
      rw [HM.out] at this
      rw [HM.out]
      exact this
    have BB := Lib.hid ((BX.out.mono hb).trans b5)
    obtain ⟨a5, c5, rfl⟩ : ∃ ao cap, v5 = .slice ao (n + 1) cap := Sees.shape (Sees.own o5)
    clear o5 g5 b5 SE BX
    go_wp2
    go_ret2
    exact ⟨_, rfl, OW.out, BB.out⟩

set_option maxRecDepth 100000 in
set_option maxHeartbeats 2000000 in
theorem refBothC_any {v u : Value} {a b : List Tm} {w : World} (hv : Tms w v a) (hu : Tms w u b) (ha : Cok a) (hb : Cok b) (hf : Few a b) :
    Calls Tryz.prog 50 #[v, u] w fun e w' => ∃ v', e = .returned (.tuple #[v', .bool true]) ∧ OwnC w' w.heap.size v' (bothC a b) ∧ Below w.heap.size w w' := by
  obtain ⟨g, hg⟩ : ∃ g : Nat → List Sp, g = fun r => both (spn a r) (spn b r) := ⟨_, rfl⟩
  have e : bothC a b = clkFrom g 0 8 := by rw [hg]; rfl
  rw [e]
  have SA : Hid (∀ r : Nat, ∃ x, Sps w x (spn a r) ∧ ∀ W, Below w.heap.size w W → Calls Tryz.prog 85 #[v, .int .u8 (r : Int)] W fun e w' => e = .returned x ∧ w' = W) := fun r => refSpans_at hv r
  have SB : Hid (∀ r : Nat, ∃ x, Sps w x (spn b r) ∧ ∀ W, Below w.heap.size w W → Calls Tryz.prog 85 #[u, .int .u8 (r : Int)] W fun e w' => e = .returned x ∧ w' = W) := fun r => refSpans_at hu r
  have BO : Hid (∀ (r : Nat) (W : World) (x y : Value), Sps W x (spn a r) → Sps W y (spn b r) → Calls Tryz.prog 84 #[x, y] W fun e w' => ∃ v', e = .returned v' ∧ w'.ownsRow W.heap.size 89 2 v' (g r).length (sps (g r)) ∧ Below W.heap.size W w') := fun r W x y h1 h2 => by
    have f1 := (mayB_iff _).1 (spn_may ha r)
    have f2 := (mayB_iff _).1 (spn_may hb r)
    rw [hg]
    exact both_any h1 h2 f1.1 f2.1.all (by omega) (by omega)
  have GM : Hid (∀ r, (g r).length ≤ 1024) := fun r => by
    have := ((mayB_iff _).1 (few_may ha hb hf r)).2
    rw [hg]
    exact this
  obtain ⟨ao, ca, rfl⟩ := hv.shape
  obtain ⟨bo, cb, rfl⟩ := hu.shape
  clear e hg hv hu ha hb hf
  have O0 : Hid (OwnC w w.heap.size (.slice none 0 0) (clkFrom g 0 0)) := OwnC.nil _ _
  have B0 := Lib.hid (Below.refl w.heap.size w)
  go_enter Tryz.func50, Tryz.ntmps50
  go_wp2
  go_loopw [6, 7, 8] (fun o t i wr => ∃ k : Nat, k ≤ 8 ∧ i = .int .u8 (k : Int) ∧ t = .bool true ∧ Hid (OwnC wr w.heap.size o (clkFrom g 0 k)) ∧ Hid (Below w.heap.size w wr)) (fun _ _ i _ => 8 - (intOf i).toNat)
  case atStart => exact ⟨0, by omega, rfl, rfl, O0, B0⟩
  case round =>
    obtain ⟨k, hk, rfl, rfl, hown, hbel⟩ := hrel
    by_cases hk8 : k < 8
    · have q1 : decide ((k : Int) < 8) = true := decide_eq_true (by omega)
      have q2 : decide (k < 8) = true := decide_eq_true hk8
      obtain ⟨x, hx, cx⟩ := SA.out k
      obtain ⟨y, hy, cy⟩ := SB.out k
      have CX := Lib.hid (cx _ hbel.out)
      have CY := Lib.hid (cy _ hbel.out)
      have HX := Lib.hid (hx.keeps hbel.out)
      have HY := Lib.hid (hy.keeps hbel.out)
      have BK := Lib.hid (BO.out k _ _ _ HX.out HY.out)
      have GK := Lib.hid (GM.out k)
      have hln := clkFrom_len g k 0
      have hsn := clkFrom_snoc g k 0
      rw [Nat.zero_add] at hsn
      have HSN : Hid (clkFrom g 0 (k + 1) = putC (clkFrom g 0 k) k (g k)) := hsn
      obtain ⟨xo, xc, rfl⟩ := hx.shape
      obtain ⟨yo, yc, rfl⟩ := hy.shape
      have hsz := hbel.out.size
      have e1 : IntKind.u8.wrap ((k : Int) + 1) = (k : Int) + 1 := by rw [IntKind.wrap_u8]; omega
      clear cx cy hx hy hsn
      go_wp2_with fail
      refine CX.out.mono ?_
      rintro e w1 ⟨rfl, rfl⟩
      go_wp2_with fail
      refine CY.out.mono ?_
      rintro e w1 ⟨rfl, rfl⟩
      go_wp2_with fail
      refine BK.out.mono ?_
      rintro e w2 ⟨v2, rfl, o2, b2⟩
      have PU := put_any (r := k) (hown.out.keeps b2) (own_base o2 hsz) (by omega) (by omega) GK.out (Nat.le_trans hsz b2.size)
      have PU' := Lib.hid PU
      have B2 := Lib.hid (bt hbel.out b2)
      clear PU o2 b2
      go_wp2_with fail
      refine PU'.out.mono ?_
      rintro e w3 ⟨v3, rfl, o3, b3⟩
      have O3 := Lib.hid o3
      have B3 := Lib.hid (B2.out.trans b3)
      clear o3 b3
      go_wp2
      go_roundw
      case rel => exact ⟨k + 1, by omega, by go_num, rfl, Lib.hid (by rw [HSN.out]; exact O3.out), B3⟩
      case measure => simp [intOf]; omega
    · have q1 : decide ((k : Int) < 8) = false := decide_eq_false (by omega)
      have q2 : decide (k < 8) = false := decide_eq_false hk8
      obtain rfl : k = 8 := by omega
      go_wp2
      go_ret2
      exact ⟨_, rfl, hown.out, hbel.out⟩

/-- What is answered: a clock of its own, and an error. -/
def DoneC (c : List Tm) (x : Int) (w : World) (e : Ending) (w' : World) : Prop :=
  ∃ v, e = .returned (.tuple #[v, .int .i64 x]) ∧ OwnC w' w.heap.size v c ∧ Below w.heap.size w w'

end Go.Proofs.YtpgdnenkjommfaaGreat.Clocks

/- octavoref08: One, Add, Among, Of, Top: what each answers. Conditions: the slices' cells are replicas' spans, stamps. -/
namespace Go.Proofs.YtpgdnenkjommfaaGreat.Clocks
open Go.RowKit Go.Proofs.YtpgdnenkjommfaaGreat.Spans
attribute [local go_sem ↓] Go.wp_at_zero Go.wp_at_succ

theorem one_any (a : Id) (w : World) :
    Calls Tryz.prog 51 #[.agg #[.int .u32 (a.t : Int), .int .u8 (a.r : Int)]] w fun e w' => ∃ v', e = .returned v' ∧ OwnC w' w.heap.size v' (one a) ∧ Below w.heap.size w w' := by
  have ht := a.ht
  have hr := a.hr
  obtain ⟨X, hX⟩ : ∃ X, X = w.alloc (.cells #[.int .u32 (a.t : Int), .int .u8 (a.r : Int)] 25) := ⟨_, rfl⟩
  have hs : X.heap.size = w.heap.size + 1 := by rw [hX]; simp
  have BX : Below w.heap.size w X := by rw [hX]; exact (Below.refl _ _).alloc (Nat.le_refl _) _
  have O1 := World.ownsRow_lit (base := w.heap.size) (e := 89) (size := 2) X #[.int .u32 (a.t : Int), .int .u32 (a.t : Int)] 1 (by omega) (by decide) rfl
  rw [hs] at O1
  have O2 := own_stays O1 ((Below.refl _ _).alloc (Nat.le_refl _) (.cells #[.int .u8 (a.r : Int), .slice (some ⟨w.heap.size + 1, 0, none⟩) 1 1] 63))
  have O3 := World.ownsRow_lit (base := w.heap.size) (e := 63) (size := 2) (X.alloc (.cells #[.int .u32 (a.t : Int), .int .u32 (a.t : Int)] 89)) #[.int .u8 (a.r : Int), .slice (some ⟨w.heap.size + 1, 0, none⟩) 1 1] 1 (by simp; omega) (by decide) rfl
  rw [World.size_alloc, hs] at O3
  have OW : Hid (OwnC ((X.alloc (.cells #[.int .u32 (a.t : Int), .int .u32 (a.t : Int)] 89)).alloc (.cells #[.int .u8 (a.r : Int), .slice (some ⟨w.heap.size + 1, 0, none⟩) 1 1] 63)) w.heap.size (.slice (some ⟨w.heap.size + 1 + 1, 0, none⟩) 1 1) (one a)) := by
    refine ⟨_, O3, rfl, hr, ?_, trivial⟩
    have e : sps (one a).head!.2 = sps [mk a.t a.t] := rfl
    show World.ownsRow _ _ _ _ _ _ (sps [mk a.t a.t])
    have e2 : sps [mk a.t a.t] = [.int .u32 (a.t : Int), .int .u32 (a.t : Int)] := by simp only [sps, mk_f ht, mk_t ht]
    rw [e2]
    exact O2
  have BB : Hid (Below w.heap.size w ((X.alloc (.cells #[.int .u32 (a.t : Int), .int .u32 (a.t : Int)] 89)).alloc (.cells #[.int .u8 (a.r : Int), .slice (some ⟨w.heap.size + 1, 0, none⟩) 1 1] 63))) := (BX.alloc BX.size _).alloc (by have := BX.size; simp; omega) _
  rw [hX] at OW BB
  clear O1 O2 O3 BX hX hs ht hr
  go_enter Tryz.func51, Tryz.ntmps51
  go_wp2
  go_ret
  exact ⟨_, rfl, OW.out, BB.out⟩

end Go.Proofs.YtpgdnenkjommfaaGreat.Clocks

/- octavoref08: Among, Of, Top, Same: what each answers. Conditions: the slices' cells are replicas' spans, stamps. -/
namespace Go.Proofs.YtpgdnenkjommfaaGreat.Clocks
open Go.RowKit Go.Proofs.YtpgdnenkjommfaaGreat.Spans
attribute [local go_sem ↓] Go.wp_at_zero Go.wp_at_succ

theorem id_take_snoc (l : List Id) (k : Nat) (h : k < l.length) : l.take (k + 1) = l.take k ++ [l.getD k zid] := by
  rw [List.take_succ_eq_append_getElem h]
  simp [List.getD, List.getElem?_eq_getElem h]
theorem id_mem {l : List Id} {k : Nat} (h : k < l.length) : l.getD k zid ∈ l := by
  rw [List.getD, List.getElem?_eq_getElem h]
  exact List.getElem_mem _

set_option maxRecDepth 100000 in
set_option maxHeartbeats 1000000 in
theorem among_any {v : Value} {l : List Id} {w : World} (hv : Ids w v l) (hm : ∀ a ∈ l, mayI a) (hl : l.length ≤ 1024) :
    Calls Tryz.prog 27 #[v] w fun e w' => ∃ v', e = .returned v' ∧ OwnC w' w.heap.size v' (among l) ∧ Below w.heap.size w w' := by
  obtain ⟨ao, cap, rfl⟩ := hv.shape
  obtain ⟨n, hn⟩ : ∃ n, n = l.length := ⟨_, rfl⟩
  have HV := Lib.hid hv
  have HN := Lib.hid hn
  have HM := Lib.hid hm
  rw [← hn] at hl ⊢
  have O0 : Hid (OwnC w w.heap.size (.slice none 0 0) (among (l.take 0))) := OwnC.nil _ _
  have B0 := Lib.hid (Below.refl w.heap.size w)
  clear hv hn hm
  go_enter Tryz.func27, Tryz.ntmps27
  go_wp2
  go_loopw [3, 4] (fun o i wr => ∃ k : Nat, k ≤ n ∧ i = .int .i64 (k : Int) ∧ Hid (OwnC wr w.heap.size o (among (l.take k))) ∧ Hid (Below w.heap.size w wr)) (fun _ i _ => n - (intOf i).toNat)
  case atStart => exact ⟨0, by omega, rfl, O0, B0⟩
  case round =>
    obtain ⟨k, hk, rfl, hown, hbel⟩ := hrel
    by_cases hkn : k < n
    · have q1 : decide (k < n) = true := by simpa using hkn
      have q2 : (0 : Int) ≤ (k : Int) := by omega
      have q3 : (k : Int) < (n : Int) := by omega
      have hkl : k < l.length := by rw [← HN.out]; exact hkn
      obtain ⟨b1, o1, rfl, hb1, ha0, ha1⟩ := (HV.out.keeps hbel.out).at k hkl
      have hs := id_take_snoc l k hkl
      have hx1 := HM.out _ (id_mem hkl)
      obtain ⟨x, hx⟩ : ∃ x, x = l.getD k zid := ⟨_, rfl⟩
      rw [← hx] at ha0 ha1 hs hx1
      have hsn : among (l.take (k + 1)) = bothC (among (l.take k)) (one x) := by rw [hs]; exact among_snoc _ _
      obtain ⟨g1, g2, _⟩ := among_ok (l.take k) (fun a ha => HM.out a (List.mem_of_mem_take ha)) (by rw [List.length_take]; omega)
      have hfew : Few (among (l.take k)) (one x) := fun r => by
        have h1 := g2 r
        have h2 := spn_one_len x r
        rw [List.length_take] at h1
        omega
      have HSN := Lib.hid hsn
      have OA := Lib.hid (one_any x wr)
      have BO : Hid (∀ (W : World) (u c : Value), Tms W c (among (l.take k)) → Tms W u (one x) → Calls Tryz.prog 50 #[c, u] W fun e w' => ∃ v', e = .returned (.tuple #[v', .bool true]) ∧ OwnC w' W.heap.size v' (bothC (among (l.take k)) (one x)) ∧ Below W.heap.size W w') := fun W u c h1 h2 => refBothC_any h1 h2 g1 (one_ok hx1) hfew
      have hsz := hbel.out.size
      clear hx hs hsn g1 g2 hfew hx1
      go_wp2_with fail
      refine OA.out.mono ?_
      rintro e w2 ⟨v2, rfl, o2, b2⟩
      have B2 := Lib.hid (bt hbel.out b2)
      have BC := Lib.hid (BO.out _ _ _ (hown.out.tms.keeps b2) o2.tms)
      clear o2 b2
      go_wp2_with fail
      refine BC.out.mono ?_
      rintro e w3 ⟨v3, rfl, o3, b3⟩
      have O3 := Lib.hid (OwnC.base o3 B2.out.size)
      have B3 := Lib.hid (bt B2.out b3)
      clear o3 b3
      go_wp2
      go_roundw
      case rel => exact ⟨k + 1, by omega, by go_num, Lib.hid (by rw [HSN.out]; exact O3.out), B3⟩
      case measure => simp [intOf]; omega
    · have q1 : decide (k < n) = false := by simpa using hkn
      have hkk : l.take k = l := List.take_of_length_le (by have := HN.out; omega)
      rw [hkk] at hown
      clear hkk
      go_wp2
      go_ret
      exact ⟨_, rfl, hown.out, hbel.out⟩

end Go.Proofs.YtpgdnenkjommfaaGreat.Clocks

/- octavoref08: Top, Same: what each answers. Conditions: the slices' cells are replicas' spans. -/
namespace Go.Proofs.YtpgdnenkjommfaaGreat.Clocks
open Go.RowKit Go.Proofs.YtpgdnenkjommfaaGreat.Spans
attribute [local go_sem ↓] Go.wp_at_zero Go.wp_at_succ

theorem tms_ne : ∀ {a b : List Tm}, a.length = b.length → a ≠ b → ∃ k, k < a.length ∧ a.getD k ztm ≠ b.getD k ztm
  | [], [], _, h => absurd rfl h
  | x :: a, y :: b, hl, h => by
    by_cases hxy : x = y
    · subst hxy
      obtain ⟨k, h1, h2⟩ := tms_ne (a := a) (b := b) (by simpa using hl) (fun e => h (by rw [e]))
      exact ⟨k + 1, by simpa using h1, by simpa using h2⟩
    · exact ⟨0, by simp, by simpa using hxy⟩
  | [], _ :: _, hl, _ => by simp at hl
  | _ :: _, [], hl, _ => by simp at hl

set_option maxRecDepth 100000 in
set_option maxHeartbeats 4000000 in
theorem refSameC_any {a b : Value} {c d : List Tm} {w : World} (ha : Tms w a c) (hb : Tms w b d) :
    Calls Tryz.prog 11 #[a, b] w fun e w' => e = .returned (.bool (decide (c = d))) ∧ Below w.heap.size w w' := by
  obtain ⟨ao, ca, rfl⟩ := ha.shape
  obtain ⟨bo, cb, rfl⟩ := hb.shape
  obtain ⟨n, hn⟩ : ∃ n, n = c.length := ⟨_, rfl⟩
  obtain ⟨n2, hn2⟩ : ∃ n, n = d.length := ⟨_, rfl⟩
  have hm : n ≤ 9223372036854775807 := by rw [hn]; exact Tms.max ha
  have HA := Lib.hid ha
  have HB := Lib.hid hb
  have HN := Lib.hid hn
  have HN2 := Lib.hid hn2
  obtain ⟨R, hR⟩ : ∃ R, R = decide (c = d) := ⟨_, rfl⟩
  have HNo : Hid (c ≠ d → R = false) := fun h => by rw [hR]; exact decide_eq_false h
  have HYes : Hid (c = d → R = true) := fun h => by rw [hR]; exact decide_eq_true h
  rw [← hn, ← hn2, ← hR]
  clear ha hb hn hn2 hR
  by_cases hlen : n = n2
  · subst hlen
    have t1 : ((n : Int) != (n : Int)) = false := by simp
    go_enter Tryz.func11, Tryz.ntmps11
    go_wp2
    go_loopw [5] (fun i wr => ∃ k : Nat, k ≤ n ∧ i = .int .i64 (k : Int) ∧ Hid (∀ j, j < k → c.getD j ztm = d.getD j ztm) ∧ ∃ q, wr = w.drewN q) (fun i _ => n - (intOf i).toNat)
    case atStart => exact ⟨0, by omega, rfl, Lib.hid (fun j hj => by omega), 0, rfl⟩
    case round =>
      obtain ⟨k, hk, rfl, hal, q, rfl⟩ := hrel
      by_cases hkn : k < n
      · have q1 : decide (k < n) = true := by simpa using hkn
        have q2 : (0 : Int) ≤ (k : Int) := by omega
        have q3 : (k : Int) < (n : Int) := by omega
        have hkc : k < c.length := by rw [← HN.out]; exact hkn
        have hkd : k < d.length := by rw [← HN2.out]; exact hkn
        obtain ⟨b1, o1, u1, rfl, hb1, ha0, ha1, -, hs1⟩ := HA.out.at k hkc
        obtain ⟨b2, o2, u2, rfl, hb2, hb0, hb1', -, hs2⟩ := HB.out.at k hkd
        obtain ⟨x, hx⟩ : ∃ x, x = c.getD k ztm := ⟨_, rfl⟩
        obtain ⟨y, hy⟩ : ∃ y, y = d.getD k ztm := ⟨_, rfl⟩
        have hx' : c.getD k (0, []) = x := hx.symm
        have hy' : d.getD k (0, []) = y := hy.symm
        rw [hx'] at ha0 hs1
        rw [hy'] at hb0 hs2
        have hne : x ≠ y → R = false := fun h => HNo.out (fun e => h (by rw [hx, hy, e]))
        have HNe := Lib.hid hne
        have HXY : Hid (x = y → ∀ j, j < k + 1 → c.getD j ztm = d.getD j ztm) := fun e j hj => by
          by_cases q : j = k
          · rw [q, ← hx, ← hy, e]
          · exact hal.out j (by omega)
        obtain ⟨xr, xs⟩ := x
        obtain ⟨yr, ys⟩ := y
        simp only at ha0 hb0 hs1 hs2 HNe HXY
        have SM : Hid (∀ a, Calls Tryz.prog 31 #[u1, u2] (w.drewN (q + a)) fun e w' => e = .returned (.bool (decide (xs = ys))) ∧ ∃ m, w' = w.drewN (q + m)) := fun a => by
          refine (refSame_drawn (hs1.keeps (below_draw (Below.refl _ _) (q + a))) (hs2.keeps (below_draw (Below.refl _ _) (q + a)))).mono ?_
          rintro e w' ⟨he, m, hm⟩
          exact ⟨he, a + m, by rw [hm, World.drewN_drewN, Nat.add_assoc]⟩
        obtain ⟨so1, sc1, rfl⟩ := hs1.shape
        obtain ⟨so2, sc2, rfl⟩ := hs2.shape
        obtain ⟨l1, hl1⟩ : ∃ l1, l1 = xs.length := ⟨_, rfl⟩
        obtain ⟨l2, hl2⟩ : ∃ l2, l2 = ys.length := ⟨_, rfl⟩
        rw [← hl1] at ha1 SM
        rw [← hl2] at hb1' SM
        clear hx hy hx' hy' hne hs1 hs2 hl1 hl2
        by_cases h1 : xr = yr
        · subst h1
          have s1 : ((xr : Int) == (xr : Int)) = true := by simp
          have s2 : ((xr : Int) != (xr : Int)) = false := by simp
          by_cases h2 : xs = ys
          · rw [decide_eq_true h2] at SM
            have HX2 := Lib.hid (HXY.out (by rw [h2]))
            clear h2 HXY HNe
            go_wp2
            go_quiet ((go_at_call 31; exact SM.out _))
            go_wp2
            go_roundw
            case rel => exact ⟨k + 1, by omega, by go_num, HX2, _, rfl⟩
            case measure => simp [intOf]; omega
          · rw [decide_eq_false h2] at SM
            obtain rfl : R = false := HNe.out (fun e => h2 (Prod.mk.inj e).2)
            clear h2 HXY HNe
            go_wp2
            go_quiet ((go_at_call 31; exact SM.out _))
            go_wp2
            go_ret
            exact ⟨rfl, by first | exact below_draw (below_draw (Below.refl _ _) _) _ | exact below_draw (Below.refl _ _) _⟩
        · have s1 : ((xr : Int) == (yr : Int)) = false := by simp; omega
          have s2 : ((xr : Int) != (yr : Int)) = true := by simp; omega
          have s3 : decide (xr = yr) = false := decide_eq_false h1
          obtain rfl : R = false := HNe.out (fun e => h1 (Prod.mk.inj e).1)
          clear HXY HNe
          go_wp2
          go_quiet (fail)
          go_wp2
          go_ret
          exact ⟨rfl, below_draw (below_draw (Below.refl _ _) _) _⟩
      · have q1 : decide (k < n) = false := by simpa using hkn
        obtain rfl : R = true := HYes.out (by
          by_cases e : c = d
          · exact e
          · obtain ⟨j, h1, h2⟩ := tms_ne (by rw [← HN.out, ← HN2.out]) e
            exact absurd (hal.out j (by have := HN.out; omega)) h2)
        go_wp2
        go_ret
        exact ⟨rfl, below_draw (Below.refl _ _) _⟩
  · have t1 : ((n : Int) != (n2 : Int)) = true := by simp; omega
    have t2 : ¬ n = n2 := hlen
    obtain rfl : R = false := HNo.out (fun e => hlen (by rw [HN.out, HN2.out, e]))
    go_enter Tryz.func11, Tryz.ntmps11
    go_wp2
    go_ret
    exact ⟨rfl, Below.refl _ _⟩
end Go.Proofs.YtpgdnenkjommfaaGreat.Clocks

/- octavoref08: Top, All, Ids: what each answers. Conditions: the slices' cells are replicas' spans. -/
namespace Go.Proofs.YtpgdnenkjommfaaGreat.Clocks
open Go.RowKit Go.Proofs.YtpgdnenkjommfaaGreat.Spans
attribute [local go_sem ↓] Go.wp_at_zero Go.wp_at_succ

end Go.Proofs.YtpgdnenkjommfaaGreat.Clocks

/- octavoref08: All, Ids: what each answers. Conditions: the slices' cells are replicas' spans. -/
namespace Go.Proofs.YtpgdnenkjommfaaGreat.Clocks
open Go.RowKit Go.Proofs.YtpgdnenkjommfaaGreat.Spans
attribute [local go_sem ↓] Go.wp_at_zero Go.wp_at_succ

/-- A row of stamps of the call's own. -/
def OwnI (w : World) (base : Nat) (v : Value) (L : List Id) : Prop := w.ownsRow base 25 2 v L.length (ids L)
theorem OwnI.nil (w : World) (base : Nat) : OwnI w base (.slice none 0 0) [] := World.ownsRow_nil _ _ _ _

end Go.Proofs.YtpgdnenkjommfaaGreat.Clocks

/- octavoref08.Ids; the laws' helper of layer 8 that writes over what was answered. Conditions: the rows are the call's own. -/
namespace Go.Proofs.YtpgdnenkjommfaaGreat.Clocks
open Go.RowKit Go.Proofs.YtpgdnenkjommfaaGreat.Spans
attribute [local go_sem ↓] Go.wp_at_zero Go.wp_at_succ

theorem OwnI.base {w : World} {b b' : Nat} {v : Value} {L : List Id} (h : OwnI w b v L) (hb : b' ≤ b) : OwnI w b' v L := own_base h hb
/-! ### Written over -/
/-- A clock's rows, wherever they lie from base on, its spans' ahead of top. -/
def Spl (w : World) (base top : Nat) (v : Value) (n : Nat) : Prop :=
  ∃ ao cap, v = .slice ao n cap ∧ n ≤ 9223372036854775807 ∧ (n = 0 ∨ ∃ b, ao = some ⟨b, 0, none⟩ ∧ base ≤ b ∧ b < w.heap.size ∧ ∀ k, k < n → ∃ so m sc, w.cell? ⟨b, k * 2 + 1, none⟩ = some (.slice so m sc) ∧ m ≤ 9223372036854775807 ∧
    (m = 0 ∨ ∃ g cur, so = some ⟨g, 0, none⟩ ∧ base ≤ g ∧ g < top ∧ g ≠ b ∧ w.heap[g]? = some (.cells cur 89 (0, 0)) ∧ m * 2 ≤ cur.size))
/-- What was there stays so, but from base on, ahead of top. -/
def Sand (base top : Nat) (w w' : World) : Prop := Below base w w' ∧ ∀ j, top ≤ j → w'.heap[j]? = w.heap[j]?
theorem Sand.refl (base top : Nat) (w : World) : Sand base top w w := ⟨Below.refl _ _, fun _ _ => rfl⟩
theorem Sand.trans {base top : Nat} {a b c : World} (h : Sand base top a b) (k : Sand base top b c) : Sand base top a c := ⟨h.1.trans k.1, fun j hj => (k.2 j hj).trans (h.2 j hj)⟩
theorem Spl.keeps {w w' : World} {base top n : Nat} {v : Value} (h : Spl w base top v n) (hb : Below w.heap.size w w') : Spl w' base top v n := by
  obtain ⟨ao, cap, h1, h2, h3⟩ := h
  refine ⟨ao, cap, h1, h2, ?_⟩
  rcases h3 with h3 | ⟨b, e1, e2, e3, e4⟩
  · exact .inl h3
  · refine .inr ⟨b, e1, e2, Nat.lt_of_lt_of_le e3 hb.size, fun k hk => ?_⟩
    obtain ⟨so, m, sc, f1, f2, f3⟩ := e4 k hk
    refine ⟨so, m, sc, (hb.cell (p := ⟨b, k * 2 + 1, none⟩) e3).trans f1, f2, ?_⟩
    rcases f3 with f3 | ⟨g, cur, g1, g2, g3, g4, g5, g6⟩
    · exact .inl f3
    · exact .inr ⟨g, cur, g1, g2, g3, g4, (hb.block g (Array.getElem?_eq_some_iff.1 g5).1).trans g5, g6⟩
theorem Spl.set {w : World} {base top n g j : Nat} {v : Value} {u : Value} (h : Spl w base top v n) (hg : ∀ b cap, v = .slice (some ⟨b, 0, none⟩) n cap → g ≠ b) : Spl (w.setCell ⟨g, j, none⟩ u) base top v n := by
  obtain ⟨ao, cap, h1, h2, h3⟩ := h
  refine ⟨ao, cap, h1, h2, ?_⟩
  rcases h3 with h3 | ⟨b, e1, e2, e3, e4⟩
  · exact .inl h3
  · have hgb := hg b cap (by rw [h1, e1])
    refine .inr ⟨b, e1, e2, by simpa [World.setCell] using e3, fun k hk => ?_⟩
    obtain ⟨so, m, sc, f1, f2, f3⟩ := e4 k hk
    refine ⟨so, m, sc, (World.cell?_of_block (a := ⟨b, k * 2 + 1, none⟩) (heap_setCell_other w ⟨g, j, none⟩ b u (fun e => hgb e.symm))).trans f1, f2, ?_⟩
    rcases f3 with f3 | ⟨q, cur, g1, g2, g3, g4, g5, g6⟩
    · exact .inl f3
    · right
      by_cases e : q = g
      · subst e
        exact ⟨q, _, g1, g2, g3, g4, heap_setCell_same w q j cur _ u g5, by rw [Array.size_setIfInBounds]; exact g6⟩
      · exact ⟨q, cur, g1, g2, g3, g4, (heap_setCell_other w ⟨g, j, none⟩ q u e).trans g5, g6⟩

end Go.Proofs.YtpgdnenkjommfaaGreat.Clocks

/- octavoref11.Left, Less, Stamps, Ids, Find: what each answers. Conditions: the slices' cells are operations, replicas' times; those of Left, Stamps not too many. -/
namespace Go.Proofs.YtpgdnenkjommfaaGreat.Bags
open Go.RowKit Go.WideShapes Stamp Go.Proofs.YtpgdnenkjommfaaGreat.Place Ops Codes
attribute [local go_sem ↓] Go.wp_at_zero Go.wp_at_succ
attribute [local go_sem] yielded_undef


def idE : Enc Id where
  sz := 2
  pos := by decide
  inn _ cs x := cs = [.int .u32 (x.t : Int), .int .u8 (x.r : Int)]
  len := by rintro w cs x rfl; rfl
  one := by
    rintro w cs x rfl u hu
    simp only [List.mem_cons, List.not_mem_nil, or_false] at hu
    rcases hu with rfl | rfl <;> rfl
  keep := by rintro w w' cs x _ h; exact h
theorem idE_rows {w : World} : ∀ {cs : List Value} {l : List Id}, idE.rows w cs l → cs = ids l
  | _, [], h => h
  | _, _ :: _, ⟨c, d, h1, h2, h3⟩ => by
    rw [h1, show c = _ from h2, idE_rows h3]
    rfl
theorem shr_ids {w0 w : World} {v : Value} {l : List Id} (h : Shr idE 25 w0 w v l) : Ids w v l := by
  obtain ⟨cs, h1, h2⟩ := h
  have h3 := Sees.own h1
  rw [idE_rows h2] at h3
  exact h3

set_option maxRecDepth 100000 in
set_option maxHeartbeats 4000000 in
theorem refStamps_any {v0 : Value} {l : List Opn} {w : World} (hv : OpL w v0 l) (hl : l.length ≤ 1000000) :
    Calls Tryz.prog 28 #[v0] w fun e w' => ∃ v', e = .returned v' ∧ Ids w' v' (stampsO l) ∧ Below w.heap.size w w' := by
  obtain ⟨ao, cap, rfl⟩ := hv.shape
  obtain ⟨n, hn⟩ : ∃ n, n = l.length := ⟨_, rfl⟩
  have hnm : n ≤ 1000000 := by omega
  have HV : Hid (∀ W : World, Below w.heap.size w W → OpL W (.slice ao l.length cap) l) := fun W h => hv.keeps h
  have HN := Lib.hid hn
  rw [← hn]
  have S0 : Hid (Shr idE 25 w w (.slice none 0 0) (stampsO (l.take 0))) := Shr.nil _ _ _ _
  have B0 : Hid (Below w.heap.size w w) := Below.refl _ _
  clear hv hn hl
  go_enter Tryz.func28, Tryz.ntmps28
  go_wp2
  go_loopw [3, 4] (fun v i wr => ∃ j : Nat, j ≤ n ∧ i = .int .i64 (j : Int) ∧ (∃ ao cap, v = .slice ao j cap) ∧ Hid (Shr idE 25 w wr v (stampsO (l.take j))) ∧ Hid (Below w.heap.size w wr)) (fun _ i _ => n - (intOf i).toNat)
  case atStart => exact ⟨0, by omega, rfl, ⟨none, 0, rfl⟩, S0, B0⟩
  case round =>
    clear S0 B0
    obtain ⟨j, hj, rfl, ⟨aoL, capL, rfl⟩, hshr, hbel⟩ := hrel
    by_cases hjn : j < n
    rotate_left
    · have q3 : decide (j < n) = false := by simpa using hjn
      have hkk : l.take j = l := List.take_of_length_le (by have := HN.out; omega)
      rw [hkk] at hshr
      clear hkk
      go_wp2
      go_ret
      exact ⟨_, rfl, shr_ids hshr.out, hbel.out⟩
    have q3 : decide (j < n) = true := by simpa using hjn
    have q4 : (0 : Int) ≤ (j : Int) := by omega
    have q5 : (j : Int) < (n : Int) := by omega
    have hjl : j < l.length := by rw [← HN.out]; exact hjn
    obtain ⟨bb, oo, u, e, hbb, hru, h0, h1, h2, h3, h4⟩ := opl_at (HV.out wr hbel.out) j hjl
    subst e
    obtain ⟨x, hx⟩ : ∃ x, x = l[j]'hjl := ⟨_, rfl⟩
    rw [← hx] at hru h0 h1 h2 h4
    have HO : Hid (∀ v : Value, opv x v = .agg #[.int .u8 (x.k : Int), .int .u32 (x.t : Int), .int .u8 (x.r : Int), v, .int .i64 x.p]) := fun v => rfl
    have INN : Hid (idE.inn w [.int .u32 (x.t : Int), .int .u8 (x.r : Int)] (idO x)) := rfl
    have FT : Hid (stampsO (l.take (j + 1)) = stampsO (l.take j) ++ [idO x]) := by unfold Hid stampsO; rw [List.take_succ_eq_append_getElem hjl, List.map_append, hx]; rfl
    have HM : Hid (j = (stampsO (l.take j)).length) := by unfold Hid stampsO; rw [List.length_map, List.length_take, ← HN.out]; omega
    clear hx hru
    obtain ⟨k, hk⟩ : ∃ z, x.k = z := ⟨_, rfl⟩
    obtain ⟨t, ht⟩ : ∃ z, x.t = z := ⟨_, rfl⟩
    obtain ⟨r, hr⟩ : ∃ z, x.r = z := ⟨_, rfl⟩
    obtain ⟨p, hp⟩ : ∃ z, x.p = z := ⟨_, rfl⟩
    rw [hk, ht, hr, hp] at HO
    rw [hk] at h0
    rw [ht] at h1
    rw [hr] at h2
    rw [hp] at h4
    rw [ht, hr] at INN
    clear hk ht hr hp HO
    have HZ := Lib.hid hbel.out.size
    go_wp2_with (at_builtin; refine wpList_append_enc (E := idE) Tryz.underlying55 id_info rfl (w0 := w) (wp := wr) (by rfl) (.tmp 11) (.tmp 17) (by rfl) (by rfl) hshr.out (G := wr.heap.size) (by rfl) rfl (c := #[.int .u32 (t : Int), .int .u8 (r : Int)]) INN.out HM.out (by omega) (by omega) HZ.out ?_)
    rintro v6 w6 s6 va vc rfl b6
    have S6 := Lib.hid s6
    rw [← FT.out] at S6
    have B6 := Lib.hid (hbel.out.trans b6)
    clear s6 b6 hshr
    go_wp2
    go_roundw
    case rel => exact ⟨j + 1, by omega, by go_num, ⟨va, vc, rfl⟩, S6, B6⟩
    case measure => simp [intOf]; omega

/-- A clock of the call's own, and an error. -/
def DoneC (c : List Clocks.Tm) (x : Int) (w : World) (e : Ending) (w' : World) : Prop := ∃ v, e = .returned (.tuple #[v, .int .i64 x]) ∧ OwnC w' w.heap.size v c ∧ Below w.heap.size w w'

end Go.Proofs.YtpgdnenkjommfaaGreat.Bags

/- octavoref10.Great, Same, Twin: what each answers. Conditions: the slices' cells are operations; Twin's: they are not more than memory holds. -/
namespace Go.Proofs.YtpgdnenkjommfaaGreat.Codes
open Go.RowKit Go.WideShapes Go.Proofs.YtpgdnenkjommfaaGreat.Place Ops
attribute [local go_sem ↓] Go.wp_at_zero Go.wp_at_succ

/-- What Great answers: where it answers no, there are not more than so many. -/
def GrtO (l : List Opn) (m : Int) (e : Ending) : Prop := ∃ g, e = .returned (.bool g) ∧ (g = false → (l.length : Int) ≤ m ∧ ∀ k (h : k < l.length), k < 300 → (l[k]'h).pl.length ≤ 100)
theorem GrtO.yes {l : List Opn} {m : Int} : GrtO l m (.returned (.bool true)) := ⟨true, rfl, fun h => by cases h⟩

set_option maxRecDepth 100000 in
set_option maxHeartbeats 4000000 in
theorem greatO_any {v : Value} {l : List Opn} {many : Int} {w : World} (hv : OpL w v l) :
    Calls Tryz.prog 4 #[v, .int .i64 many] w fun e w' => GrtO l many e ∧ w = w' := by
  obtain ⟨ao, cap, rfl⟩ := hv.shape
  obtain ⟨n, hn⟩ : ∃ n, n = l.length := ⟨_, rfl⟩
  have hm : n ≤ 9223372036854775807 := by rw [hn]; exact hv.max
  have HV := Lib.hid hv
  have HN := Lib.hid hn
  rw [← hn]
  clear hv hn
  go_enter Tryz.func4, Tryz.ntmps4
  go_wp2
  go_loop [5, 6, 7] (fun s i c => ∃ (j : Nat) (m : Int), j ≤ n ∧ j ≤ 300 ∧ i = .int .i64 (j : Int) ∧ s = .int .i64 m ∧ Hid (∀ k (h : k < l.length), k < j → (l[k]'h).pl.length ≤ 100)) (fun _ i _ => n - (intOf i).toNat)
  case atStart => exact ⟨0, 0, by omega, by omega, rfl, rfl, fun k h hk => by omega⟩
  case round =>
    obtain ⟨j, m, hj, hj3, rfl, rfl, hall⟩ := hrel
    by_cases hjn : j < n
    · have q1 : decide (j < n) = true := by simpa using hjn
      by_cases hj4 : j < 300
      · have q4 : decide ((j : Int) < 300) = true := decide_eq_true (by omega)
        have q5 : decide (j < 300) = true := decide_eq_true hj4
        have q2 : (0 : Int) ≤ (j : Int) := by omega
        have q3 : (j : Int) < (n : Int) := by omega
        have hjl : j < l.length := by rw [← HN.out]; exact hjn
        obtain ⟨b1, o1, u, rfl, hb1, hru, -, -, -, ha3, -⟩ := opl_at HV.out j hjl
        have hsx := Sees.max hru
        have HRU := Lib.hid hru
        obtain ⟨so, sc, rfl⟩ := hru.shape
        obtain ⟨p, hp⟩ : ∃ p, p = (l[j]'hjl).pl := ⟨_, rfl⟩
        have HJA : Hid (p.length ≤ 100 → ∀ k (h : k < l.length), k < j + 1 → (l[k]'h).pl.length ≤ 100) := fun h1 k h hk => by
          by_cases e : k = j
          · subst e; rw [← hp]; exact h1
          · exact hall.out k h (by omega)
        rw [← hp] at ha3 hsx HRU
        obtain ⟨d, hd⟩ : ∃ d, d = p.length := ⟨_, rfl⟩
        have HD := Lib.hid hd
        rw [← hd] at ha3 hsx HRU
        clear hall hp hru hd
        by_cases h3 : 100 < d
        · have t1 : decide ((100 : Int) < (d : Int)) = true := decide_eq_true (by omega)
          have t2 : decide (100 < d) = true := decide_eq_true h3
          go_wp2
          go_ret
          exact ⟨GrtO.yes, rfl⟩
        · have t1 : decide ((100 : Int) < (d : Int)) = false := decide_eq_false (by omega)
          have t2 : decide (100 < d) = false := decide_eq_false h3
          have HJB := Lib.hid (HJA.out (by rw [← HD.out]; omega))
          clear HJA
          go_wp2
          go_loop [5, 7] (fun s c => ∃ (k : Nat) (m : Int), k ≤ d ∧ c = .int .i64 (k : Int) ∧ s = .int .i64 m) (fun _ c => d - (intOf c).toNat)
          case atStart => exact ⟨0, _, by omega, rfl, rfl⟩
          case round =>
            obtain ⟨k, m, hk, rfl, rfl⟩ := hrel
            by_cases hkd : k < d
            · have c1 : decide (k < d) = true := by simpa using hkd
              have c2 : (0 : Int) ≤ (k : Int) := by omega
              have c3 : (k : Int) < (d : Int) := by omega
              obtain ⟨b2, o2, rfl, hb2, -, -, g2⟩ := HRU.out.at k (by rw [← HD.out]; exact hkd)
              go_wp2
              go_round
              case rel => exact ⟨k + 1, _, by omega, by go_num, rfl⟩
              case measure => simp [intOf]; omega
            · have c1 : decide (k < d) = false := by simpa using hkd
              go_wp2
              go_round
              case rel => exact ⟨j + 1, _, by omega, by omega, by go_num, rfl, HJB⟩
              case measure => simp [intOf]; omega
      · obtain rfl : j = 300 := by omega
        obtain ⟨b, hb⟩ : ∃ b, decide (many < (n : Int)) = b := ⟨_, rfl⟩
        have HB : Hid (b = false → (n : Int) ≤ many) := fun h => by rw [h] at hb; have := of_decide_eq_false hb; omega
        obtain ⟨c, hc⟩ : ∃ b, decide (3000 < m) = b := ⟨_, rfl⟩
        clear q1
        cases b
        · go_wp2
          go_ret
          refine ⟨⟨_, rfl, fun _ => ⟨?_, fun k h hk => hall.out k h hk⟩⟩, rfl⟩
          rw [← HN.out]; exact HB.out trivial
        · go_wp2
          go_ret
          exact ⟨GrtO.yes, rfl⟩
    · have q1 : decide (j < n) = false := by simpa using hjn
      obtain rfl : j = n := by omega
      obtain ⟨b, hb⟩ : ∃ b, decide (many < (j : Int)) = b := ⟨_, rfl⟩
      have HB : Hid (b = false → (j : Int) ≤ many) := fun h => by rw [h] at hb; have := of_decide_eq_false hb; omega
      obtain ⟨c, hc⟩ : ∃ b, decide (3000 < m) = b := ⟨_, rfl⟩
      cases b
      · go_wp2
        go_ret
        refine ⟨⟨_, rfl, fun _ => ⟨?_, fun k h _ => hall.out k h (by have := HN.out; omega)⟩⟩, rfl⟩
        rw [← HN.out]; exact HB.out trivial
      · go_wp2
        go_ret
        exact ⟨GrtO.yes, rfl⟩

set_option maxRecDepth 100000 in
set_option maxHeartbeats 4000000 in
theorem sameL_any {u v : Value} {l m : List Opn} {w : World} (hu : OpL w u l) (hv : OpL w v m) :
    Calls Tryz.prog 10 #[u, v] w fun e w' => e = .returned (.bool (decide (l = m))) ∧ Below w.heap.size w w' := by
  obtain ⟨ao, cap, rfl⟩ := hu.shape
  obtain ⟨bo, cab, rfl⟩ := hv.shape
  obtain ⟨n, hn⟩ : ∃ n, n = l.length := ⟨_, rfl⟩
  obtain ⟨n', hn'⟩ : ∃ n, n = m.length := ⟨_, rfl⟩
  have hm : n ≤ 9223372036854775807 := by rw [hn]; exact hu.max
  have hm' : n' ≤ 9223372036854775807 := by rw [hn']; exact hv.max
  have HU : Hid (∀ W : World, Below w.heap.size w W → OpL W (.slice ao l.length cap) l) := fun W h => hu.keeps h
  have HV : Hid (∀ W : World, Below w.heap.size w W → OpL W (.slice bo m.length cab) m) := fun W h => hv.keeps h
  have HN := Lib.hid hn
  have HN' := Lib.hid hn'
  obtain ⟨q, hq⟩ : ∃ q, decide (l = m) = q := ⟨_, rfl⟩
  have HQ := Lib.hid hq
  rw [hq, ← hn, ← hn']
  clear hu hv hn hn' hq
  go_enter Tryz.func10, Tryz.ntmps10
  by_cases he : n = n'
  rotate_left
  · have t1 : ((n : Int) != (n' : Int)) = true := by simp; omega
    have t2 : (n == n') = false := by simpa using he
    obtain rfl : q = false := by rw [← HQ.out]; exact decide_eq_false (fun h => he (by rw [HN.out, HN'.out, h]))
    go_wp2
    go_ret
    exact ⟨rfl, Below.refl _ _⟩
  subst he
  have t1 : ((n : Int) != (n : Int)) = false := by simp
  go_wp2
  go_loopw [5] (fun i wr => ∃ j : Nat, j ≤ n ∧ i = .int .i64 (j : Int) ∧ Hid (∀ k (h : k < l.length) (h' : k < m.length), k < j → l[k]'h = m[k]'h') ∧ Hid (Below w.heap.size w wr)) (fun i _ => n - (intOf i).toNat)
  case atStart => exact ⟨0, by omega, rfl, fun k h h' hk => by omega, Below.refl _ _⟩
  case round =>
    obtain ⟨j, hj, rfl, hall, hbel⟩ := hrel
    by_cases hjn : j < n
    · have q3 : decide (j < n) = true := by simpa using hjn
      have q4 : (0 : Int) ≤ (j : Int) := by omega
      have q5 : (j : Int) < (n : Int) := by omega
      have hjl : j < l.length := by rw [← HN.out]; exact hjn
      have hjm : j < m.length := by rw [← HN'.out]; exact hjn
      obtain ⟨bb, oo, u, rfl, hbb, hru, h0, h1, h2, h3, h4⟩ := opl_at (HU.out wr hbel.out) j hjl
      obtain ⟨bb', oo', u', rfl, hbb', hru', h0', h1', h2', h3', h4'⟩ := opl_at (HV.out wr hbel.out) j hjm
      obtain ⟨x, hx⟩ : ∃ x, x = l[j]'hjl := ⟨_, rfl⟩
      obtain ⟨y, hy⟩ : ∃ x, x = m[j]'hjm := ⟨_, rfl⟩
      rw [← hx] at hru h0 h1 h2 h4
      rw [← hy] at hru' h0' h1' h2' h4'
      have SM : Hid (∀ W : World, Below wr.heap.size wr W → Calls Tryz.prog 30 #[opv x u, opv y u'] W fun e w' => e = .returned (.bool (sameB x y)) ∧ Below W.heap.size W w') := fun W h => Ops.refSame_any (hru.keeps h) (hru'.keeps h)
      have HO : Hid (∀ v : Value, opv x v = .agg #[.int .u8 (x.k : Int), .int .u32 (x.t : Int), .int .u8 (x.r : Int), v, .int .i64 x.p]) := fun v => rfl
      have HO' : Hid (∀ v : Value, opv y v = .agg #[.int .u8 (y.k : Int), .int .u32 (y.t : Int), .int .u8 (y.r : Int), v, .int .i64 y.p]) := fun v => rfl
      have HNO : Hid (sameB x y = false → q = false) := fun h => by
        rw [← HQ.out]
        refine decide_eq_false (fun e => ?_)
        have : x = y := by rw [hx, hy]; subst e; rfl
        rw [(sameB_iff x y).2 this] at h; cases h
      have HYES : Hid (sameB x y = true → ∀ k (h : k < l.length) (h' : k < m.length), k < j + 1 → l[k]'h = m[k]'h') := fun e k h h' hk => by
        by_cases ek : k = j
        · subst ek; rw [← hx, ← hy]; exact (sameB_iff x y).1 e
        · exact hall.out k h h' (by omega)
      obtain ⟨k, hk⟩ : ∃ k, x.k = k := ⟨_, rfl⟩
      obtain ⟨t, ht⟩ : ∃ k, x.t = k := ⟨_, rfl⟩
      obtain ⟨r, hr⟩ : ∃ k, x.r = k := ⟨_, rfl⟩
      obtain ⟨p, hp⟩ : ∃ k, x.p = k := ⟨_, rfl⟩
      rw [hk, ht, hr, hp] at HO
      rw [hk] at h0
      rw [ht] at h1
      rw [hr] at h2
      rw [hp] at h4
      obtain ⟨k', hk'⟩ : ∃ k, y.k = k := ⟨_, rfl⟩
      obtain ⟨t', ht'⟩ : ∃ k, y.t = k := ⟨_, rfl⟩
      obtain ⟨r', hr'⟩ : ∃ k, y.r = k := ⟨_, rfl⟩
      obtain ⟨p', hp'⟩ : ∃ k, y.p = k := ⟨_, rfl⟩
      rw [hk', ht', hr', hp'] at HO'
      rw [hk'] at h0'
      rw [ht'] at h1'
      rw [hr'] at h2'
      rw [hp'] at h4'
      simp only [HO.out, HO'.out] at SM
      obtain ⟨my, hmy⟩ : ∃ b, sameB x y = b := ⟨_, rfl⟩
      rw [hmy] at SM HNO HYES
      have F1 : Hid (FiveAt wr bb (oo + j * 5) (.int .u8 (k : Int)) (.int .u32 (t : Int)) (.int .u8 (r : Int)) u (.int .i64 p)) := ⟨hbb, h0, h1, h2, h3, h4⟩
      have F2 : Hid (FiveAt wr bb' (oo' + j * 5) (.int .u8 (k' : Int)) (.int .u32 (t' : Int)) (.int .u8 (r' : Int)) u' (.int .i64 p')) := ⟨hbb', h0', h1', h2', h3', h4'⟩
      have SK : Hid (∀ w' : World, Below wr.heap.size wr w' → Below wr.heap.size wr w' ∧ w'.cell? ⟨bb, oo + j * 5, none⟩ = some (.int .u8 (k : Int)) ∧ w'.cell? ⟨bb, oo + j * 5 + 1, none⟩ = some (.int .u32 (t : Int)) ∧ w'.cell? ⟨bb, oo + j * 5 + 2, none⟩ = some (.int .u8 (r : Int)) ∧ w'.cell? ⟨bb, oo + j * 5 + 3, none⟩ = some (u) ∧ w'.cell? ⟨bb, oo + j * 5 + 4, none⟩ = some (.int .i64 p) ∧ w'.cell? ⟨bb', oo' + j * 5, none⟩ = some (.int .u8 (k' : Int)) ∧ w'.cell? ⟨bb', oo' + j * 5 + 1, none⟩ = some (.int .u32 (t' : Int)) ∧ w'.cell? ⟨bb', oo' + j * 5 + 2, none⟩ = some (.int .u8 (r' : Int)) ∧ w'.cell? ⟨bb', oo' + j * 5 + 3, none⟩ = some (u') ∧ w'.cell? ⟨bb', oo' + j * 5 + 4, none⟩ = some (.int .i64 p')) := fun W h => by
        have a1 := (F1.out.keeps h).2
        have a2 := (F2.out.keeps h).2
        exact ⟨h, a1.1, a1.2.1, a1.2.2.1, a1.2.2.2.1, a1.2.2.2.2, a2.1, a2.2.1, a2.2.2.1, a2.2.2.2.1, a2.2.2.2.2⟩
      clear hru hru' hx hy hk ht hr hp hk' ht' hr' hp' hmy hall HO HO' h0 h1 h2 h3 h4 h0' h1' h2' h3' h4' F1 F2
      cases my
      · obtain rfl := HNO.out rfl
        go_wp2
        go_region_held3 (fun w' => Below wr.heap.size wr w' ∧ w'.cell? ⟨bb, oo + j * 5, none⟩ = some (.int .u8 (k : Int)) ∧ w'.cell? ⟨bb, oo + j * 5 + 1, none⟩ = some (.int .u32 (t : Int)) ∧ w'.cell? ⟨bb, oo + j * 5 + 2, none⟩ = some (.int .u8 (r : Int)) ∧ w'.cell? ⟨bb, oo + j * 5 + 3, none⟩ = some (u) ∧ w'.cell? ⟨bb, oo + j * 5 + 4, none⟩ = some (.int .i64 p) ∧ w'.cell? ⟨bb', oo' + j * 5, none⟩ = some (.int .u8 (k' : Int)) ∧ w'.cell? ⟨bb', oo' + j * 5 + 1, none⟩ = some (.int .u32 (t' : Int)) ∧ w'.cell? ⟨bb', oo' + j * 5 + 2, none⟩ = some (.int .u8 (r' : Int)) ∧ w'.cell? ⟨bb', oo' + j * 5 + 3, none⟩ = some (u') ∧ w'.cell? ⟨bb', oo' + j * 5 + 4, none⟩ = some (.int .i64 p'))
          (first | exact SK.out _ (drew1 _) | (go_split_ands; exact SK.out _ (bt (by assumption) (by assumption))) | (go_split_ands; refine SK.out _ (bt ?_ ?_) <;> assumption))
          ((go_at_call 30; go_split_ands; (with_reducible refine (SM.out _ (by assumption)).mono ?_); rintro e w9 ⟨rfl, b9⟩))
        go_wp2
        go_ret
        go_split_ands
        exact ⟨rfl, bt hbel.out (by assumption)⟩
      · have HY := Lib.hid (HYES.out rfl)
        clear HYES HNO
        go_wp2
        go_region_held3 (fun w' => Below wr.heap.size wr w' ∧ w'.cell? ⟨bb, oo + j * 5, none⟩ = some (.int .u8 (k : Int)) ∧ w'.cell? ⟨bb, oo + j * 5 + 1, none⟩ = some (.int .u32 (t : Int)) ∧ w'.cell? ⟨bb, oo + j * 5 + 2, none⟩ = some (.int .u8 (r : Int)) ∧ w'.cell? ⟨bb, oo + j * 5 + 3, none⟩ = some (u) ∧ w'.cell? ⟨bb, oo + j * 5 + 4, none⟩ = some (.int .i64 p) ∧ w'.cell? ⟨bb', oo' + j * 5, none⟩ = some (.int .u8 (k' : Int)) ∧ w'.cell? ⟨bb', oo' + j * 5 + 1, none⟩ = some (.int .u32 (t' : Int)) ∧ w'.cell? ⟨bb', oo' + j * 5 + 2, none⟩ = some (.int .u8 (r' : Int)) ∧ w'.cell? ⟨bb', oo' + j * 5 + 3, none⟩ = some (u') ∧ w'.cell? ⟨bb', oo' + j * 5 + 4, none⟩ = some (.int .i64 p'))
          (first | exact SK.out _ (drew1 _) | (go_split_ands; exact SK.out _ (bt (by assumption) (by assumption))) | (go_split_ands; refine SK.out _ (bt ?_ ?_) <;> assumption))
          ((go_at_call 30; go_split_ands; (with_reducible refine (SM.out _ (by assumption)).mono ?_); rintro e w9 ⟨rfl, b9⟩))
        go_wp2
        go_split_ands
        go_roundw
        case rel => exact ⟨j + 1, by omega, by go_num, HY, Lib.hid (bt hbel.out (by assumption))⟩
        case measure => simp [intOf]; omega
    · have q3 : decide (j < n) = false := by simpa using hjn
      obtain rfl : q = true := by
        rw [← HQ.out]
        refine decide_eq_true (List.ext_getElem (by rw [← HN.out, ← HN'.out]) (fun k h h' => hall.out k h h' (by have := HN.out; omega)))
      go_wp2
      go_ret
      exact ⟨rfl, hbel.out⟩
end Go.Proofs.YtpgdnenkjommfaaGreat.Codes

/- octavoref10.Twin: what it answers. Conditions: the slice's cells are operations, not more than memory holds. -/
namespace Go.Proofs.YtpgdnenkjommfaaGreat.Codes
open Go.RowKit Go.WideShapes Go.Proofs.YtpgdnenkjommfaaGreat.Place Ops
attribute [local go_sem ↓] Go.wp_at_zero Go.wp_at_succ

set_option maxRecDepth 100000 in
set_option maxHeartbeats 4000000 in
theorem twinL_any {v : Value} {l : List Opn} {w : World} (hv : OpL w v l) (hl : l.length ≤ 1000000000) (hp : ∀ o ∈ l, o.pl.length ≤ 8796093022208) :
    Calls Tryz.prog 15 #[v] w fun e w' => ∃ v', e = .returned v' ∧ OwnL w' w.heap.size v' l ∧ Below w.heap.size w w' := by
  obtain ⟨ao, cap, rfl⟩ := hv.shape
  obtain ⟨n, hn⟩ : ∃ n, n = l.length := ⟨_, rfl⟩
  have HV : Hid (∀ W : World, Below w.heap.size w W → OpL W (.slice ao l.length cap) l) := fun W h => hv.keeps h
  have HN := Lib.hid hn
  have HP := Lib.hid hp
  rw [← hn] at hl ⊢
  have L0 : Hid (OwnL w w.heap.size (.slice none 0 0) (l.take 0)) := OwnL.nil _ _
  have B0 : Hid (Below w.heap.size w w) := Below.refl _ _
  clear hv hn hp
  go_enter Tryz.func15, Tryz.ntmps15
  go_wp2
  go_loopw [3, 4] (fun v i wr => ∃ j : Nat, j ≤ n ∧ i = .int .i64 (j : Int) ∧ (∃ ao cap, v = .slice ao j cap) ∧ Hid (OwnL wr w.heap.size v (l.take j)) ∧ Hid (Below w.heap.size w wr)) (fun _ i _ => n - (intOf i).toNat)
  case atStart => exact ⟨0, by omega, rfl, ⟨none, 0, rfl⟩, L0, B0⟩
  case round =>
    clear L0 B0
    obtain ⟨j, hj, rfl, ⟨aoL, capL, rfl⟩, hown, hbel⟩ := hrel
    by_cases hjn : j < n
    · have q3 : decide (j < n) = true := by simpa using hjn
      have q4 : (0 : Int) ≤ (j : Int) := by omega
      have q5 : (j : Int) < (n : Int) := by omega
      have hjl : j < l.length := by rw [← HN.out]; exact hjn
      obtain ⟨bb, oo, u, rfl, hbb, hru, h0, h1, h2, h3, h4⟩ := opl_at (HV.out wr hbel.out) j hjl
      obtain ⟨x, hx⟩ : ∃ x, x = l[j]'hjl := ⟨_, rfl⟩
      have hst : l.take (j + 1) = l.take j ++ [x] := by rw [List.take_succ_eq_append_getElem hjl, hx]
      have hpx : x.pl.length ≤ 8796093022208 := HP.out x (by rw [hx]; exact List.getElem_mem hjl)
      rw [← hx] at hru h0 h1 h2 h4
      have HST := Lib.hid hst
      have TW : Hid (Calls Tryz.prog 33 #[opv x u] wr fun e w' => ∃ ao cap, e = .returned (opv x (.slice ao x.pl.length cap)) ∧ w'.ownsRow wr.heap.size 45 3 (.slice ao x.pl.length cap) x.pl.length (runs x.pl) ∧ Below wr.heap.size wr w') := by
        refine (refTwin_any hru hpx).mono ?_
        rintro e w' ⟨v', rfl, ho, hb⟩
        obtain ⟨ao', cap', rfl⟩ : ∃ ao cap, v' = .slice ao x.pl.length cap := Sees.shape (Sees.own ho)
        exact ⟨ao', cap', rfl, ho, hb⟩
      have HO : Hid (∀ v : Value, opv x v = .agg #[.int .u8 (x.k : Int), .int .u32 (x.t : Int), .int .u8 (x.r : Int), v, .int .i64 x.p]) := fun v => rfl
      obtain ⟨k, hk⟩ : ∃ k, x.k = k := ⟨_, rfl⟩
      obtain ⟨t, ht⟩ : ∃ k, x.t = k := ⟨_, rfl⟩
      obtain ⟨r, hr⟩ : ∃ k, x.r = k := ⟨_, rfl⟩
      obtain ⟨p, hp⟩ : ∃ k, x.p = k := ⟨_, rfl⟩
      have HFV : Hid (∀ v : Value, [.int .u8 (k : Int), .int .u32 (t : Int), .int .u8 (r : Int), v, .int .i64 p] = [Value.int .u8 (x.k : Int), .int .u32 (x.t : Int), .int .u8 (x.r : Int), v, .int .i64 x.p]) := fun v => by rw [hk, ht, hr, hp]
      rw [hk, ht, hr, hp] at HO
      rw [hk] at h0
      rw [ht] at h1
      rw [hr] at h2
      rw [hp] at h4
      obtain ⟨no, hno⟩ : ∃ n, n = x.pl.length := ⟨_, rfl⟩
      have HNO := Lib.hid hno
      rw [← hno] at TW
      simp only [HO.out] at TW
      have HLT : Hid ((l.take j).length = j) := by unfold Hid; rw [List.length_take, ← HN.out]; omega
      have hsz : w.heap.size ≤ wr.heap.size := hbel.out.size
      have HSZ := Lib.hid hsz
      clear hru hx hk ht hr hp hno hst hpx hsz
      go_wp2_with fail
      refine TW.out.mono ?_
      rintro e w5 ⟨aoO, capO, rfl, o5, b5⟩
      have L5 := Lib.hid (hown.out.keeps b5)
      have B5 := Lib.hid (bt hbel.out b5)
      obtain ⟨cs, lo, lh⟩ := L5.out
      rw [HLT.out] at lo
      have LO := Lib.hid lo
      have LH := Lib.hid lh
      have PO : Hid (w5.ownsRow w.heap.size 45 3 (.slice aoO no capO) no (runs x.pl)) := op_base o5 HSZ.out
      have SE : Hid (Sees (w5.alloc (.cells #[.int .u8 (k : Int), .int .u32 (t : Int), .int .u8 (r : Int), .slice aoO no capO, .int .i64 p] 43)) (.slice (some ⟨w5.heap.size, 0, none⟩) 1 1) 5 1 [.int .u8 (k : Int), .int .u32 (t : Int), .int .u8 (r : Int), .slice aoO no capO, .int .i64 p]) := sees_new w5 [.int .u8 (k : Int), .int .u32 (t : Int), .int .u8 (r : Int), .slice aoO no capO, .int .i64 p] 5 1 rfl (by omega) 43 (0, 0)
      have OA : Hid ((w5.alloc (.cells #[.int .u8 (k : Int), .int .u32 (t : Int), .int .u8 (r : Int), .slice aoO no capO, .int .i64 p] 43)).ownsRow w.heap.size 43 5 (.slice aoL j capL) j cs) := own_stays LO.out ((Below.refl _ _).alloc (Nat.le_refl _) _)
      have FO : ∀ z ∈ [Value.int .u8 (k : Int), .int .u32 (t : Int), .int .u8 (r : Int), .slice aoO no capO, .int .i64 p], z.oneCell' = true := by rw [HFV.out]; exact five_one x _ ⟨_, _, _, rfl⟩
      have FO2 := Lib.hid FO
      have bz : w.heap.size ≤ (w5.alloc (.cells #[.int .u8 (k : Int), .int .u32 (t : Int), .int .u8 (r : Int), .slice aoO no capO, .int .i64 p] 43)).heap.size := by have := B5.out.size; simp; omega
      clear o5 b5 lo lh FO hown hbel L5
      go_wp2_with (at_builtin; refine wpList_append_sees rfl (.tmp 11) (.tmp 17) 22 43 rfl Tryz.underlying22 op_info rfl (by decide) w.heap.size _ j cs rfl OA.out _ 1 [.int .u8 (k : Int), .int .u32 (t : Int), .int .u8 (r : Int), .slice aoO no capO, .int .i64 p] rfl SE.out FO2.out ?k1 ?k2 ?k3 ?_)
      case k1 => omega
      case k2 => omega
      case k3 => exact bz
      rintro v6 w6 o6 g6 b6
      have L6 : Hid (OwnL w6 w.heap.size v6 (l.take (j + 1))) := by
        have lo2 := LO.out
        have o7 := o6
        rw [HFV.out] at o7
        have po := own_stays (PO.out) ((Below.refl _ _).alloc (Nat.le_refl _) (.cells #[.int .u8 (k : Int), .int .u32 (t : Int), .int .u8 (r : Int), .slice aoO no capO, .int .i64 p] 43))
        have gx := g6
        unfold Hid
        rw [HST.out]
        rw [← HLT.out] at lo2 gx
        rw [HNO.out] at po o7
        refine OwnL.snoc (W := w5) (W8 := w5.alloc (.cells #[.int .u8 (k : Int), .int .u32 (t : Int), .int .u8 (r : Int), .slice aoO no capO, .int .i64 p] 43)) (m := j + 1) lo2 LH.out ((Below.refl _ _).alloc (Nat.le_refl _) _) ?_ gx o7 (by rw [HLT.out])
        rw [HNO.out]
        exact po
      have B6 : Hid (Below w.heap.size w w6) := (B5.out.alloc B5.out.size _).trans b6
      obtain ⟨va, vc, rfl⟩ : ∃ ao cap, v6 = .slice ao (j + 1) cap := Sees.shape (Sees.own o6)
      clear o6 g6 b6 OA SE LO LH PO B5 bz
      go_wp2
      go_roundw
      case rel => exact ⟨j + 1, by omega, by go_num, ⟨va, vc, rfl⟩, L6, B6⟩
      case measure => simp [intOf]; omega
    · have q3 : decide (j < n) = false := by simpa using hjn
      have hkk : l.take j = l := List.take_of_length_le (by have := HN.out; omega)
      rw [hkk] at hown
      clear hkk
      go_wp2
      go_ret
      exact ⟨_, rfl, hown.out, hbel.out⟩
end Go.Proofs.YtpgdnenkjommfaaGreat.Codes

/- octavoref11.Find, Same, Twin: what each answers. Conditions: the slices' cells are operations; Twin's: not more than memory holds. -/
namespace Go.Proofs.YtpgdnenkjommfaaGreat.Bags
open Go.RowKit Go.WideShapes Stamp Go.Proofs.YtpgdnenkjommfaaGreat.Place Ops Codes
attribute [local go_sem ↓] Go.wp_at_zero Go.wp_at_succ
attribute [local go_sem] yielded_undef

theorem refSameL_any {u v : Value} {l m : List Opn} {w : World} (hu : OpL w u l) (hv : OpL w v m) :
    Calls Tryz.prog 14 #[u, v] w fun e w' => e = .returned (.bool (decide (l = m))) ∧ Below w.heap.size w w' := by
  have C := Lib.hid (sameL_any hu hv)
  obtain ⟨q, hq⟩ : ∃ q, decide (l = m) = q := ⟨_, rfl⟩
  rw [hq] at C ⊢
  clear hu hv hq
  go_enter Tryz.func14, Tryz.ntmps14
  go_wp2_with fail
  refine C.out.mono ?_
  rintro e w1 ⟨rfl, b1⟩
  have B1 := Lib.hid b1
  clear b1
  go_wp2
  go_ret
  exact ⟨rfl, B1.out⟩
theorem refTwinL_any {v : Value} {l : List Opn} {w : World} (hv : OpL w v l) (hl : l.length ≤ 1000000000) (hp : ∀ o ∈ l, o.pl.length ≤ 8796093022208) :
    Calls Tryz.prog 5 #[v] w fun e w' => ∃ v', e = .returned v' ∧ OwnL w' w.heap.size v' l ∧ Below w.heap.size w w' := by
  have C := Lib.hid (twinL_any hv hl hp)
  clear hv hl hp
  go_enter Tryz.func5, Tryz.ntmps5
  go_wp2_with fail
  refine C.out.mono ?_
  rintro e w1 ⟨v1, rfl, o1, b1⟩
  have B1 := Lib.hid b1
  have O1 := Lib.hid o1
  clear b1 o1
  go_wp2
  go_ret
  exact ⟨_, rfl, O1.out, B1.out⟩
end Go.Proofs.YtpgdnenkjommfaaGreat.Bags

/- What calls of bag answer, in shape: lists of the call's own; how long they can be. Conditions: none. -/
namespace Go.Proofs.YtpgdnenkjommfaaGreat.Bags
open Go.RowKit Go.WideShapes Stamp Go.Proofs.YtpgdnenkjommfaaGreat.Place Ops Codes

/-- Operations of the call's own, and an error. -/
def DoneN (L : List Opn) (x : Int) (w : World) (e : Ending) (w' : World) : Prop := ∃ v, e = .returned (.tuple #[v, .int .i64 x]) ∧ OwnL w' w.heap.size v L ∧ Below w.heap.size w w'
theorem mayO_fits {o : Opn} (h : mayO o = true) : o.pl.length ≤ 64 := ((mayB_iff o.pl).1 (mayO_parts h).2.1).2.1
end Go.Proofs.YtpgdnenkjommfaaGreat.Bags
