/- octavo/clock.inShort: what it answers. Conditions: the row is the call's own; its numbers are times; slices.Sort puts so many in order. -/
import Derived.Test.YtinglfhndlklaaaClockCode2
import Derived.Test.YtinglfhndlklaaaSrtSmall
namespace Go.Proofs.Ytinglfhndlklaaa.Clocks
open Go.RowKit Go.Proofs.Ytinglfhndlklaaa.Spans
attribute [local go_sem ↓] Go.wp_at_zero Go.wp_at_succ

/-- A time behind spans. -/
def shT : List Sp → Nat → List Sp
  | [], t => [mk t t]
  | [x], t => if t ≤ x.t + 1 then [mk x.f t] else [x, mk t t]
  | x :: y :: l, t => x :: shT (y :: l) t
theorem shT_snoc : ∀ (l : List Sp) (x : Sp) (t : Nat), shT (l ++ [x]) t = if t ≤ x.t + 1 then l ++ [mk x.f t] else l ++ [x] ++ [mk t t]
  | [], x, t => rfl
  | [y], x, t => by
    show y :: shT [x] t = _
    unfold shT
    split <;> rfl
  | y :: z :: l, x, t => by
    have ih := shT_snoc (z :: l) x t
    show y :: shT (z :: (l ++ [x])) t = _
    rw [show z :: (l ++ [x]) = z :: l ++ [x] from rfl, ih]
    split <;> rfl
theorem sh_step {S : List Sp} {zs : List Nat} {t : Nat} (hf : Fine S) (hin : ∀ n, In S n ↔ n ∈ zs) (hle : ∀ z ∈ zs, z ≤ t) (h1 : 1 ≤ t) (h2 : t ≤ 1073741824) :
    Fine (shT S t) ∧ (∀ n, In (shT S t) n ↔ n ∈ zs ++ [t]) ∧ (shT S t).length ≤ S.length + 1 := by
  have hb : t < 4294967296 := by omega
  have mt : (mk t t).f = t ∧ (mk t t).t = t := ⟨mk_f hb, mk_t hb⟩
  have hok : Ok (mk t t) := by unfold Ok; rw [mt.1, mt.2]; omega
  rcases nil_or_snoc S with rfl | ⟨m, x, rfl⟩
  · refine ⟨hok, fun n => ?_, by simp [shT]⟩
    show In [mk t t] n ↔ _
    rw [in_cons, mt.1, mt.2, List.mem_append, ← hin, List.mem_singleton]
    constructor
    · rintro (h | h)
      · exact .inr (by omega)
      · exact absurd h (in_nil n)
    · rintro (h | h)
      · exact absurd h (in_nil n)
      · exact .inl (by omega)
  · have hx := fine_snoc_ok hf
    have hm := fine_front hf
    have hlast := fine_last hf
    have hxf := x.hf
    have hxz : x.t ≤ t := hle _ ((hin x.t).1 (in_append.2 (.inr (in_cons.2 (.inl ⟨by unfold Ok at hx; omega, Nat.le_refl _⟩)))))
    have hx' := hx
    unfold Ok at hx'
    rw [shT_snoc]
    split
    · rename_i hc
      have mx : (mk x.f t).f = x.f ∧ (mk x.f t).t = t := ⟨mk_f hxf, mk_t hb⟩
      refine ⟨fine_append hm (show Ok _ by unfold Ok; rw [mx.1, mx.2]; omega) (fun a ha b hb' => ?_), fun n => ?_, by simp⟩
      · rw [List.mem_singleton] at hb'
        subst hb'
        rw [mx.1]
        exact hlast a ha
      · rw [in_append, in_cons, mx.1, mx.2, List.mem_append, List.mem_singleton, ← hin, in_append, in_cons]
        constructor
        · rintro (h | h | h)
          · exact .inl (.inl h)
          · by_cases e : n = t
            · exact .inr e
            · exact .inl (.inr (.inl (by omega)))
          · exact absurd h (in_nil n)
        · rintro ((h | h | h) | h)
          · exact .inl h
          · exact .inr (.inl (by omega))
          · exact absurd h (in_nil n)
          · exact .inr (.inl (by omega))
    · rename_i hc
      refine ⟨fine_append hf hok (fun a ha b hb' => ?_), fun n => ?_, by simp⟩
      · rw [List.mem_singleton] at hb'
        subst hb'
        rw [mt.1]
        rcases List.mem_append.1 ha with ha | ha
        · have := hlast a ha; omega
        · rw [List.mem_singleton] at ha; subst ha; omega
      · rw [in_append, in_cons, mt.1, mt.2, List.mem_append, List.mem_singleton, ← hin]
        constructor
        · rintro (h | h | h)
          · exact .inl h
          · exact .inr (by omega)
          · exact absurd h (in_nil n)
        · rintro (h | h)
          · exact .inl h
          · exact .inr (.inl (by omega))
/-- The spans of times in order. -/
def short (ys : List Nat) : List Sp := ys.foldl shT []
theorem short_snoc (ys : List Nat) (t : Nat) : short (ys ++ [t]) = shT (short ys) t := by unfold short; rw [List.foldl_append]; rfl
theorem short_ok {ys : List Nat} (hi : Srt.Inc 0 ys.length ys) (hok : ∀ t ∈ ys, 1 ≤ t ∧ t ≤ 1073741824) : ∀ k, k ≤ ys.length → Fine (short (ys.take k)) ∧ (∀ n, In (short (ys.take k)) n ↔ n ∈ ys.take k) ∧ (short (ys.take k)).length ≤ k
  | 0, _ => ⟨trivial, fun n => by simp [short, in_nil], by simp [short]⟩
  | k + 1, hk => by
    obtain ⟨h1, h2, h3⟩ := short_ok hi hok k (by omega)
    have e : ys.take (k + 1) = ys.take k ++ [ys.getD k 0] := by
      rw [List.take_succ_eq_append_getElem (by omega)]
      simp [List.getD, List.getElem?_eq_getElem (show k < ys.length by omega)]
    have hm := hok _ (Srt.getD_mem (show k < ys.length by omega))
    have hle : ∀ z ∈ ys.take k, z ≤ ys.getD k 0 := fun z hz => by
      obtain ⟨i, hi1, rfl⟩ := Srt.mem_getD hz
      rw [List.length_take] at hi1
      have : (ys.take k).getD i 0 = ys.getD i 0 := by simp only [List.getD, List.getElem?_take]; rw [if_pos (by omega)]
      rw [this]
      exact hi i k (by omega) (by omega) (by omega)
    obtain ⟨g1, g2, g3⟩ := sh_step h1 h2 hle hm.1 hm.2
    rw [e, short_snoc]
    exact ⟨g1, g2, by omega⟩

/-- What inShort answers: the spans of just these times, of its own; the row alone is written. -/
def InS (v : Value) (xs : List Nat) (w : World) (e : Ending) (w' : World) : Prop :=
  ∃ v' S, e = .returned v' ∧ w'.ownsRow w.heap.size 63 2 v' S.length (sps S) ∧ Fine S ∧ (∀ n, In S n ↔ n ∈ xs) ∧ S.length ≤ xs.length ∧ w.grownBy w' v.ownBlock
theorem inShort_nil (w : World) : Calls Try.prog 44 #[.slice none 0 0] w (InS (.slice none 0 0) [] w) := by
  have S := Lib.hid (Srt.sort_nil w)
  go_enter Try.func44, Try.ntmps44
  go_wp2_with fail
  refine S.out.mono ?_
  rintro e w1 ⟨rfl, rfl⟩
  go_wp2
  go_loopw [3, 11] (fun l i wr => wr = w1 ∧ l = .slice none 0 0 ∧ i = .int .i64 0) (fun _ _ _ => 0)
  case atStart => exact ⟨rfl, rfl, rfl⟩
  case round =>
    obtain ⟨rfl, rfl, rfl⟩ := hrel
    go_wp2
    go_ret
    exact ⟨_, [], rfl, World.ownsRow_nil _ _ _ _, trivial, fun n => by simp [in_nil], by simp, World.grownBy.refl _ _⟩
set_option maxRecDepth 100000 in
set_option maxHeartbeats 8000000 in
theorem inShort_row {K : Nat} (HS : Srt.SortC K) (hK : K ≤ 1000000) {B g n cap : Nat} {xs : List Nat} {w : World} (hr : Srt.Row w B g n cap xs) (hn : n ≤ K) (hok : ∀ t ∈ xs, 1 ≤ t ∧ t ≤ 1073741824) :
    Calls Try.prog 44 #[.slice (some ⟨g, 0, none⟩) n cap] w (InS (.slice (some ⟨g, 0, none⟩) n cap) xs w) := by
  have CS := Lib.hid (HS B g n cap xs w hr hn)
  have hxn := hr.len
  have hgw := hr.lt
  have HOK := Lib.hid hok
  clear hr hok
  go_enter Try.func44, Try.ntmps44
  go_wp2_with fail
  refine CS.out.mono ?_
  rintro e w1 ⟨rfl, ys, r1, g1, s1, i1⟩
  have hyn := r1.len
  have R1 := Lib.hid r1
  have G1 := Lib.hid g1
  have hsw : Srt.Sw 0 xs.length xs ys := by rw [hxn]; exact s1
  have MEM := Lib.hid (fun v => hsw.mem v)
  have hok2 : ∀ t ∈ ys, 1 ≤ t ∧ t ≤ 1073741824 := fun t ht => HOK.out t ((MEM.out t).1 ht)
  have SH := Lib.hid (short_ok (by rw [hyn]; exact i1) hok2)
  have OK2 := Lib.hid hok2
  have hsz1 : w.heap.size ≤ w1.heap.size := g1.size
  have O0 : Hid (w1.ownsRow w.heap.size 63 2 (.slice none 0 0) (short (ys.take 0)).length (sps (short (ys.take 0)))) := World.ownsRow_nil _ _ _ _
  have B0 := Lib.hid (Below.refl w.heap.size w1)
  have HXN := Lib.hid hxn
  have HYN := Lib.hid hyn
  clear r1 g1 s1 i1 hsw hok2 hxn hyn
  go_wp2
  go_loopw [3, 11] (fun o i wr => ∃ k : Nat, k ≤ n ∧ i = .int .i64 (k : Int) ∧ Hid (wr.ownsRow w.heap.size 63 2 o (short (ys.take k)).length (sps (short (ys.take k)))) ∧ Hid (Below w.heap.size w1 wr)) (fun _ i _ => n - (intOf i).toNat)
  case atStart => exact ⟨0, by omega, rfl, O0, B0⟩
  case round =>
    clear O0 B0
    obtain ⟨k, hk, rfl, hown, hbel⟩ := hrel
    obtain ⟨wo, rfl⟩ : ∃ wo : World, wo = wr := ⟨_, rfl⟩
    by_cases hkn : k < n
    · have q1 : decide (k < n) = true := by simpa using hkn
      have q2 : (0 : Int) ≤ (k : Int) := by omega
      have q3 : (k : Int) < (n : Int) := by omega
      have hkl : k < ys.length := by rw [HYN.out]; exact hkn
      have c0 := (hbel.out.cell (p := ⟨g, k, none⟩) hgw).trans (R1.out.cell k hkn)
      have e : ys.take (k + 1) = ys.take k ++ [ys.getD k 0] := by
        rw [List.take_succ_eq_append_getElem hkl]
        simp [List.getD, List.getElem?_eq_getElem hkl]
      have hsn := short_snoc (ys.take k) (ys.getD k 0)
      rw [← e] at hsn
      have hto := OK2.out _ (Srt.getD_mem hkl)
      obtain ⟨t, ht⟩ : ∃ t, t = ys.getD k 0 := ⟨_, rfl⟩
      rw [← ht] at c0 hsn hto
      obtain ⟨f1, f2, f3⟩ := SH.out k (by omega)
      obtain ⟨S, hS⟩ : ∃ S, S = short (ys.take k) := ⟨_, rfl⟩
      rw [← hS] at hown hsn f1 f2 f3
      have HSN := Lib.hid hsn
      have htb : t < 4294967296 := by omega
      have hszo : w.heap.size ≤ wo.heap.size := Nat.le_trans hsz1 hbel.out.size
      have SE : Hid (Sees (wo.alloc (.cells #[.int .u32 (t : Int), .int .u32 (t : Int)] 63)) (.slice (some ⟨wo.heap.size, 0, none⟩) 1 1) 2 1 (sps [mk t t])) := sees_sp (kb_new rfl) (by rw [mk_f htb]) (by rw [mk_t htb])
      have BX := Lib.hid ((Below.refl wo.heap.size wo).alloc (Nat.le_refl _) (.cells #[.int .u32 (t : Int), .int .u32 (t : Int)] 63))
      have HF1 := Lib.hid f1
      clear e hsn ht hS f1 f2
      rcases nil_or_snoc S with rfl | ⟨m, x, rfl⟩
      · have EQ : Hid (short (ys.take (k + 1)) = [mk t t]) := HSN.out
        have i1 : ((0 : Nat) : Int) - 1 = -1 := by decide
        have OX := Lib.hid (own_stays hown.out BX.out)
        obtain ⟨ao, ac, rfl⟩ := Sees.shape (Sees.own hown.out)
        clear hown HSN
        go_wp2_with (at_builtin; refine wpList_append_sees rfl (.tmp 35) (.tmp 39) 26 63 rfl Try.underlying26 span_info rfl (by decide) w.heap.size _ 0 [] rfl OX.out _ 1 _ rfl SE.out (sps_oneCell _) ?a1 ?a2 ?a3 ?_)
        case a1 => omega
        case a2 => omega
        case a3 => exact Nat.le_trans hszo BX.out.size
        rintro v5 w5 o5 g5 b5
        have O5 : Hid (w5.ownsRow w.heap.size 63 2 v5 (short (ys.take (k + 1))).length (sps (short (ys.take (k + 1))))) := by show World.ownsRow _ _ _ _ _ _ _; rw [EQ.out]; exact o5
        have B5 := Lib.hid (hbel.out.trans ((BX.out.mono hszo).trans b5))
        clear o5 g5 b5 OX SE BX
        go_wp2
        go_roundw
        case rel => exact ⟨k + 1, by omega, by go_num, O5, B5⟩
        case measure => simp [intOf]; omega
      · obtain ⟨j, hj⟩ : ∃ j, j = m.length := ⟨_, rfl⟩
        have hlen : (m ++ [x]).length = j + 1 := by simp [hj]
        have hget : (m ++ [x]).getD j zsp = x := by simp [hj]
        have hxo := fine_snoc_ok HF1.out
        have hset := sps_set_last m x t htb
        rw [← hj] at hset
        obtain ⟨ao, ac, rfl⟩ := Sees.shape (Sees.own hown.out)
        have hsee := Sps.at (Sps.own hown.out) j (by omega)
        rw [hget] at hsee
        have hv := hown.out
        rw [hlen] at hv f3 ⊢
        obtain ⟨q, hq⟩ : ∃ q, ao = some ⟨q, 0, none⟩ := by
          rcases hv.2 with ⟨h0, h1⟩ | ⟨q, c, cur, h0, _⟩
          · omega
          · cases h0; exact ⟨q, rfl⟩
        subst hq
        obtain ⟨b', off', he, hgl, hx0, hx1⟩ := hsee
        obtain ⟨rfl, rfl⟩ : q = b' ∧ 0 = off' := by simpa using he
        rw [Nat.zero_add] at hx0 hx1
        have hfz := hv.frozenAt (j * 2 + 1)
        have hqb : w.heap.size ≤ q := (hv.lt q rfl).1
        have hsn := HSN.out
        rw [shT_snoc] at hsn
        have HV := Lib.hid hv
        have HSET := Lib.hid hset
        have HJ := Lib.hid hj
        unfold Ok at hxo
        have i1 : ((j + 1 : Nat) : Int) - 1 = (j : Int) := by omega
        have i1' : (j : Int) + 1 - 1 = (j : Int) := by omega
        have i2 : IntKind.i64.wrap (j : Int) = (j : Int) := IntWalk.i64_in _ (by omega)
        have i3 : (0 : Int) ≤ (j : Int) := by omega
        have i4 : (j : Int) < ((j + 1 : Nat) : Int) := by omega
        have i4' : (j : Int) < (j : Int) + 1 := by omega
        have eT : IntKind.u32.wrap ((x.t : Int) + 1) = (x.t : Int) + 1 := by rw [IntKind.wrap_u32]; omega
        by_cases hc : t ≤ x.t + 1
        · have s1 : decide ((t : Int) ≤ (x.t : Int) + 1) = true := decide_eq_true (by omega)
          have s2 : decide (t ≤ x.t + 1) = true := decide_eq_true hc
          rw [if_pos hc] at hsn
          have O5 : Hid ((wo.setCell ⟨q, j * 2 + 1, none⟩ (.int .u32 (t : Int))).ownsRow w.heap.size 63 2 (.slice (some ⟨q, 0, none⟩) (j + 1) ac) (short (ys.take (k + 1))).length (sps (short (ys.take (k + 1))))) := by
            show World.ownsRow _ _ _ _ _ _ _
            rw [hsn, show (m ++ [mk x.f t]).length = j + 1 by simp [HJ.out], ← HSET.out]
            exact (HV.out.stored (j * 2 + 1) _).1
          have B5 : Hid (Below w.heap.size w1 (wo.setCell ⟨q, j * 2 + 1, none⟩ (.int .u32 (t : Int)))) := hbel.out.setCell (p := ⟨q, j * 2 + 1, none⟩) hqb _
          clear hsn hv hset hown HSN hlen hget he hj hxo
          obtain ⟨xf, xt, hxf, hxt⟩ := x
          simp only at hx0 hx1 s1 s2 eT
          go_wp2
          go_roundw
          case rel => exact ⟨k + 1, by omega, by go_num, O5, B5⟩
          case measure => simp [intOf]; omega
        · have s1 : decide ((t : Int) ≤ (x.t : Int) + 1) = false := decide_eq_false (by omega)
          have s2 : decide (t ≤ x.t + 1) = false := decide_eq_false hc
          rw [if_neg hc] at hsn
          have EQ := Lib.hid hsn
          have OX := Lib.hid (own_stays HV.out BX.out)
          clear hsn hv hset hown HSN hlen hget he hj hxo
          obtain ⟨xf, xt, hxf, hxt⟩ := x
          simp only at hx0 hx1 s1 s2 eT
          go_wp2_with (at_builtin; refine wpList_append_sees rfl (.tmp 35) (.tmp 39) 26 63 rfl Try.underlying26 span_info rfl (by decide) w.heap.size (.slice (some ⟨q, 0, none⟩) (j + 1) ac) (j + 1) (sps (m ++ [⟨xf, xt, hxf, hxt⟩])) rfl OX.out _ 1 _ rfl SE.out (sps_oneCell _) ?a1 ?a2 ?a3 ?_)
          case a1 => omega
          case a2 => omega
          case a3 => exact Nat.le_trans hszo (Nat.le_succ _)
          rintro v5 w5 o5 g5 b5
          have O5 : Hid (w5.ownsRow w.heap.size 63 2 v5 (short (ys.take (k + 1))).length (sps (short (ys.take (k + 1))))) := by
            show World.ownsRow _ _ _ _ _ _ _
            rw [EQ.out, sps_append (m ++ [_]), List.length_append, show (m ++ [(⟨xf, xt, hxf, hxt⟩ : Sp)]).length = j + 1 by simp [HJ.out]]
            exact o5
          have B5 := Lib.hid (hbel.out.trans ((BX.out.mono hszo).trans b5))
          clear o5 g5 b5 OX SE BX
          go_wp2
          go_roundw
          case rel => exact ⟨k + 1, by omega, by go_num, O5, B5⟩
          case measure => simp [intOf]; omega
    · have q1 : decide (k < n) = false := by simpa using hkn
      obtain rfl : k = n := by omega
      have hkk : ys.take k = ys := List.take_of_length_le (by rw [HYN.out]; exact Nat.le_refl _)
      obtain ⟨f1, f2, f3⟩ := SH.out k (by rw [HYN.out]; exact Nat.le_refl _)
      rw [hkk] at f1 f2 f3 hown
      have FIN : Hid (∀ n, In (short ys) n ↔ n ∈ xs) := fun n => by rw [f2 n]; exact MEM.out n
      have F1 := Lib.hid f1
      have GR : Hid (w.grownBy wo (some g)) := ⟨hbel.out.os.trans G1.out.os, hbel.out.tape.trans G1.out.tape, hbel.out.output.trans G1.out.output, Nat.le_trans hsz1 hbel.out.size, fun i hi hne => (hbel.out.block i hi).trans (G1.out.block i hi hne)⟩
      clear hkk f1 f2
      go_wp2
      go_ret
      exact ⟨_, short ys, rfl, hown.out, F1.out, FIN.out, by rw [HXN.out]; exact f3, GR.out⟩
end Go.Proofs.Ytinglfhndlklaaa.Clocks
