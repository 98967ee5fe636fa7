/- The laws of layer 1 answer true, and change nothing that was there. Conditions: none. -/
import Derived.Deep.LoopGhost
import Derived.Laws.AppendOwnNone
import Derived.WideShapes
import Derived.Test.YtelilmhnfmojkaaPk08
import Derived.Test.YtelilmhnfmojkaaPk01
import Derived.Test.YtelilmhnfmojkaaPk06

namespace Go.Proofs.Ytelilmhnfmojkaa.Num
open Go.RowKit

theorem get_reads {w : World} {v : Value} {xs : List UInt8} (h : Reads w v xs) {a b c : Nat} (hg : get xs = (a, b, c)) :
    Calls Try.prog 44 #[v] w fun e w' => e = .returned (.tuple #[.int .i64 (a : Int), .int .i64 (b : Int), .int .i64 (c : Int)]) ∧ w = w' := by
  have e0 : ans (get xs) = .tuple #[.int .i64 (a : Int), .int .i64 (b : Int), .int .i64 (c : Int)] := by rw [hg]; rfl
  rw [← e0]
  obtain ⟨h1, ao, cap, rfl, h2, h3, h4, h5⟩ := h
  by_cases hx : xs = []
  · subst hx; exact get_nil ao cap w
  · rcases h5 with h5 | ⟨b, off, rfl, hlt, hc⟩
    · exact absurd h5 hx
    · exact get_some b off cap xs (List.length_pos_iff.2 hx) h1 w hc

theorem refGet_reads {w : World} {v : Value} {xs : List UInt8} (h : Reads w v xs) {a b c : Nat} (hg : get xs = (a, b, c)) :
    Calls Try.prog 39 #[v] w fun e w' => e = .returned (.tuple #[.int .i64 (a : Int), .int .i64 (b : Int), .int .i64 (c : Int)]) ∧ w = w' := by
  have e0 : ans (get xs) = .tuple #[.int .i64 (a : Int), .int .i64 (b : Int), .int .i64 (c : Int)] := by rw [hg]; rfl
  rw [← e0]
  obtain ⟨h1, ao, cap, rfl, h2, h3, h4, h5⟩ := h
  by_cases hx : xs = []
  · subst hx; exact refGet_nil ao cap w
  · rcases h5 with h5 | ⟨b, off, rfl, hlt, hc⟩
    · exact absurd h5 hx
    · exact refGet_some b off cap xs (List.length_pos_iff.2 hx) h1 w hc



/-- What Put answers: a number's bytes, or a refusal. -/
def Out (n : Int) (ao : Option Addr) (len cap : Nat) (c : Int) (base : Nat) (w : World) : Prop :=
  (0 ≤ n ∧ n ≤ 1099511627776 ∧ c = 0 ∧ len = (enc n.toNat).length ∧ w.ownsRow base 5 1 (.slice ao len cap) (enc n.toNat).length (bs (enc n.toNat))) ∨
  ((n < 0 ∨ 1099511627776 < n) ∧ c = 2 ∧ ao = none ∧ len = 0 ∧ cap = 0)

theorem out_of {n : Nat} {v : Value} {base : Nat} {w : World} (hn : n ≤ most) (h : w.ownsRow base 5 1 v (enc n).length (bs (enc n))) : ∃ ao len cap, v = .slice ao len cap ∧ Out n ao len cap 0 base w := by
  obtain ⟨ao, cap, rfl⟩ := own_shape h
  exact ⟨ao, _, cap, rfl, .inl ⟨by omega, by unfold most at hn; omega, rfl, by simp, by simpa using h⟩⟩

theorem put_any (n : Int) (w : World) : Calls Try.prog 41 #[.int .i64 n] w fun e w' => ∃ ao len cap c, e = .returned (.tuple #[.slice ao len cap, .int .i64 c]) ∧ Out n ao len cap c w.heap.size w' ∧ Below w.heap.size w w' := by
  by_cases h : 0 ≤ n ∧ n ≤ 1099511627776
  · obtain ⟨a, rfl⟩ := Int.eq_ofNat_of_zero_le h.1
    refine (put_yes a (by unfold most; omega) w).mono ?_
    rintro e w' ⟨v, rfl, h1, h2⟩
    obtain ⟨ao, len, cap, rfl, h3⟩ := out_of (by unfold most; omega) h1
    exact ⟨ao, len, cap, 0, rfl, h3, h2⟩
  · have h' : n < 0 ∨ 1099511627776 < n := by omega
    refine (put_no n h' w).mono ?_
    rintro e w' ⟨rfl, rfl⟩
    exact ⟨none, 0, 0, 2, rfl, .inr ⟨h', rfl, rfl, rfl, rfl⟩, Below.refl _ _⟩



end Go.Proofs.Ytelilmhnfmojkaa.Num

/- append on slices of bytes: a row of the call's own, and a source that reads as bytes. Conditions: none. -/
namespace Go.Proofs.Ytelilmhnfmojkaa
open Go.RowKit Go.WideShapes

theorem u8_info : (Try.prog.info? 5).map (fun i => (i.zero, i.size, i.bytes)) = some (some (.int .u8 0), 1, 1) := by kernel_rfl

/-- A new row of bytes. -/
theorem reads_new (w : World) (xs : List UInt8) (h : xs.length ≤ 1000) (fr : Nat × Nat) : Reads (w.alloc (.cells (bs xs).toArray 5 fr)) (.slice (some ⟨w.heap.size, 0, none⟩) xs.length xs.length) xs := by
  refine ⟨by omega, _, _, rfl, Nat.le_refl _, by omega, by simp, .inr ⟨w.heap.size, 0, rfl, by simp, fun j hj => ?_⟩⟩
  rw [cell_of_row _ w.heap.size (0 + j) (bs xs).toArray 5 fr (heap_alloc_new w _), Nat.zero_add, List.getElem?_toArray]
  exact bs_get xs j hj

theorem Reads.shape {w : World} {v : Value} {xs : List UInt8} (h : Reads w v xs) : ∃ ao cap, v = .slice ao xs.length cap := by
  obtain ⟨_, ao, cap, h, _⟩ := h; exact ⟨ao, cap, h⟩
theorem Reads.cap {w : World} {ao : Option Addr} {n cap : Nat} {xs : List UInt8} (h : Reads w (.slice ao n cap) xs) : n = xs.length ∧ xs.length ≤ cap ∧ (ao = none → cap = 0) := by
  obtain ⟨_, ao', cap', he, h2, _, h4, _⟩ := h
  obtain ⟨rfl, rfl, rfl⟩ := Value.slice.inj he
  exact ⟨rfl, h2, h4⟩
/-- The cells of what reads as bytes. -/
theorem Reads.cells {w : World} {a : Addr} {n cap : Nat} {xs : List UInt8} (h : Reads w (.slice (some a) n cap) xs) : ∀ (j : Nat) (u : Value), (bs xs)[j]? = some u → w.cell? (a.add j) = some u := by
  intro j u hj
  have hlt : j < xs.length := by have := (List.getElem?_eq_some_iff.1 hj).1; rwa [bs_len] at this
  obtain ⟨_, ao, cp, he, _, _, _, hc | ⟨b, off, hb, _, hc⟩⟩ := h
  · subst hc; simp at hlt
  · simp only [Value.slice.injEq] at he
    obtain ⟨h1, _⟩ := he
    rw [hb] at h1
    cases h1
    rw [add_plain, hc j hlt]
    rw [bs_get xs j hlt] at hj
    exact hj
theorem Reads.at {w : World} {ao : Option Addr} {n cap : Nat} {xs : List UInt8} (h : Reads w (.slice ao n cap) xs) (k : Nat) (hk : k < xs.length) :
    ∃ b off, ao = some ⟨b, off, none⟩ ∧ b < w.heap.size ∧ w.cell? ⟨b, off + k, none⟩ = some (.int .u8 ((xs.getD k 0).toNat : Int)) := by
  obtain ⟨_, ao', cap', he, _, _, _, h5⟩ := h
  obtain ⟨rfl, -, rfl⟩ := Value.slice.inj he
  rcases h5 with hx | ⟨b, off, rfl, hb, hc⟩
  · subst hx; simp at hk
  · exact ⟨b, off, rfl, hb, hc k hk⟩
theorem Reads.keeps {w w' : World} {v : Value} {xs : List UInt8} (h : Reads w v xs) (hb : Below w.heap.size w w') : Reads w' v xs := h.below hb (fun hx => h.lies hx)
/-- Nothing of the call's own yet. -/
theorem own_new (w : World) (base : Nat) (hb : base ≤ w.heap.size) : (w.alloc (.cells #[] 5)).ownsRow base 5 1 (.slice (some ⟨w.heap.size, 0, none⟩) 0 0) ([] : List UInt8).length (bs []) :=
  World.ownsRow_made w #[] 0 hb (by decide) rfl

theorem wpList_append_bytes {w : World} {ops : Array Oper} {rest : List Oper} {o : Oper} {a : Act} {Q : Exit → Act → World → Prop} (hgd : o.guard = none) (s x : Operand)
    (ho : o.op = .call { callee := .builtin .append, args := #[s, x], argTypes := #[22, 22] })
    (base : Nat) (v : Value) (L : List UInt8) (hs : a.eval s = v) (hown : w.ownsRow base 5 1 v L.length (bs L))
    (u : Value) (xs : List UInt8) (hx : a.eval x = u) (hr : Reads w u xs) (h47 : L.length + xs.length ≤ 140737488355328) (hbase : base ≤ w.heap.size)
    (h : ∀ v' w', w'.ownsRow base 5 1 v' (L ++ xs).length (bs (L ++ xs)) → Below base w w' → wpList Try.prog ops Q rest (a.put o.dst v') w') : wpList Try.prog ops Q (o :: rest) a w := by
  obtain ⟨i0, hi, hz0, hz1, hz2⟩ := info_parts u8_info
  obtain ⟨ao, cap, rfl⟩ := hr.shape
  cases ao with
  | none =>
    obtain ⟨_, h2, h3⟩ := hr.cap
    have hc0 := h3 rfl
    subst hc0
    obtain rfl : xs = [] := List.length_eq_zero_iff.1 (by omega)
    refine wpList_append_own_none hgd s x 22 ho base 5 i0 1 Try.underlying22 hi v L.length (bs L) hs hown hx (h v w ?_ (Below.refl _ _))
    rw [List.append_nil]; exact hown
  | some a2 =>
    refine wpList_append_own _ hgd s x 22 ho base 5 i0 (.int .u8 0) 1 1 Try.underlying22 hi hz0 hz1 hz2 rfl (by decide) v L.length (bs L) hs hown a2 xs.length cap (bs xs) hx (by rw [bs_len, Nat.mul_one]) hr.cells (bs_oneCell xs) (by unfold maxLen; omega) (by omega) hbase ?_
    intro v' w' h1 h2 _
    refine h v' w' ?_ ((Below.refl _ _).grown h2 hbase (fun j hj => (hown.lt j hj).1))
    rw [bs_append, List.length_append]; exact h1
end Go.Proofs.Ytelilmhnfmojkaa

/- octavo/code.numbers, lastTime, octavoref10.end: what each answers. Conditions: numbers up to the greatest time; at most ten of them. -/
namespace Go.Proofs.Ytelilmhnfmojkaa.Codes
open Go.RowKit Go.WideShapes Num Go.Proofs.Ytelilmhnfmojkaa.Place Ops
attribute [local go_sem ↓] Go.wp_at_zero Go.wp_at_succ

/-- Blocks of other kinds than bytes stay as they were. -/
def Kinds (w w' : World) : Prop := ∀ (j : Nat) (c : Array Value) (e : TypeId) (f : Nat × Nat), e ≠ 5 → w.heap[j]? = some (.cells c e f) → w'.heap[j]? = some (.cells c e f)
theorem Kinds.refl (w : World) : Kinds w w := fun _ _ _ _ _ h => h
theorem Kinds.trans {a b c : World} (h : Kinds a b) (h2 : Kinds b c) : Kinds a c := fun j d e f he hj => h2 j d e f he (h j d e f he hj)
theorem Kinds.below {w w' : World} (h : Below w.heap.size w w') : Kinds w w' := fun j _ _ _ _ hj => (h.block j (Array.getElem?_eq_some_iff.1 hj).1).trans hj
theorem Kinds.alloc (w : World) (o : Obj) : Kinds w (w.alloc o) := Kinds.below ((Below.refl _ _).alloc (Nat.le_refl _) o)
theorem Kinds.grown {w w' : World} {base n sz : Nat} {v : Value} {cs : List Value} (h : w.ownsRow base 5 sz v n cs) (hg : w.grownBy w' v.ownBlock) : Kinds w w' := fun j c e f he hj => by
  have hne : v.ownBlock ≠ some j := own_ne h hj (by intro c' hc; injection hc with h1 h2 h3; exact he h2)
  exact (hg.block j (Array.getElem?_eq_some_iff.1 hj).1 (fun e => hne e.symm)).trans hj
/-- Numbers as cells. -/
def nv (L : List Nat) : List Value := L.map fun n : Nat => .int .i64 (n : Int)
/-- A slice of numbers that lies among cells of its own kind. -/
def NumsK (w : World) (v : Value) (L : List Nat) : Prop := Sees w v 1 L.length (nv L) ∧ ∀ j, v.ownBlock = some j → ∃ c f, w.heap[j]? = some (.cells c 3 f)
theorem NumsK.keeps {w w' : World} {v : Value} {L : List Nat} (h : NumsK w v L) (hk : Kinds w w') (hs : w.heap.size ≤ w'.heap.size) : NumsK w' v L := by
  refine ⟨h.1.stays hs fun b o hb hv => ?_, fun j hj => ?_⟩
  · obtain ⟨c, f, hc⟩ := h.2 b hv
    exact World.cell?_of_block (a := ⟨b, o, none⟩) ((hk b c _ f (by decide) hc).trans hc.symm)
  · obtain ⟨c, f, hc⟩ := h.2 j hj
    exact ⟨c, f, hk j c _ f (by decide) hc⟩
theorem numsK_new (w : World) (L : List Nat) (n : Nat) (hn : n = L.length) (hl : L.length ≤ 1000) : NumsK (w.alloc (.cells (nv L).toArray 3)) (.slice (some ⟨w.heap.size, 0, none⟩) n n) L := by
  subst hn
  refine ⟨sees_new w (nv L) 1 L.length (by simp [nv]) (by omega) _ _, fun j hj => ?_⟩
  simp only [Value.ownBlock, Option.some.injEq] at hj
  subst hj
  exact ⟨_, _, heap_alloc_new w _⟩
theorem NumsK.at {w : World} {ao : Option Addr} {m cap : Nat} {L : List Nat} (h : NumsK w (.slice ao m cap) L) (k : Nat) (hk : k < L.length) :
    ∃ b off, ao = some ⟨b, off, none⟩ ∧ w.cell? ⟨b, off + k, none⟩ = some (.int .i64 ((L.getD k 0 : Nat) : Int)) := by
  obtain ⟨b, off, h1, h2, h3⟩ := Sees.at h.1 k (by simpa [nv] using hk)
  refine ⟨b, off, h1, (h3 k (by simpa [nv] using hk)).trans ?_⟩
  simp [nv, List.getD, List.getElem?_eq_getElem hk]
theorem nums_len : ∀ L : List Nat, (nums L).length ≤ 6 * L.length
  | [] => by simp [nums]
  | n :: L => by
    have := nums_len L
    have := (encF_len 5 n).2
    simp only [nums, List.length_append, List.length_cons, enc]
    omega
theorem nums_take (L : List Nat) (k : Nat) (h : k < L.length) : nums (L.take (k + 1)) = nums (L.take k) ++ enc (L.getD k 0) := by
  rw [show L.take (k + 1) = L.take k ++ [L.getD k 0] by rw [List.take_add_one]; simp [List.getD, List.getElem?_eq_getElem h], nums_append, nums_one]

set_option maxHeartbeats 1000000 in
theorem numbers_any {v lv : Value} {pre : List UInt8} {L : List Nat} {w : World} {base : Nat} (hv : w.ownsRow base 5 1 v pre.length (bs pre)) (hb : base ≤ w.heap.size)
    (hg : NumsK w lv L) (hs : ∀ n ∈ L, n ≤ 1073741824) (hL : L.length ≤ 10) (hp : pre.length ≤ 1099511627776) :
    Calls Try.prog 24 #[v, lv] w fun e w' => ∃ v', e = .returned v' ∧ w'.ownsRow base 5 1 v' (pre ++ nums L).length (bs (pre ++ nums L)) ∧ Below base w w' ∧ Kinds w w' := by
  obtain ⟨ao, cap, rfl⟩ := hg.1.shape
  obtain ⟨n, hn⟩ : ∃ n, n = L.length := ⟨_, rfl⟩
  have HN := Lib.hid hn
  have HS : Hid (∀ k, k < n → L.getD k 0 ≤ most) := fun k hk => by
    have hkl : k < L.length := by rw [← hn]; exact hk
    have : L.getD k 0 ∈ L := by simp [List.getD, List.getElem?_eq_getElem hkl]
    have := hs _ this
    unfold most; omega
  have HG := Lib.hid hg
  have HB := Lib.hid hb
  rw [← hn] at hL ⊢
  rw [← hn] at HG
  clear hn hg hb hs
  have O0 : Hid (w.ownsRow base 5 1 v (pre ++ nums (L.take 0)).length (bs (pre ++ nums (L.take 0)))) := by
    have : pre ++ nums (L.take 0) = pre := by simp [nums]
    rw [this]; exact hv
  have B0 := Lib.hid (Below.refl base w)
  have K0 := Lib.hid (Kinds.refl w)
  clear hv
  go_enter Try.func24, Try.ntmps24
  go_wp2
  go_loopw [0, 11] (fun b i wr => ∃ k : Nat, k ≤ n ∧ i = .int .i64 (k : Int) ∧ Hid (wr.ownsRow base 5 1 b (pre ++ nums (L.take k)).length (bs (pre ++ nums (L.take k)))) ∧ Hid (Below base w wr) ∧ Hid (Kinds w wr)) (fun _ i _ => n - (intOf i).toNat)
  case atStart => exact ⟨0, by omega, rfl, O0, B0, K0⟩
  case round =>
    clear O0 B0 K0
    obtain ⟨k, hk, rfl, hown, hbel, hkin⟩ := hrel
    by_cases hkn : k < n
    · have q1 : decide (k < n) = true := by simpa using hkn
      have q2 : (0 : Int) ≤ (k : Int) := by omega
      have q3 : (k : Int) < (n : Int) := by omega
      have hkl : k < L.length := by rw [← HN.out]; exact hkn
      have hG := HG.out.keeps hkin.out hbel.out.size
      obtain ⟨b1, o1, rfl, hc⟩ := hG.at k hkl
      obtain ⟨x, hx⟩ : ∃ x, x = L.getD k 0 := ⟨_, rfl⟩
      have hx2 : x ≤ most := by rw [hx]; exact HS.out k hkn
      have hst := nums_take L k hkl
      rw [← hx] at hc hst
      have HST := Lib.hid hst
      have HX := Lib.hid hx2
      have hlen : (pre ++ nums (L.take k)).length ≤ 1099511627836 := by
        have := nums_len (L.take k)
        rw [List.length_take] at this
        rw [List.length_append]
        omega
      clear hst hx hx2 hG
      go_wp2_with fail
      refine (put_yes x HX.out _).mono ?_
      rintro e w1 ⟨u, rfl, hu, hb1⟩
      obtain ⟨uo, uc, rfl⟩ := own_shape hu
      have HOWN := Lib.hid (own_stays hown.out hb1)
      have HU : Hid (Sees w1 (.slice uo (enc x).length uc) 1 (enc x).length (bs (enc x))) := Sees.own hu
      have HB1 : Hid (Below base wr w1) := hb1.mono (Nat.le_trans HB.out hbel.out.size)
      have HB2 := Lib.hid (hbel.out.trans HB1.out)
      have HK1 := Lib.hid (hkin.out.trans (Kinds.below hb1))
      have HE : Hid ((enc x).length ≤ 6) := (encF_len 5 x).2
      have hbw : base ≤ w1.heap.size := Nat.le_trans HB.out HB2.out.size
      clear hu hb1 hown hbel hkin hc
      have hE2 := HE.out
      go_wp2_with (at_builtin; refine wpList_append_sees rfl (.tmp 20) (.tmp 21) 22 5 rfl Try.underlying22 u8_info rfl (by decide) base _ _ _ rfl HOWN.out _ (enc x).length _ rfl HU.out (bs_oneCell _) ?k1 ?k2 ?k3 ?_)
      case k1 => omega
      case k2 => omega
      case k3 => exact hbw
      rintro v5 w5 o5 g5 b5
      have O5 : Hid (w5.ownsRow base 5 1 v5 (pre ++ nums (L.take (k + 1))).length (bs (pre ++ nums (L.take (k + 1))))) := by
        rw [HST.out, ← List.append_assoc, List.length_append, bs_append, List.length_append]; exact o5
      have B5 : Hid (Below base w w5) := HB2.out.trans b5
      have K5 : Hid (Kinds w w5) := HK1.out.trans (Kinds.grown HOWN.out g5)
      clear o5 g5 b5
      go_wp2
      go_roundw
      case rel => exact ⟨k + 1, by omega, by go_num, O5, B5, K5⟩
      case measure => simp [intOf]; omega
    · have q1 : decide (k < n) = false := by simpa using hkn
      have hkk : L.take k = L := List.take_of_length_le (by have := HN.out; omega)
      rw [hkk] at hown
      clear hkk
      go_wp2
      go_ret
      exact ⟨_, rfl, hown.out, hbel.out, hkin.out⟩

theorem lastTime_any (t r m : Nat) (ht : t < 4294967296) (hm : m ≤ 4096) (w : World) :
    Calls Try.prog 43 #[.agg #[.int .u32 (t : Int), .int .u8 (r : Int), .int .i64 (m : Int)]] w fun e w' => e = .returned (.int .i64 ((t : Int) + m - 1)) ∧ Below w.heap.size w w' := by
  have e1 : IntKind.i64.wrap ((t : Int) + m) = (t : Int) + m := IntWalk.i64_in _ (by omega)
  have e2 : IntKind.i64.wrap ((t : Int) + m - 1) = (t : Int) + m - 1 := IntWalk.i64_in _ (by omega)
  go_enter Try.func43, Try.ntmps43
  go_wp2
  go_ret
  exact ⟨rfl, (Below.refl _ _).alloc (Nat.le_refl _) _⟩
theorem rend_any (t r m : Nat) (ht : t < 4294967296) (hm : m ≤ 4096) (w : World) :
    Calls Try.prog 52 #[.agg #[.int .u32 (t : Int), .int .u8 (r : Int), .int .i64 (m : Int)]] w fun e w' => e = .returned (.int .i64 ((t : Int) + m - 1)) ∧ Below w.heap.size w w' := by
  have e1 : IntKind.i64.wrap ((t : Int) + m) = (t : Int) + m := IntWalk.i64_in _ (by omega)
  have e2 : IntKind.i64.wrap ((t : Int) + m - 1) = (t : Int) + m - 1 := IntWalk.i64_in _ (by omega)
  go_enter Try.func52, Try.ntmps52
  go_wp2
  go_ret
  exact ⟨rfl, (Below.refl _ _).alloc (Nat.le_refl _) _⟩
end Go.Proofs.Ytelilmhnfmojkaa.Codes

/- octavo/code.behind, Put: what each answers. Conditions: the place's cells are runs, and stay so. -/
namespace Go.Proofs.Ytelilmhnfmojkaa.Codes
open Go.RowKit Go.WideShapes Num Go.Proofs.Ytelilmhnfmojkaa.Place Ops
attribute [local go_sem ↓] Go.wp_at_zero Go.wp_at_succ

theorem chain_ahead {l : List Run} {k : Nat} (hc : Chain l) (hk : k < l.length) : 0 ≤ finF 0 (l.take k) ∧ finF 0 (l.take k) < ((l.getD k zrun).t : Int) := by
  cases k with
  | zero =>
    have := chain_one hc hk
    unfold Place.One at this
    simp only [List.take_zero, finF]
    omega
  | succ k =>
    have h1 := chain_one hc (k := k) (by omega)
    have h2 := chain_next hc (k := k) hk
    unfold Place.One at h1
    have e : l.take (k + 1) = l.take k ++ [l.getD k zrun] := by rw [List.take_add_one]; simp [List.getD, List.getElem?_eq_getElem (show k < l.length by omega)]
    rw [e, finF_append]
    simp only [finF]
    have := h2.1
    unfold fin at this ⊢
    omega
theorem runs_snoc {l : List Run} {k : Nat} (hk : k < l.length) : runNums 0 (l.take (k + 1)) = runNums 0 (l.take k) ++ [(((l.getD k zrun).t : Int) - finF 0 (l.take k)).toNat, (l.getD k zrun).r, (l.getD k zrun).m.toNat] ∧ finF 0 (l.take (k + 1)) = fin (l.getD k zrun) := by
  have e : l.take (k + 1) = l.take k ++ [l.getD k zrun] := by rw [List.take_add_one]; simp [List.getD, List.getElem?_eq_getElem hk]
  rw [e, runNums_append, finF_append]
  exact ⟨rfl, rfl⟩

/-- What is answered: bytes with the operation's behind them. -/
def Put1 (base : Nat) (pre : List UInt8) (w : World) (e : Ending) (w' : World) : Prop :=
  ∃ v', e = .returned (.tuple #[v', .int .i64 0]) ∧ w'.ownsRow base 5 1 v' pre.length (bs pre) ∧ Below base w w'

set_option maxHeartbeats 4000000 in
theorem behind_no {v vp : Value} {o : Opn} {w : World} (hv : Runs w vp o.pl) (hm : mayO o = false) :
    Calls Try.prog 25 #[v, opv o vp] w fun e w' => e = .returned (.tuple #[.slice none 0 0, .int .i64 8]) ∧ Below w.heap.size w w' := by
  have C : Hid (∀ W : World, Below w.heap.size w W → Calls Try.prog 42 #[opv o vp] W fun e w' => e = .returned (.int .i64 8) ∧ Below W.heap.size W w') := fun W hW => by
    have h := oCheck_any (hv.keeps hW)
    rw [show chkO o = 8 by unfold chkO; rw [hm]; rfl] at h
    exact h
  obtain ⟨k, t, r, l, p, hk, ht, hr, hp⟩ := o
  unfold opv at C ⊢
  simp only at C ⊢
  have B0 : Hid (Below w.heap.size w (w.alloc (.cells #[.int .u8 (k : Int), .int .u32 (t : Int), .int .u8 (r : Int), vp, .int .i64 p] 35))) := (Below.refl _ _).alloc (Nat.le_refl _) _
  clear hv hm
  go_enter Try.func25, Try.ntmps25
  go_wp2_with fail
  refine (C.out _ B0.out).mono ?_
  rintro e w1 ⟨rfl, b1⟩
  have B1 := Lib.hid (bt B0.out b1)
  clear b1
  go_wp2
  go_ret2
  exact ⟨rfl, B1.out⟩

set_option maxHeartbeats 8000000 in
theorem behind_yes {v vp : Value} {o : Opn} {w : World} {base : Nat} {pre : List UInt8} (hv : w.ownsRow base 5 1 v pre.length (bs pre)) (hb : base ≤ w.heap.size) (hp : pre.length ≤ 1000000000)
    (hr : ∀ W : World, Below base w W → Runs W vp o.pl) (hm : mayO o = true) :
    Calls Try.prog 25 #[v, opv o vp] w (Put1 base (pre ++ bytesO o) w) := by
  have HR := Lib.hid hr
  have HO := Lib.hid hv
  have HB := Lib.hid hb
  have C : Hid (∀ W : World, Below w.heap.size w W → Calls Try.prog 42 #[opv o vp] W fun e w' => e = .returned (.int .i64 0) ∧ Below W.heap.size W w') := fun W hW => by
    have h := oCheck_any (hr W (hW.mono hb))
    rw [show chkO o = 0 by unfold chkO; rw [if_pos hm]] at h
    exact h
  obtain ⟨ao, cap, rfl⟩ := (hr w (Below.refl _ _)).shape
  have hkc := kind_cases hm
  have hlf := last_fin hkc.2.1
  have hMay := (mayB_iff o.pl).1 hkc.2.1
  have hl64 := hMay.2.1
  have HC := Lib.hid hMay.2.2.1
  have HK := Lib.hid hkc
  have HL := Lib.hid hlf
  have HBY : Hid (bytesO o = nums (o.k :: o.pl.length :: (runNums 0 o.pl ++ tailNums o))) := rfl
  obtain ⟨k, t, r, l, p, hk, ht, hr', hp'⟩ := o
  unfold opv at C ⊢
  simp only at C HC HK HL HR HBY hl64 ⊢
  obtain ⟨n, hn⟩ : ∃ n, n = l.length := ⟨_, rfl⟩
  have HN := Lib.hid hn
  rw [← hn] at C HBY hl64 ⊢
  have B0 : Hid (Below w.heap.size w (w.alloc (.cells #[.int .u8 (k : Int), .int .u32 (t : Int), .int .u8 (r : Int), .slice ao n cap, .int .i64 p] 35))) := (Below.refl _ _).alloc (Nat.le_refl _) _
  have X0 : Hid ((w.alloc (.cells #[.int .u8 (k : Int), .int .u32 (t : Int), .int .u8 (r : Int), .slice ao n cap, .int .i64 p] 35)).heap[w.heap.size]? = some (.cells #[.int .u8 (k : Int), .int .u32 (t : Int), .int .u8 (r : Int), .slice ao n cap, .int .i64 p] 35)) := heap_alloc_new w _
  obtain ⟨H, hH⟩ : ∃ H, H = w.heap.size := ⟨_, rfl⟩
  clear hv hb hr hm hkc hlf hMay hn
  go_enter Try.func25, Try.ntmps25
  go_wp2_with fail
  refine (C.out _ B0.out).mono ?_
  rintro e w1 ⟨rfl, b1⟩
  rw [← hH] at X0 ⊢
  clear hH
  have x1 := Kinds.below b1 _ _ _ _ (by decide) X0.out
  have X1 := Lib.hid x1
  obtain ⟨c0, c1, c2, c3, c4⟩ := cells5 x1
  have b1' := bt B0.out b1
  have B1 : Hid (Below base w w1) := b1'.mono HB.out
  have O1 : Hid (w1.ownsRow base 5 1 v pre.length (bs pre)) := own_stays HO.out b1'
  clear b1 b1' x1 X0 B0 C
  go_wp2_with fail
  have N1 := numsK_new w1 [k, n] 2 rfl (by simp)
  have BA : Hid (Below base w (w1.alloc (.cells (nv [k, n]).toArray 3))) := B1.out.alloc (Nat.le_trans HB.out B1.out.size) _
  have bz : base ≤ (w1.alloc (.cells (nv [k, n]).toArray 3)).heap.size := Nat.le_trans HB.out BA.out.size
  refine (numbers_any (own_stays O1.out ((Below.refl _ _).alloc (Nat.le_refl _) _)) bz N1 (by intro z hz; simp at hz; rcases hz with rfl | rfl <;> omega) (by simp) (by omega)).mono ?_
  rintro e w2 ⟨v2, rfl, o2, b2, k2⟩
  have x2 := k2 _ _ _ _ (by decide) (Kinds.alloc w1 _ _ _ _ _ (by decide) X1.out)
  have X2 := Lib.hid x2
  obtain ⟨d0, d1, d2, d3, d4⟩ := cells5 x2
  have O2 : Hid (w2.ownsRow base 5 1 v2 (pre ++ nums ([k, n] ++ runNums 0 (l.take 0))).length (bs (pre ++ nums ([k, n] ++ runNums 0 (l.take 0))))) := o2
  have B2 : Hid (Below base w w2) := BA.out.trans b2
  clear o2 b2 k2 x2 N1 BA bz c0 c1 c2 c3 c4 X1 O1 B1 HO
  go_wp2
  go_loopw [0, 7, 27] (fun b a i wr => ∃ (j : Nat) (z : Int), j ≤ n ∧ i = .int .i64 (j : Int) ∧ a = .int .i64 z ∧ Hid (z = finF 0 (l.take j)) ∧ Hid (wr.ownsRow base 5 1 b (pre ++ nums ([k, n] ++ runNums 0 (l.take j))).length (bs (pre ++ nums ([k, n] ++ runNums 0 (l.take j))))) ∧
    Hid (wr.heap[H]? = some (.cells #[.int .u8 (k : Int), .int .u32 (t : Int), .int .u8 (r : Int), .slice ao n cap, .int .i64 p] 35)) ∧ Hid (Below base w wr)) (fun _ _ i _ => n - (intOf i).toNat)
  case atStart => exact ⟨0, 0, by omega, rfl, rfl, Lib.hid rfl, O2, X2, B2⟩
  case round =>
    clear O2 X2 B2 d0 d1 d2 d3 d4
    obtain ⟨j, z, hj, rfl, rfl, hz, hown, hbox, hbel⟩ := hrel
    by_cases hjn : j < n
    · have q1 : decide (j < n) = true := by simpa using hjn
      have q2 : (0 : Int) ≤ (j : Int) := by omega
      have q3 : (j : Int) < (n : Int) := by omega
      have hjl : j < l.length := by rw [← HN.out]; exact hjn
      obtain ⟨bb, oo, rfl, hbb, hc0, hc1, hc2⟩ := (HR.out wr hbel.out).at j hjl
      have ho := chain_one HC.out hjl
      have ha := chain_ahead HC.out hjl
      obtain ⟨hs1, hs2⟩ := runs_snoc hjl
      rw [← hz.out] at ha hs1
      obtain ⟨x, hx⟩ : ∃ x, x = l.getD j zrun := ⟨_, rfl⟩
      rw [← hx] at hc0 hc1 hc2 ho ha hs1 hs2
      obtain ⟨xt, xr, xm, h1, h2, h3⟩ := x
      unfold Place.One at ho
      simp only at hc0 hc1 hc2 ho ha hs1 hs2
      obtain ⟨m, rfl⟩ := Int.eq_ofNat_of_zero_le (show 0 ≤ xm by omega)
      obtain ⟨d, hd⟩ := Int.eq_ofNat_of_zero_le (show 0 ≤ (xt : Int) - z by omega)
      have e1 : IntKind.i64.wrap (d : Int) = (d : Int) := IntWalk.i64_in _ (by omega)
      have HD : Hid (((xt : Int) - z).toNat = d) := by unfold Hid; omega
      have hdd : d ≤ 1073741824 := by omega
      have HS1 := Lib.hid hs1
      have HS2 := Lib.hid hs2
      have HZ := hz
      have hlen : (pre ++ nums ([k, n] ++ runNums 0 (l.take j))).length ≤ 1000010000 := by
        have := nums_len ([k, n] ++ runNums 0 (l.take j))
        rw [List.length_append, runNums_len, List.length_take] at this
        simp only [List.length_cons, List.length_nil] at this
        rw [List.length_append]; omega
      have BA1 : Hid (Below base w (wr.alloc (.cells #[.int .u32 (xt : Int), .int .u8 (xr : Int), .int .i64 (m : Int)] 71))) := hbel.out.alloc (Nat.le_trans HB.out hbel.out.size) _
      have BA2 : Hid (Below base w ((wr.alloc (.cells #[.int .u32 (xt : Int), .int .u8 (xr : Int), .int .i64 (m : Int)] 71)).alloc (.cells (nv [d, xr, m]).toArray 3))) := BA1.out.alloc (Nat.le_trans HB.out BA1.out.size) _
      have OW : Hid (((wr.alloc (.cells #[.int .u32 (xt : Int), .int .u8 (xr : Int), .int .i64 (m : Int)] 71)).alloc (.cells (nv [d, xr, m]).toArray 3)).ownsRow base 5 1 u0 (pre ++ nums ([k, n] ++ runNums 0 (l.take j))).length (bs (pre ++ nums ([k, n] ++ runNums 0 (l.take j))))) :=
        own_stays (own_stays hown.out ((Below.refl _ _).alloc (Nat.le_refl _) _)) ((Below.refl _ _).alloc (Nat.le_refl _) _)
      have NK : Hid (NumsK ((wr.alloc (.cells #[.int .u32 (xt : Int), .int .u8 (xr : Int), .int .i64 (m : Int)] 71)).alloc (.cells (nv [d, xr, m]).toArray 3)) (.slice (some ⟨wr.heap.size + 1, 0, none⟩) 3 3) [d, xr, m]) := by
        have := numsK_new (wr.alloc (.cells #[.int .u32 (xt : Int), .int .u8 (xr : Int), .int .i64 (m : Int)] 71)) [d, xr, m] 3 rfl (by simp)
        unfold Hid
        simpa using this
      have KW : Hid (Kinds wr ((wr.alloc (.cells #[.int .u32 (xt : Int), .int .u8 (xr : Int), .int .i64 (m : Int)] 71)).alloc (.cells (nv [d, xr, m]).toArray 3))) := (Kinds.alloc _ _).trans (Kinds.alloc _ _)
      have XR : Hid (((wr.alloc (.cells #[.int .u32 (xt : Int), .int .u8 (xr : Int), .int .i64 (m : Int)] 71)).alloc (.cells (nv [d, xr, m]).toArray 3)).heap[wr.heap.size]? = some (.cells #[.int .u32 (xt : Int), .int .u8 (xr : Int), .int .i64 (m : Int)] 71)) := blk_old (blk_new rfl)
      obtain ⟨R, hR⟩ : ∃ R, R = wr.heap.size := ⟨_, rfl⟩
      have LT := Lib.hid (fun W => lastTime_any xt xr m h1 (by omega) W)
      have HM : Hid (m ≤ 4096 ∧ xr < 8 ∧ fin ⟨xt, xr, (m : Int), h1, h2, h3⟩ = (xt : Int) + (m : Int) - 1) := ⟨by omega, ho.2.2.1, rfl⟩
      clear hs1 hs2 hz ha ho hx hown
      go_wp2_with fail
      refine (numbers_any OW.out (Nat.le_trans HB.out BA2.out.size) NK.out (by intro z hz; simp at hz; have := HM.out; rcases hz with rfl | rfl | rfl <;> omega) (by simp) (by omega)).mono ?_
      rintro e w3 ⟨v3, rfl, o3, b3, k3⟩
      have x3 := k3 _ _ _ _ (by decide) XR.out
      rw [← hR] at x3 ⊢
      clear hR
      obtain ⟨r0, r1, r2, -, -⟩ := cells_blk3 x3
      have X3 : Hid (w3.heap[H]? = some (.cells #[.int .u8 (k : Int), .int .u32 (t : Int), .int .u8 (r : Int), .slice (some ⟨bb, oo, none⟩) n cap, .int .i64 p] 35)) := k3 _ _ _ _ (by decide) (KW.out _ _ _ _ (by decide) hbox.out)
      have B3 : Hid (Below base w w3) := BA2.out.trans b3
      have O3 : Hid (w3.ownsRow base 5 1 v3 (pre ++ nums ([k, n] ++ runNums 0 (l.take (j + 1)))).length (bs (pre ++ nums ([k, n] ++ runNums 0 (l.take (j + 1)))))) := by
        rw [HS1.out, HD.out]
        have e : pre ++ nums ([k, n] ++ (runNums 0 (l.take j) ++ [d, xr, ((m : Nat) : Int).toNat])) = pre ++ nums ([k, n] ++ runNums 0 (l.take j)) ++ nums [d, xr, m] := by
          rw [← List.append_assoc [k, n], nums_append _ [d, xr, ((m : Nat) : Int).toNat], List.append_assoc]; rfl
        rw [e]; exact o3
      clear o3 b3 k3 x3 XR KW NK OW BA1 BA2 hbox hbel HD HS1 hc0 hc1 hc2
      go_wp2_with fail
      refine (LT.out _).mono ?_
      rintro e w4 ⟨rfl, b4⟩
      have X4 : Hid (w4.heap[H]? = some (.cells #[.int .u8 (k : Int), .int .u32 (t : Int), .int .u8 (r : Int), .slice (some ⟨bb, oo, none⟩) n cap, .int .i64 p] 35)) := Kinds.below b4 _ _ _ _ (by decide) X3.out
      have B4 : Hid (Below base w w4) := B3.out.trans (b4.mono (Nat.le_trans HB.out B3.out.size))
      have O4 := Lib.hid (own_stays O3.out b4)
      have HZ2 : Hid ((xt : Int) + (m : Int) - 1 = finF 0 (l.take (j + 1))) := by
        unfold Hid; rw [HS2.out, HM.out.2.2]
      clear b4 r0 r1 r2 X3 B3 O3
      go_wp2
      go_roundw
      case rel => exact ⟨j + 1, _, by omega, by go_num, rfl, HZ2, O4, X4, B4⟩
      case measure => simp [intOf]; omega
    · have q1 : decide (j < n) = false := by simpa using hjn
      have hkk : l.take j = l := List.take_of_length_le (by have := HN.out; omega)
      rw [hkk] at hown hz
      have hz2 : z = (lastV l).1 := by rw [hz.out, HL.out.1]
      have HZ := Lib.hid hz2
      have hzb : 1 ≤ z ∧ z ≤ 1073741824 := by rw [hz2]; exact ⟨HL.out.2.1, HL.out.2.2.1⟩
      have hlen : (pre ++ nums ([k, n] ++ runNums 0 l)).length ≤ 1000010000 := by
        have := nums_len ([k, n] ++ runNums 0 l)
        rw [List.length_append, runNums_len, ← HN.out] at this
        simp only [List.length_cons, List.length_nil] at this
        rw [List.length_append]; omega
      obtain ⟨c0, c1, c2, c3, c4⟩ := cells5 hbox.out
      have DONE : Hid (∀ (L : List Nat) (W : World) (v' : Value), tailNums ⟨k, t, r, l, p, hk, ht, hr', hp'⟩ = L → W.ownsRow base 5 1 v' (pre ++ nums ([k, n] ++ runNums 0 l) ++ nums L).length (bs (pre ++ nums ([k, n] ++ runNums 0 l) ++ nums L)) → W.ownsRow base 5 1 v' (pre ++ bytesO ⟨k, t, r, l, p, hk, ht, hr', hp'⟩).length (bs (pre ++ bytesO ⟨k, t, r, l, p, hk, ht, hr', hp'⟩))) := fun L W v' hL ho => by
        rw [HBY.out, hL]
        have e : pre ++ nums (k :: n :: (runNums 0 l ++ L)) = pre ++ nums ([k, n] ++ runNums 0 l) ++ nums L := by
          rw [List.append_assoc, ← nums_append]; simp
        rw [e]; exact ho
      have hbz : base ≤ wr.heap.size := Nat.le_trans HB.out hbel.out.size
      have hmayt := Stamp.may_iff.1 HK.out.1
      have OWN := hown
      clear hkk hz hz2 HL HBY hown
      rcases HK.out.2.2 with ⟨k1, g1, g2, g3, g4⟩ | ⟨k2, g1, g2, g3⟩ | ⟨k3, g1, g2⟩
      · have q5 : ((k : Int) == 1) = true := by simp; omega
        obtain ⟨pn, rfl⟩ := Int.eq_ofNat_of_zero_le g3
        have BA : Hid (Below base w (wr.alloc (.cells (nv [pn]).toArray 3))) := hbel.out.alloc hbz _
        have NK := Lib.hid (numsK_new wr [pn] 1 rfl (by simp))
        have TL : Hid (tailNums ⟨k, t, r, l, (pn : Int), hk, ht, hr', hp'⟩ = [pn]) := by
          unfold Hid tailNums; rw [if_pos k1]; simp
        have g5 : pn ≤ 1073741824 := by omega
        clear k1 g1 g2 g3 g4
        go_wp2_with fail
        refine (numbers_any (own_stays OWN.out ((Below.refl _ _).alloc (Nat.le_refl _) _)) (Nat.le_trans HB.out BA.out.size) NK.out (by intro z hz; simp at hz; subst hz; exact g5) (by simp) (by omega)).mono ?_
        rintro e w3 ⟨v3, rfl, o3, b3, k3⟩
        have RES := Lib.hid (DONE.out _ _ _ TL.out o3)
        have B3 := Lib.hid (BA.out.trans b3)
        clear o3 b3 k3
        go_wp2
        go_ret2
        exact ⟨_, rfl, RES.out, B3.out⟩
      · have q5 : ((k : Int) == 1) = false := by simp; omega
        have q6 : ((k : Int) == 3) = false := by simp; omega
        have q7 : ((k : Int) == 4) = false := by simp; omega
        have TL : Hid (tailNums ⟨k, t, r, l, p, hk, ht, hr', hp'⟩ = []) := by
          unfold Hid tailNums; rw [if_neg (by simp; omega), if_pos (by simp; omega)]
        have RES := Lib.hid (DONE.out _ _ _ TL.out (by rw [show pre ++ nums ([k, n] ++ runNums 0 l) ++ nums [] = pre ++ nums ([k, n] ++ runNums 0 l) by simp [nums]]; exact OWN.out))
        clear k2 g1 g2 g3
        go_wp2
        go_ret2
        exact ⟨_, rfl, RES.out, hbel.out⟩
      · have q5 : ((k : Int) == 1) = false := by simp; omega
        obtain ⟨d, hd⟩ := Int.eq_ofNat_of_zero_le (show 0 ≤ (t : Int) - z by rw [HZ.out]; omega)
        have e1 : IntKind.i64.wrap (d : Int) = (d : Int) := IntWalk.i64_in _ (by omega)
        have BA : Hid (Below base w (wr.alloc (.cells (nv [d, r]).toArray 3))) := hbel.out.alloc hbz _
        have NK := Lib.hid (numsK_new wr [d, r] 2 rfl (by simp))
        have TL : Hid (tailNums ⟨k, t, r, l, p, hk, ht, hr', hp'⟩ = [d, r]) := by
          unfold Hid tailNums; rw [if_neg (by simp; omega), if_neg (by simp; omega), ← HZ.out]
          simp only [List.cons.injEq, and_true]; omega
        have HDB : Hid (d ≤ 1073741824 ∧ r ≤ 1073741824) := by unfold Hid; omega
        clear g1 g2
        rcases k3 with k3 | k3
        · have q6 : ((k : Int) == 3) = true := by simp; omega
          go_wp2_with fail
          refine (numbers_any (own_stays OWN.out ((Below.refl _ _).alloc (Nat.le_refl _) _)) (Nat.le_trans HB.out BA.out.size) NK.out (by intro z hz; simp at hz; have := HDB.out; rcases hz with rfl | rfl <;> omega) (by simp) (by omega)).mono ?_
          rintro e w3 ⟨v3, rfl, o3, b3, k3⟩
          have RES := Lib.hid (DONE.out _ _ _ TL.out o3)
          have B3 := Lib.hid (BA.out.trans b3)
          clear o3 b3 k3
          go_wp2
          go_ret2
          exact ⟨_, rfl, RES.out, B3.out⟩
        · have q6 : ((k : Int) == 3) = false := by simp; omega
          have q7 : ((k : Int) == 4) = true := by simp; omega
          go_wp2_with fail
          refine (numbers_any (own_stays OWN.out ((Below.refl _ _).alloc (Nat.le_refl _) _)) (Nat.le_trans HB.out BA.out.size) NK.out (by intro z hz; simp at hz; have := HDB.out; rcases hz with rfl | rfl <;> omega) (by simp) (by omega)).mono ?_
          rintro e w3 ⟨v3, rfl, o3, b3, k3⟩
          have RES := Lib.hid (DONE.out _ _ _ TL.out o3)
          have B3 := Lib.hid (BA.out.trans b3)
          clear o3 b3 k3
          go_wp2
          go_ret2
          exact ⟨_, rfl, RES.out, B3.out⟩

/-- What Put answers. -/
def putB (o : Opn) : List UInt8 := if mayO o = true then bytesO o else []
def Put2 (c : Int) (l : List UInt8) (w : World) (e : Ending) (w' : World) : Prop :=
  ∃ v', e = .returned (.tuple #[v', .int .i64 c]) ∧ w'.ownsRow w.heap.size 5 1 v' l.length (bs l) ∧ Below w.heap.size w w'
set_option maxHeartbeats 1000000 in
theorem cPut_any {vp : Value} {o : Opn} {w : World} (hv : Runs w vp o.pl) :
    Calls Try.prog 10 #[opv o vp] w (Put2 (chkO o) (putB o) w) := by
  have C : Hid (∀ W : World, Below w.heap.size w W → Calls Try.prog 25 #[.slice none 0 0, opv o vp] W (Put2 (chkO o) (putB o) W)) := fun W hW => by
    cases hm : mayO o
    · refine (behind_no (hv.keeps hW) hm).mono ?_
      rintro e w' ⟨rfl, b⟩
      refine ⟨.slice none 0 0, by unfold chkO; rw [hm]; rfl, ?_, b⟩
      rw [show putB o = [] by unfold putB; rw [hm]; rfl]
      exact World.ownsRow_nil _ _ _ _
    · refine (behind_yes (base := W.heap.size) (pre := []) (World.ownsRow_nil _ _ _ _) (Nat.le_refl _) (by simp) (fun W' h' => hv.keeps (bt hW h')) hm).mono ?_
      rintro e w' ⟨v', rfl, h1, h2⟩
      refine ⟨v', by unfold chkO; rw [if_pos hm], ?_, h2⟩
      rw [show putB o = bytesO o by unfold putB; rw [if_pos hm]]
      exact h1
  obtain ⟨c, hc⟩ : ∃ c, c = chkO o := ⟨_, rfl⟩
  obtain ⟨L, hL⟩ : ∃ L, L = putB o := ⟨_, rfl⟩
  rw [← hc, ← hL] at C ⊢
  clear hc hL
  obtain ⟨k, t, r, l, p, hk, ht, hr, hp⟩ := o
  unfold opv at C ⊢
  simp only at C ⊢
  have B0 : Hid (Below w.heap.size w (w.alloc (.cells #[.int .u8 (k : Int), .int .u32 (t : Int), .int .u8 (r : Int), vp, .int .i64 p] 35))) := (Below.refl _ _).alloc (Nat.le_refl _) _
  clear hv
  go_enter Try.func10, Try.ntmps10
  go_wp2_with fail
  refine (C.out _ B0.out).mono ?_
  rintro e w1 ⟨v1, rfl, o1, b1⟩
  have O1 : Hid (w1.ownsRow w.heap.size 5 1 v1 L.length (bs L)) := op_base o1 B0.out.size
  have B1 := Lib.hid (bt B0.out b1)
  clear o1 b1
  go_wp2
  go_ret2
  exact ⟨_, rfl, O1.out, B1.out⟩
end Go.Proofs.Ytelilmhnfmojkaa.Codes
