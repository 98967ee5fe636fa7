/- Places: a stamp put behind, beginnings, rising stamps, a child's place in the order. Conditions: none. -/
import Derived.Test.YtelilmhnfmojkaaPk06

namespace Go.Proofs.Ytelilmhnfmojkaa.Place
open Go.RowKit Stamp

theorem long_append : ∀ p q : List Run, long (p ++ q) = long p + long q
  | [], q => by simp [long]
  | x :: p, q => by simp [long, long_append p q]; omega
theorem long_pos : ∀ {p : List Run}, Chain p → 0 ≤ long p
  | [], _ => Int.le_refl _
  | x :: p, h => by
    have h1 := h.head.2.2.2.1
    have h2 := long_pos h.tail
    show 0 ≤ x.m + long p
    omega
/-- A place that is not the beginning, as its last run behind the others. -/
theorem split_last {l : List Run} (h : 0 < l.length) : l = l.take (l.length - 1) ++ [l.getD (l.length - 1) zrun] := by
  have h2 : l.take (l.length - 1 + 1) = l := List.take_of_length_le (by omega)
  rw [List.take_succ_eq_append_getElem (by omega)] at h2
  rw [show l.getD (l.length - 1) zrun = l[l.length - 1] by simp [List.getD, List.getElem?_eq_getElem (show l.length - 1 < l.length by omega)]]
  exact h2.symm
theorem chain_front : ∀ {p q : List Run}, Chain (p ++ q) → Chain p
  | [], _, _ => trivial
  | [_], _, h => h.head
  | _ :: y :: p, _, h => ⟨h.1, h.2.1, chain_front (p := y :: p) h.2.2⟩
theorem chain_back : ∀ {p q : List Run}, Chain (p ++ q) → Chain q
  | [], _, h => h
  | _ :: p, _, h => chain_back (p := p) (Chain.tail h)
theorem chain_mid : ∀ {p : List Run} {y : Run} {q : List Run} {x : Run}, Chain (p ++ y :: q) → p.getLast? = some x → Next x y
  | [], y, q, x, _, h => by simp at h
  | [z], y, q, x, h, hx => by
    simp only [List.getLast?_singleton, Option.some.injEq] at hx
    subst hx
    exact h.2.1
  | z :: z2 :: p, y, q, x, h, hx => chain_mid (p := z2 :: p) h.2.2 (by simpa using hx)

theorem more_long {l : List Run} {a : Id} (hc : Chain l) : long (more l a) = long l + 1 := by
  unfold more
  by_cases h : 0 < l.length ∧ (l.getD (l.length - 1) zrun).r = a.r ∧ fin (l.getD (l.length - 1) zrun) + 1 = (a.t : Int)
  · rw [if_pos h]
    have hs := split_last h.1
    have ho := chain_one hc (k := l.length - 1) (by omega)
    have e : long l = long (l.take (l.length - 1)) + (l.getD (l.length - 1) zrun).m := by
      have := congrArg long hs
      rw [long_append] at this
      simpa [long] using this
    rw [long_append, e]
    have h1 := ho.2.2.2.1
    have h2 := ho.2.2.2.2.1
    simp only [long]
    rw [mkRun_m (by omega)]
    omega
  · rw [if_neg h, long_append]
    simp only [long]
    rw [mkRun_m (by omega)]
    omega
theorem more_all {l : List Run} {a : Id} (hc : Chain l) : all (more l a) = all l ++ [a] := by
  unfold more
  by_cases h : 0 < l.length ∧ (l.getD (l.length - 1) zrun).r = a.r ∧ fin (l.getD (l.length - 1) zrun) + 1 = (a.t : Int)
  · rw [if_pos h]
    have hs := split_last h.1
    have ho := chain_one hc (k := l.length - 1) (by omega)
    obtain ⟨x, hx⟩ : ∃ x, x = l.getD (l.length - 1) zrun := ⟨_, rfl⟩
    rw [← hx] at hs ho h ⊢
    obtain ⟨n, hn, n1, n2, n3, n4⟩ := ho.nat
    have e : all l = all (l.take (l.length - 1)) ++ all [x] := by
      have := congrArg all hs
      rwa [all_append] at this
    rw [all_append, e, List.append_assoc]
    congr 1
    simp only [all, List.append_nil]
    rw [mkRun_t x.ht, mkRun_r x.hr, mkRun_m (by omega), n3, show (x.m + 1).toNat = n + 1 by omega, up_snoc]
    congr 2
    have h2 := h.2.2
    unfold fin at h2
    refine Id.ext' ?_ ?_
    · rw [mk_t (by omega)]; omega
    · rw [mk_r x.hr]; exact h.2.1
  · rw [if_neg h, all_append]
    congr 1
    simp only [all, List.append_nil]
    rw [mkRun_t a.ht, mkRun_r a.hr, mkRun_m (by omega)]
    show up a.t a.r 1 = [a]
    simp only [up]
    congr 1
    exact Id.ext' (mk_t a.ht) (mk_r a.hr)
/-- A place with a greater stamp behind is a place, where it isn't too long. -/
theorem more_chain {l : List Run} {a : Id} (hc : Chain l) (ha : may a.t a.r = true) (hl : ¬ (0 < l.length ∧ (a.t : Int) ≤ fin (l.getD (l.length - 1) zrun))) (h4 : long (more l a) ≤ 4096) : Chain (more l a) := by
  have hm := may_iff.1 ha
  rw [more_long hc] at h4
  unfold more
  by_cases h : 0 < l.length ∧ (l.getD (l.length - 1) zrun).r = a.r ∧ fin (l.getD (l.length - 1) zrun) + 1 = (a.t : Int)
  · rw [if_pos h]
    have hs := split_last h.1
    have ho := chain_one hc (k := l.length - 1) (by omega)
    obtain ⟨x, hx⟩ : ∃ x, x = l.getD (l.length - 1) zrun := ⟨_, rfl⟩
    rw [← hx] at hs ho h ⊢
    obtain ⟨n, hn, n1, n2, n3, n4⟩ := ho.nat
    rw [hs] at hc
    have hf := chain_front hc
    have hlong : long l = long (l.take (l.length - 1)) + x.m := by
      have := congrArg long hs
      rw [long_append] at this
      simpa [long] using this
    have hp := long_pos hf
    have h2 := h.2.2
    have o6 := ho.2.2.2.2.2
    unfold fin at h2
    refine chain_append hf ?_ ?_
    · show One _
      unfold One
      rw [mkRun_t x.ht, mkRun_r x.hr, mkRun_m (by omega)]
      have o1 := ho.1; have o2 := ho.2.1; have o3 := ho.2.2.1
      omega
    · intro y z hy hz
      have hn := chain_mid hc hy
      simp only [List.head?_cons, Option.some.injEq] at hz
      subst hz
      unfold Next at hn ⊢
      rw [mkRun_t x.ht, mkRun_r x.hr]
      exact hn
  · rw [if_neg h]
    refine chain_append hc ?_ ?_
    · show One _
      unfold One
      rw [mkRun_t a.ht, mkRun_r a.hr, mkRun_m (by omega)]
      omega
    · intro y z hy hz
      simp only [List.head?_cons, Option.some.injEq] at hz
      subst hz
      have hlen : 0 < l.length := by
        cases l with
        | nil => simp at hy
        | cons u l => simp
      have hyl : y = l.getD (l.length - 1) zrun := by
        rw [List.getLast?_eq_getElem?] at hy
        simp [List.getD, hy]
      subst hyl
      unfold Next
      rw [mkRun_t a.ht, mkRun_r a.hr]
      refine ⟨by omega, fun hr => ?_⟩
      have h3 : ¬ (fin (l.getD (l.length - 1) zrun) + 1 = (a.t : Int)) := fun e => h ⟨hlen, hr.symm, e⟩
      omega
theorem more_pos (l : List Run) (a : Id) : 1 ≤ (more l a).length := by
  unfold more; split <;> simp
/-- What Under answers, by whether what it makes may be. -/
theorem und_may {l : List Run} {a : Id} (hA : anyB l = true) (ha : may a.t a.r = true) (hl : ¬ (0 < l.length ∧ (a.t : Int) ≤ fin (l.getD (l.length - 1) zrun))) :
    und l a = if mayB (more l a) = true then (more l a, 0) else ([], 60) := by
  have hc := ((anyB_iff l).1 hA).chain
  unfold und
  rw [if_neg (by rw [hA, ha]; simp), if_neg hl]
  by_cases h : 64 < (more l a).length ∨ 4096 < long (more l a)
  · rw [if_pos h, if_neg]
    intro hm
    have := (mayB_iff _).1 hm
    have h1 := this.2.1
    have h2 := this.2.2.2
    omega
  · rw [if_neg h, if_pos]
    exact (mayB_iff _).2 ⟨more_pos l a, by omega, more_chain hc ha hl (by omega), by omega⟩

/-- A beginning has no more runs. -/
theorem front_len : ∀ {q p : List Run} {m : List Id}, Chain q → Chain p → all p = all q ++ m → q.length ≤ p.length
  | [], p, m, _, _, _ => by simp
  | x :: q, [], m, h1, _, h => by
    obtain ⟨l, hl⟩ := all_cons (p := q) h1.head
    rw [hl] at h
    simp [all] at h
  | x :: q, y :: p, m, h1, h2, h => by
    obtain ⟨l, hl⟩ := all_cons (p := q) h1.head
    obtain ⟨k, hk⟩ := all_cons (p := p) h2.head
    have hxy : x.t = y.t ∧ x.r = y.r := by
      rw [hl, hk, List.cons_append] at h
      have := Id.eq_iff.1 (List.cons.inj h).1
      exact ⟨this.1.symm, this.2.symm⟩
    obtain ⟨a, ha, a1, a2, a3, a4⟩ := h1.head.nat
    obtain ⟨b, hb, b1, b2, b3, b4⟩ := h2.head.nat
    have hx : all (x :: q) = up x.t x.r a ++ all q := by rw [all, a3]
    have hy : all (y :: p) = up y.t y.r b ++ all p := by rw [all, b3]
    rw [hx, hy, hxy.1, hxy.2] at h
    rcases Nat.lt_trichotomy a b with hab | hab | hab
    · -- the shorter run ends ahead: nothing of the beginning may be left
      cases q with
      | nil => simp
      | cons z q =>
        exfalso
        obtain ⟨l2, hl2⟩ := all_cons (p := q) h1.tail.head
        rw [show b = a + (b - a) by omega, up_add, List.append_assoc, List.append_assoc] at h
        have h := List.append_cancel_left h
        rw [hl2, show b - a = (b - a - 1) + 1 by omega, up, List.cons_append, List.cons_append] at h
        have hz := Id.eq_iff.1 (List.cons.inj h).1
        simp only at hz
        rw [mk_t (by omega), mk_r y.hr] at hz
        have hn := h1.2.1
        unfold Next fin at hn
        have := hn.2 (by omega)
        omega
    · subst hab
      rw [List.append_assoc] at h
      have := front_len h1.tail h2.tail (List.append_cancel_left h)
      simpa using this
    · exfalso
      rw [show a = b + (a - b) by omega, up_add, List.append_assoc, List.append_assoc] at h
      have h := List.append_cancel_left h
      rw [show a - b = (a - b - 1) + 1 by omega, up, List.cons_append] at h
      cases p with
      | nil => simp [all] at h
      | cons z p =>
        obtain ⟨l2, hl2⟩ := all_cons (p := p) h2.tail.head
        rw [hl2] at h
        have hz := Id.eq_iff.1 (List.cons.inj h).1
        simp only at hz
        rw [mk_t (by omega), mk_r y.hr] at hz
        have hn := h2.2.1
        unfold Next fin at hn
        have := hn.2 (by omega)
        omega

/-- Stamps that rise. -/
def Rises : List Id → Prop
  | [] => True
  | [_] => True
  | a :: b :: l => a.t < b.t ∧ Rises (b :: l)
theorem rises_up : ∀ (t r n : Nat), t + n ≤ 4294967296 → Rises (up t r n)
  | _, _, 0, _ => trivial
  | _, _, 1, _ => trivial
  | t, r, n + 2, h => by
    refine ⟨?_, rises_up (t + 1) r (n + 1) (by omega)⟩
    rw [mk_t (by omega), mk_t (by omega)]
    omega
theorem rises_append : ∀ {l m : List Id}, Rises l → Rises m → (∀ a b, l.getLast? = some a → m.head? = some b → a.t < b.t) → Rises (l ++ m)
  | [], m, _, h, _ => h
  | [a], [], _, _, _ => trivial
  | [a], b :: m, _, h, hab => ⟨hab a b rfl rfl, h⟩
  | a :: b :: l, m, h1, h2, h => ⟨h1.1, rises_append h1.2 h2 (fun x y hx hy => h x y (by simpa using hx) hy)⟩
theorem up_last (t r : Nat) : ∀ n, 1 ≤ n → (up t r n).getLast? = some (mk (t + n - 1) r) := by
  intro n hn
  obtain ⟨k, rfl⟩ : ∃ k, n = k + 1 := ⟨n - 1, by omega⟩
  rw [up_snoc, List.getLast?_append]
  simp
theorem chain_rises : ∀ {p : List Run}, Chain p → Rises (all p)
  | [], _ => trivial
  | x :: p, h => by
    obtain ⟨a, ha, a1, a2, a3, a4⟩ := h.head.nat
    rw [all, a3]
    refine rises_append (rises_up _ _ _ (by omega)) (chain_rises h.tail) ?_
    intro u v hu hv
    rw [up_last _ _ _ a1] at hu
    cases p with
    | nil => simp [all] at hv
    | cons y p =>
      obtain ⟨l, hl⟩ := all_cons (p := p) h.tail.head
      rw [hl] at hv
      simp only [List.head?_cons, Option.some.injEq] at hu hv
      subst hu hv
      have hn := h.2.1.1
      unfold fin at hn
      rw [mk_t (by omega)]
      simp only
      omega
theorem rises_get : ∀ {l : List Id} {k : Nat}, Rises l → k + 1 < l.length → (l.getD k zid).t < (l.getD (k + 1) zid).t
  | [], k, _, h => by simp at h
  | [a], k, _, h => by simp at h
  | a :: b :: l, 0, h, _ => by simpa using h.1
  | a :: b :: l, k + 1, h, hk => by
    have := rises_get (l := b :: l) (k := k) h.2 (by simpa using hk)
    simpa using this
theorem up_may {t r n : Nat} (h1 : 1 ≤ t) (h2 : t + n ≤ 1073741825) (h3 : r < 8) : ∀ a ∈ up t r n, may a.t a.r = true := by
  induction n generalizing t with
  | zero => intro a ha; simp [up] at ha
  | succ n ih =>
    intro a ha
    simp only [up, List.mem_cons] at ha
    rcases ha with rfl | ha
    · rw [may_iff, mk_t (by omega), mk_r (by omega)]; omega
    · exact ih (by omega) (by omega) a ha
theorem chain_may : ∀ {p : List Run}, Chain p → ∀ a ∈ all p, may a.t a.r = true
  | [], _, a, ha => by simp [all] at ha
  | x :: p, h, a, ha => by
    obtain ⟨n, hn, n1, n2, n3, n4⟩ := h.head.nat
    rw [all, List.mem_append, n3] at ha
    rcases ha with ha | ha
    · exact up_may h.head.1 n4 h.head.2.2.1 a ha
    · exact chain_may h.tail a ha
/-- The last run's last stamp is the last of all. -/
theorem last_all {l : List Run} (hc : Chain l) (h : 0 < l.length) : (all l).getLast? = some (mk ((l.getD (l.length - 1) zrun).t + (l.getD (l.length - 1) zrun).m.toNat - 1) (l.getD (l.length - 1) zrun).r) := by
  have hs := split_last h
  have ho := chain_one hc (k := l.length - 1) (by omega)
  obtain ⟨x, hx⟩ : ∃ x, x = l.getD (l.length - 1) zrun := ⟨_, rfl⟩
  rw [← hx] at hs ho ⊢
  obtain ⟨n, hn, n1, n2, n3, n4⟩ := ho.nat
  rw [hs, all_append, List.getLast?_append]
  have : all [x] = up x.t x.r n := by simp [all, n3]
  rw [this, up_last _ _ _ n1, n3]
  simp
end Go.Proofs.Ytelilmhnfmojkaa.Place

/- octavo/op.Needs, octavoref09: May, Check, Many, Stands, Needs: what each answers. Conditions: the places' cells are runs. -/
namespace Go.Proofs.Ytelilmhnfmojkaa.Ops
open Go.RowKit Stamp Go.Proofs.Ytelilmhnfmojkaa.Place
attribute [local go_sem ↓] Go.wp_at_zero Go.wp_at_succ

theorem ids_take' : ∀ (l : List Id) (m : Nat), ids (l.take m) = (ids l).take (m * 2)
  | [], m => by simp [ids, List.take_nil]
  | a :: l, 0 => by simp [ids]
  | a :: l, m + 1 => by
    rw [show (m + 1) * 2 = m * 2 + 1 + 1 by omega]
    simp [ids, ids_take' l m]
theorem idsTake {w : World} {ao : Option Addr} {n cap : Nat} {l : List Id} (h : Ids w (.slice ao n cap) l) {m : Nat} (hm : m ≤ l.length) : Ids w (.slice ao m cap) (l.take m) := by
  obtain ⟨h1, ao', cap', he, h2, h3, h4, h5⟩ := h
  obtain ⟨rfl, rfl, rfl⟩ := Value.slice.inj he
  have hl : (l.take m).length = m := by rw [List.length_take]; omega
  refine ⟨by rw [ids_len], ao, cap, by rw [hl], by omega, h3, h4, ?_⟩
  rcases h5 with h5 | ⟨b, off, rfl, hb, hc⟩
  · left; rw [ids_take', h5]; simp
  · right
    refine ⟨b, off, rfl, hb, fun j u hj => hc j u ?_⟩
    rw [ids_take', List.getElem?_take] at hj
    split at hj
    · exact hj
    · cases hj

/-- How many of the stamps of its place it doesn't stand on. -/
def offs (o : Opn) : Nat := if ownB o = true then 1 else 0
/-- What it stands on. -/
def standsL (o : Opn) : List Id := (all o.pl).take ((all o.pl).length - offs o)
def needsL (o : Opn) : List Id := if mayO o = true then standsL o else []
theorem all_pos {l : List Run} (h : mayB l = true) : 1 ≤ (all l).length ∧ (all l).length ≤ 4096 ∧ ((all l).length : Int) = long l := by
  have hM := (mayB_iff l).1 h
  have h1 := long_len hM.2.2.1
  have h2 := hM.2.2.2
  refine ⟨?_, by omega, h1⟩
  rcases Nat.lt_or_ge 0 (all l).length with h3 | h3
  · exact h3
  · exfalso
    have h4 : all l = [] := List.length_eq_zero_iff.1 (by omega)
    have h5 := (all_nil hM.2.2.1).1 h4
    have := hM.1
    rw [h5] at this
    simp at this
theorem mayO_parts {o : Opn} (h : mayO o = true) : may o.t o.r = true ∧ mayB o.pl = true ∧ kindB o = true := by
  unfold mayO at h
  simp only [Bool.and_eq_true] at h
  exact ⟨h.1, h.2.1, h.2.2⟩
/-- A slice of stamps, and a code. -/
def Told (L : List Id) (c : Int) (w : World) (e : Ending) (w' : World) : Prop := ∃ ao cap, e = .returned (.tuple #[.slice ao L.length cap, .int .i64 c]) ∧ Ids w' (.slice ao L.length cap) L ∧ Below w.heap.size w w'

theorem told_of {S L : List Id} {ao : Option Addr} {n m cap : Nat} {c : Int} {w w2 : World} (hS : S = L.take m) (hm : m ≤ L.length) (I : Ids w2 (.slice ao n cap) L) (B : Below w.heap.size w w2) :
    Told S c w (.returned (.tuple #[.slice ao m cap, .int .i64 c])) w2 := by
  have hl : S.length = m := by rw [hS, List.length_take]; omega
  refine ⟨ao, cap, by rw [hl], ?_, B⟩
  rw [hl, hS]
  exact idsTake I hm

set_option maxHeartbeats 8000000 in
theorem refMayO_any {v : Value} {o : Opn} {w : World} (hv : Runs w v o.pl) :
    Calls Try.prog 31 #[opv o v] w fun e w' => e = .returned (.bool (mayO o)) ∧ Below w.heap.size w w' := by
  obtain ⟨k, t, r, l, p, hk, ht, hr, hp⟩ := o
  unfold opv
  simp only at hv ⊢
  obtain ⟨b, hb⟩ : ∃ b, mayO ⟨k, t, r, l, p, hk, ht, hr, hp⟩ = b := ⟨_, rfl⟩
  rw [hb]
  have hb2 : (may t r && (mayB l && kindF k t r (lastV l).1 (lastV l).2 p)) = b := hb
  clear hb
  have HB := Lib.hid hb2
  have HV := Lib.hid hv
  have B0 : Hid (Below w.heap.size w (w.alloc (.cells #[.int .u8 (k : Int), .int .u32 (t : Int), .int .u8 (r : Int), v, .int .i64 p] 35))) := (Below.refl _ _).alloc (Nat.le_refl _) _
  clear hb2 hv
  have q1 : decide ((k : Int) < 1) = decide (k < 1) := by simp; omega
  by_cases k0 : k = 0
  · subst k0
    obtain rfl : false = b := by rw [← HB.out]; simp [kindF]
    go_enter Try.func31, Try.ntmps31
    go_wp2
    go_ret
    exact ⟨rfl, B0.out⟩
  by_cases k5 : 4 < k
  · obtain rfl : false = b := by rw [← HB.out]; unfold kindF; rw [if_neg (by omega), if_neg (by omega), if_neg (by omega)]; simp
    have s1 : decide ((k : Int) < 1) = false := decide_eq_false (by omega)
    have s2 : decide ((4 : Int) < (k : Int)) = true := decide_eq_true (by omega)
    clear q1
    go_enter Try.func31, Try.ntmps31
    go_wp2
    go_ret
    exact ⟨rfl, B0.out⟩
  have s1 : decide ((k : Int) < 1) = false := decide_eq_false (by omega)
  have s2 : decide ((4 : Int) < (k : Int)) = false := decide_eq_false (by omega)
  have M : Hid (∀ W : World, Calls Try.prog 46 #[.agg #[.int .u32 (t : Int), .int .u8 (r : Int)]] W fun e w' => e = .returned (.bool (may t r)) ∧ Below W.heap.size W w') := fun W => refMay_any t r W
  clear q1
  cases h1 : may t r
  · obtain rfl : false = b := by rw [← HB.out, h1]; rfl
    rw [h1] at M
    clear h1
    go_enter Try.func31, Try.ntmps31
    go_wp2_with fail
    refine (M.out _).mono ?_
    rintro e w1 ⟨rfl, b1⟩
    have B1 := Lib.hid (bt B0.out b1)
    clear b1
    go_wp2
    go_ret
    exact ⟨rfl, B1.out⟩
  rw [h1] at M
  cases h2 : mayB l
  · obtain rfl : false = b := by rw [← HB.out, h1, h2]; rfl
    have M2 : Hid (∀ W : World, Below w.heap.size w W → Calls Try.prog 47 #[v] W fun e w' => e = .returned (.bool false) ∧ Below W.heap.size W w') := fun W hW => refMay_is (HV.out.keeps hW) h2
    clear h1 h2
    go_enter Try.func31, Try.ntmps31
    go_wp2_with fail
    refine (M.out _).mono ?_
    rintro e w1 ⟨rfl, b1⟩
    obtain ⟨c0, c1, c2, c3, c4⟩ := five_cells b1
    have B1 := Lib.hid (bt B0.out b1)
    clear b1
    go_wp2_with fail
    refine (M2.out _ B1.out).mono ?_
    rintro e w2 ⟨rfl, b2⟩
    have B2 := Lib.hid (bt B1.out b2)
    clear b2 c0 c1 c2 c3 c4
    go_wp2
    go_ret
    exact ⟨rfl, B2.out⟩
  have M2 : Hid (∀ W : World, Below w.heap.size w W → Calls Try.prog 47 #[v] W fun e w' => e = .returned (.bool true) ∧ Below W.heap.size W w') := fun W hW => refMay_is (HV.out.keeps hW) h2
  have hM := (mayB_iff l).1 h2
  have hkk : kindF k t r (lastV l).1 (lastV l).2 p = b := by rw [← HB.out, h1, h2]; rfl
  obtain ⟨j, hj⟩ : ∃ j, l.length = j + 1 := ⟨l.length - 1, by have := hM.1; omega⟩
  have hlv : lastV l = (((l.getD j zrun).t : Int) + ((l.getD j zrun).m - 1), ((l.getD j zrun).r : Int)) := by unfold lastV; rw [if_pos h2, hj, Nat.add_sub_cancel]
  have FI : Hid (∀ W : World, Below w.heap.size w W → Calls Try.prog 48 #[v] W fun e w' => e = .returned (.agg #[.int .u32 (lastV l).1, .int .u8 (lastV l).2]) ∧ Below W.heap.size W w') := fun W hW => by
    rw [hlv]
    exact final_any (HV.out.keeps hW) hj rfl (chain_one hM.2.2.1 (by omega)) (by have := hM.2.1; omega)
  obtain ⟨lt, hlt⟩ : ∃ x, x = (lastV l).1 := ⟨_, rfl⟩
  obtain ⟨lr, hlr⟩ : ∃ x, x = (lastV l).2 := ⟨_, rfl⟩
  rw [← hlt, ← hlr] at FI hkk
  have HK := Lib.hid hkk
  have OW : Hid (∀ W : World, Calls Try.prog 49 #[.agg #[.int .u8 (k : Int), .int .u32 (t : Int), .int .u8 (r : Int), v, .int .i64 p]] W fun e w' => e = .returned (.bool (decide (k = 1) || decide (k = 2))) ∧ Below W.heap.size W w') := fun W => refOwn_any (v := v) (o := ⟨k, t, r, l, p, hk, ht, hr, hp⟩) W
  have IS : Hid (∀ W : World, Calls Try.prog 50 #[.int .i64 p] W fun e w' => e = .returned (.bool (Pt.isB p)) ∧ W = w') := fun W => Pt.refIs_any p W
  clear h1 h2 hM hkk hj hlv hlt hlr HB
  have kk : k = 1 ∨ k = 2 ∨ (k = 3 ∨ k = 4) := by omega
  clear k0 k5
  rcases kk with rfl | rfl | hk3
  · have ho : (decide (1 = 1) || decide (1 = 2)) = true := rfl
    have hq : (decide ((lt, lr) = ((t : Int), (r : Int))) && Pt.isB p) = b := HK.out
    rw [ho] at OW
    clear ho HK
    have pair : (lt = (t : Int) ∧ lr = (r : Int)) ∨ (¬ lt = (t : Int)) ∨ (lt = (t : Int) ∧ ¬ lr = (r : Int)) := by omega
    rcases pair with ⟨rfl, rfl⟩ | h | ⟨rfl, h⟩
    · rw [decide_eq_true rfl, Bool.true_and] at hq
      rw [hq] at IS
      clear hq
      cases b
      all_goals
        go_enter Try.func31, Try.ntmps31
        go_wp2_with fail
        refine (M.out _).mono ?_
        rintro e w1 ⟨rfl, b1⟩
        obtain ⟨c0, c1, c2, c3, c4⟩ := five_cells b1
        have B1 := Lib.hid (bt B0.out b1)
        have C1 := Lib.hid b1
        clear b1
        go_wp2_with fail
        refine (M2.out _ B1.out).mono ?_
        rintro e w2 ⟨rfl, b2⟩
        have B2 := Lib.hid (bt B1.out b2)
        have C2 := Lib.hid (bt C1.out b2)
        clear b2 c0 c1 c2 c3 c4
        obtain ⟨c0, c1, c2, c3, c4⟩ := five_cells C2.out
        go_wp2_with fail
        refine (FI.out _ B2.out).mono ?_
        rintro e w3 ⟨rfl, b3⟩
        have B3 := Lib.hid (bt B2.out b3)
        have C3 := Lib.hid (bt C2.out b3)
        clear b3 c0 c1 c2 c3 c4
        obtain ⟨c0, c1, c2, c3, c4⟩ := five_cells C3.out
        have z3 : w.heap.size < w3.heap.size := by have := C3.out.size; simp at this; omega
        have B3' := Lib.hid (fun o : Obj => B3.out.alloc B3.out.size o)
        have C3' := Lib.hid (fun o : Obj => C3.out.alloc C3.out.size o)
        go_wp2_with fail
        refine (OW.out _).mono ?_
        rintro e w4 ⟨rfl, b4⟩
        have B4 := Lib.hid (bt (B3'.out _) b4)
        have C4 := Lib.hid (bt (C3'.out _) b4)
        have D4 := Lib.hid b4
        clear b4 c0 c1 c2 c3 c4
        obtain ⟨c0, c1, c2, c3, c4⟩ := five_cells C4.out
        obtain ⟨d0, d1, -, -⟩ := two_cells D4.out
        go_wp2_with fail
        refine (OW.out _).mono ?_
        rintro e w5 ⟨rfl, b5⟩
        have B5 := Lib.hid (bt B4.out b5)
        have C5 := Lib.hid (bt C4.out b5)
        have D5 := Lib.hid (bt D4.out b5)
        clear b5 c0 c1 c2 c3 c4 d0 d1
        obtain ⟨c0, c1, c2, c3, c4⟩ := five_cells C5.out
        obtain ⟨d0, d1, -, -⟩ := two_cells D5.out
        go_wp2_with fail
        refine (IS.out _).mono ?_
        rintro e w6 ⟨rfl, rfl⟩
        go_wp2
        go_ret
        exact ⟨rfl, B5.out⟩
    · rw [decide_eq_false (fun e => h (Prod.mk.inj e).1), Bool.false_and] at hq
      subst hq
      have q8 : (lt == (t : Int)) = false := by simp; omega
      have q7 : ¬ (t : Int) = lt := fun e => h e.symm
      go_enter Try.func31, Try.ntmps31
      go_wp2_with fail
      refine (M.out _).mono ?_
      rintro e w1 ⟨rfl, b1⟩
      obtain ⟨c0, c1, c2, c3, c4⟩ := five_cells b1
      have B1 := Lib.hid (bt B0.out b1)
      have C1 := Lib.hid b1
      clear b1
      go_wp2_with fail
      refine (M2.out _ B1.out).mono ?_
      rintro e w2 ⟨rfl, b2⟩
      have B2 := Lib.hid (bt B1.out b2)
      have C2 := Lib.hid (bt C1.out b2)
      clear b2 c0 c1 c2 c3 c4
      obtain ⟨c0, c1, c2, c3, c4⟩ := five_cells C2.out
      go_wp2_with fail
      refine (FI.out _ B2.out).mono ?_
      rintro e w3 ⟨rfl, b3⟩
      have B3 := Lib.hid (bt B2.out b3)
      have C3 := Lib.hid (bt C2.out b3)
      clear b3 c0 c1 c2 c3 c4
      obtain ⟨c0, c1, c2, c3, c4⟩ := five_cells C3.out
      have z3 : w.heap.size < w3.heap.size := by have := C3.out.size; simp at this; omega
      have B3' := Lib.hid (fun o : Obj => B3.out.alloc B3.out.size o)
      have C3' := Lib.hid (fun o : Obj => C3.out.alloc C3.out.size o)
      go_wp2_with fail
      refine (OW.out _).mono ?_
      rintro e w4 ⟨rfl, b4⟩
      have B4 := Lib.hid (bt (B3'.out _) b4)
      have C4 := Lib.hid (bt (C3'.out _) b4)
      have D4 := Lib.hid b4
      clear b4 c0 c1 c2 c3 c4
      obtain ⟨c0, c1, c2, c3, c4⟩ := five_cells C4.out
      obtain ⟨d0, d1, -, -⟩ := two_cells D4.out
      go_wp2
      go_ret
      exact ⟨rfl, B4.out⟩
    · rw [decide_eq_false (fun e => h (Prod.mk.inj e).2), Bool.false_and] at hq
      subst hq
      have q8 : (lr == (r : Int)) = false := by simp; omega
      have q7 : ¬ (r : Int) = lr := fun e => h e.symm
      go_enter Try.func31, Try.ntmps31
      go_wp2_with fail
      refine (M.out _).mono ?_
      rintro e w1 ⟨rfl, b1⟩
      obtain ⟨c0, c1, c2, c3, c4⟩ := five_cells b1
      have B1 := Lib.hid (bt B0.out b1)
      have C1 := Lib.hid b1
      clear b1
      go_wp2_with fail
      refine (M2.out _ B1.out).mono ?_
      rintro e w2 ⟨rfl, b2⟩
      have B2 := Lib.hid (bt B1.out b2)
      have C2 := Lib.hid (bt C1.out b2)
      clear b2 c0 c1 c2 c3 c4
      obtain ⟨c0, c1, c2, c3, c4⟩ := five_cells C2.out
      go_wp2_with fail
      refine (FI.out _ B2.out).mono ?_
      rintro e w3 ⟨rfl, b3⟩
      have B3 := Lib.hid (bt B2.out b3)
      have C3 := Lib.hid (bt C2.out b3)
      clear b3 c0 c1 c2 c3 c4
      obtain ⟨c0, c1, c2, c3, c4⟩ := five_cells C3.out
      have z3 : w.heap.size < w3.heap.size := by have := C3.out.size; simp at this; omega
      have B3' := Lib.hid (fun o : Obj => B3.out.alloc B3.out.size o)
      have C3' := Lib.hid (fun o : Obj => C3.out.alloc C3.out.size o)
      go_wp2_with fail
      refine (OW.out _).mono ?_
      rintro e w4 ⟨rfl, b4⟩
      have B4 := Lib.hid (bt (B3'.out _) b4)
      have C4 := Lib.hid (bt (C3'.out _) b4)
      have D4 := Lib.hid b4
      clear b4 c0 c1 c2 c3 c4
      obtain ⟨c0, c1, c2, c3, c4⟩ := five_cells C4.out
      obtain ⟨d0, d1, -, -⟩ := two_cells D4.out
      go_wp2
      go_ret
      exact ⟨rfl, B4.out⟩
  · have ho : (decide (2 = 1) || decide (2 = 2)) = true := rfl
    have hq : (decide ((lt, lr) = ((t : Int), (r : Int))) && decide (p = 0)) = b := HK.out
    rw [ho] at OW
    clear ho HK
    have pair : (lt = (t : Int) ∧ lr = (r : Int)) ∨ (¬ lt = (t : Int)) ∨ (lt = (t : Int) ∧ ¬ lr = (r : Int)) := by omega
    rcases pair with ⟨rfl, rfl⟩ | h | ⟨rfl, h⟩
    · rw [decide_eq_true rfl, Bool.true_and] at hq
      have q9 : (p == 0) = b := by rw [← hq]; simp [BEq.beq]
      clear hq
      cases b
      all_goals
        go_enter Try.func31, Try.ntmps31
        go_wp2_with fail
        refine (M.out _).mono ?_
        rintro e w1 ⟨rfl, b1⟩
        obtain ⟨c0, c1, c2, c3, c4⟩ := five_cells b1
        have B1 := Lib.hid (bt B0.out b1)
        have C1 := Lib.hid b1
        clear b1
        go_wp2_with fail
        refine (M2.out _ B1.out).mono ?_
        rintro e w2 ⟨rfl, b2⟩
        have B2 := Lib.hid (bt B1.out b2)
        have C2 := Lib.hid (bt C1.out b2)
        clear b2 c0 c1 c2 c3 c4
        obtain ⟨c0, c1, c2, c3, c4⟩ := five_cells C2.out
        go_wp2_with fail
        refine (FI.out _ B2.out).mono ?_
        rintro e w3 ⟨rfl, b3⟩
        have B3 := Lib.hid (bt B2.out b3)
        have C3 := Lib.hid (bt C2.out b3)
        clear b3 c0 c1 c2 c3 c4
        obtain ⟨c0, c1, c2, c3, c4⟩ := five_cells C3.out
        have z3 : w.heap.size < w3.heap.size := by have := C3.out.size; simp at this; omega
        have B3' := Lib.hid (fun o : Obj => B3.out.alloc B3.out.size o)
        have C3' := Lib.hid (fun o : Obj => C3.out.alloc C3.out.size o)
        go_wp2_with fail
        refine (OW.out _).mono ?_
        rintro e w4 ⟨rfl, b4⟩
        have B4 := Lib.hid (bt (B3'.out _) b4)
        have C4 := Lib.hid (bt (C3'.out _) b4)
        have D4 := Lib.hid b4
        clear b4 c0 c1 c2 c3 c4
        obtain ⟨c0, c1, c2, c3, c4⟩ := five_cells C4.out
        obtain ⟨d0, d1, -, -⟩ := two_cells D4.out
        go_wp2_with fail
        refine (OW.out _).mono ?_
        rintro e w5 ⟨rfl, b5⟩
        have B5 := Lib.hid (bt B4.out b5)
        have C5 := Lib.hid (bt C4.out b5)
        have D5 := Lib.hid (bt D4.out b5)
        clear b5 c0 c1 c2 c3 c4 d0 d1
        obtain ⟨c0, c1, c2, c3, c4⟩ := five_cells C5.out
        obtain ⟨d0, d1, -, -⟩ := two_cells D5.out
        go_wp2
        go_ret
        exact ⟨rfl, B5.out⟩
    · rw [decide_eq_false (fun e => h (Prod.mk.inj e).1), Bool.false_and] at hq
      subst hq
      have q8 : (lt == (t : Int)) = false := by simp; omega
      have q7 : ¬ (t : Int) = lt := fun e => h e.symm
      go_enter Try.func31, Try.ntmps31
      go_wp2_with fail
      refine (M.out _).mono ?_
      rintro e w1 ⟨rfl, b1⟩
      obtain ⟨c0, c1, c2, c3, c4⟩ := five_cells b1
      have B1 := Lib.hid (bt B0.out b1)
      have C1 := Lib.hid b1
      clear b1
      go_wp2_with fail
      refine (M2.out _ B1.out).mono ?_
      rintro e w2 ⟨rfl, b2⟩
      have B2 := Lib.hid (bt B1.out b2)
      have C2 := Lib.hid (bt C1.out b2)
      clear b2 c0 c1 c2 c3 c4
      obtain ⟨c0, c1, c2, c3, c4⟩ := five_cells C2.out
      go_wp2_with fail
      refine (FI.out _ B2.out).mono ?_
      rintro e w3 ⟨rfl, b3⟩
      have B3 := Lib.hid (bt B2.out b3)
      have C3 := Lib.hid (bt C2.out b3)
      clear b3 c0 c1 c2 c3 c4
      obtain ⟨c0, c1, c2, c3, c4⟩ := five_cells C3.out
      have z3 : w.heap.size < w3.heap.size := by have := C3.out.size; simp at this; omega
      have B3' := Lib.hid (fun o : Obj => B3.out.alloc B3.out.size o)
      have C3' := Lib.hid (fun o : Obj => C3.out.alloc C3.out.size o)
      go_wp2_with fail
      refine (OW.out _).mono ?_
      rintro e w4 ⟨rfl, b4⟩
      have B4 := Lib.hid (bt (B3'.out _) b4)
      have C4 := Lib.hid (bt (C3'.out _) b4)
      have D4 := Lib.hid b4
      clear b4 c0 c1 c2 c3 c4
      obtain ⟨c0, c1, c2, c3, c4⟩ := five_cells C4.out
      obtain ⟨d0, d1, -, -⟩ := two_cells D4.out
      go_wp2
      go_ret
      exact ⟨rfl, B4.out⟩
    · rw [decide_eq_false (fun e => h (Prod.mk.inj e).2), Bool.false_and] at hq
      subst hq
      have q8 : (lr == (r : Int)) = false := by simp; omega
      have q7 : ¬ (r : Int) = lr := fun e => h e.symm
      go_enter Try.func31, Try.ntmps31
      go_wp2_with fail
      refine (M.out _).mono ?_
      rintro e w1 ⟨rfl, b1⟩
      obtain ⟨c0, c1, c2, c3, c4⟩ := five_cells b1
      have B1 := Lib.hid (bt B0.out b1)
      have C1 := Lib.hid b1
      clear b1
      go_wp2_with fail
      refine (M2.out _ B1.out).mono ?_
      rintro e w2 ⟨rfl, b2⟩
      have B2 := Lib.hid (bt B1.out b2)
      have C2 := Lib.hid (bt C1.out b2)
      clear b2 c0 c1 c2 c3 c4
      obtain ⟨c0, c1, c2, c3, c4⟩ := five_cells C2.out
      go_wp2_with fail
      refine (FI.out _ B2.out).mono ?_
      rintro e w3 ⟨rfl, b3⟩
      have B3 := Lib.hid (bt B2.out b3)
      have C3 := Lib.hid (bt C2.out b3)
      clear b3 c0 c1 c2 c3 c4
      obtain ⟨c0, c1, c2, c3, c4⟩ := five_cells C3.out
      have z3 : w.heap.size < w3.heap.size := by have := C3.out.size; simp at this; omega
      have B3' := Lib.hid (fun o : Obj => B3.out.alloc B3.out.size o)
      have C3' := Lib.hid (fun o : Obj => C3.out.alloc C3.out.size o)
      go_wp2_with fail
      refine (OW.out _).mono ?_
      rintro e w4 ⟨rfl, b4⟩
      have B4 := Lib.hid (bt (B3'.out _) b4)
      have C4 := Lib.hid (bt (C3'.out _) b4)
      have D4 := Lib.hid b4
      clear b4 c0 c1 c2 c3 c4
      obtain ⟨c0, c1, c2, c3, c4⟩ := five_cells C4.out
      obtain ⟨d0, d1, -, -⟩ := two_cells D4.out
      go_wp2
      go_ret
      exact ⟨rfl, B4.out⟩
  · have ho : (decide (k = 1) || decide (k = 2)) = false := by rw [decide_eq_false (by omega), decide_eq_false (by omega)]; rfl
    have hq : (decide (lt < (t : Int)) && decide (p = 0)) = b := by rw [← HK.out]; unfold kindF; rw [if_neg (by omega), if_neg (by omega), if_pos hk3]
    have s5 : ((k : Int) == 1) = false := by simp; omega
    rw [ho] at OW
    clear ho HK
    by_cases h : lt < (t : Int)
    · have s3 : decide ((t : Int) ≤ lt) = false := decide_eq_false (by omega)
      rw [decide_eq_true h, Bool.true_and] at hq
      have q9 : (p == 0) = b := by rw [← hq]; simp [BEq.beq]
      clear hq
      cases b
      all_goals
        go_enter Try.func31, Try.ntmps31
        go_wp2_with fail
        refine (M.out _).mono ?_
        rintro e w1 ⟨rfl, b1⟩
        obtain ⟨c0, c1, c2, c3, c4⟩ := five_cells b1
        have B1 := Lib.hid (bt B0.out b1)
        have C1 := Lib.hid b1
        clear b1
        go_wp2_with fail
        refine (M2.out _ B1.out).mono ?_
        rintro e w2 ⟨rfl, b2⟩
        have B2 := Lib.hid (bt B1.out b2)
        have C2 := Lib.hid (bt C1.out b2)
        clear b2 c0 c1 c2 c3 c4
        obtain ⟨c0, c1, c2, c3, c4⟩ := five_cells C2.out
        go_wp2_with fail
        refine (FI.out _ B2.out).mono ?_
        rintro e w3 ⟨rfl, b3⟩
        have B3 := Lib.hid (bt B2.out b3)
        have C3 := Lib.hid (bt C2.out b3)
        clear b3 c0 c1 c2 c3 c4
        obtain ⟨c0, c1, c2, c3, c4⟩ := five_cells C3.out
        have z3 : w.heap.size < w3.heap.size := by have := C3.out.size; simp at this; omega
        have B3' := Lib.hid (fun o : Obj => B3.out.alloc B3.out.size o)
        have C3' := Lib.hid (fun o : Obj => C3.out.alloc C3.out.size o)
        go_wp2_with fail
        refine (OW.out _).mono ?_
        rintro e w4 ⟨rfl, b4⟩
        have B4 := Lib.hid (bt (B3'.out _) b4)
        have C4 := Lib.hid (bt (C3'.out _) b4)
        have D4 := Lib.hid b4
        clear b4 c0 c1 c2 c3 c4
        obtain ⟨c0, c1, c2, c3, c4⟩ := five_cells C4.out
        obtain ⟨d0, d1, -, -⟩ := two_cells D4.out
        go_wp2_with fail
        refine (OW.out _).mono ?_
        rintro e w5 ⟨rfl, b5⟩
        have B5 := Lib.hid (bt B4.out b5)
        have C5 := Lib.hid (bt C4.out b5)
        have D5 := Lib.hid (bt D4.out b5)
        clear b5 c0 c1 c2 c3 c4 d0 d1
        obtain ⟨c0, c1, c2, c3, c4⟩ := five_cells C5.out
        obtain ⟨d0, d1, -, -⟩ := two_cells D5.out
        go_wp2
        go_ret
        exact ⟨rfl, B5.out⟩
    · have s3 : decide ((t : Int) ≤ lt) = true := decide_eq_true (by omega)
      rw [decide_eq_false h, Bool.false_and] at hq
      subst hq
      go_enter Try.func31, Try.ntmps31
      go_wp2_with fail
      refine (M.out _).mono ?_
      rintro e w1 ⟨rfl, b1⟩
      obtain ⟨c0, c1, c2, c3, c4⟩ := five_cells b1
      have B1 := Lib.hid (bt B0.out b1)
      have C1 := Lib.hid b1
      clear b1
      go_wp2_with fail
      refine (M2.out _ B1.out).mono ?_
      rintro e w2 ⟨rfl, b2⟩
      have B2 := Lib.hid (bt B1.out b2)
      have C2 := Lib.hid (bt C1.out b2)
      clear b2 c0 c1 c2 c3 c4
      obtain ⟨c0, c1, c2, c3, c4⟩ := five_cells C2.out
      go_wp2_with fail
      refine (FI.out _ B2.out).mono ?_
      rintro e w3 ⟨rfl, b3⟩
      have B3 := Lib.hid (bt B2.out b3)
      have C3 := Lib.hid (bt C2.out b3)
      clear b3 c0 c1 c2 c3 c4
      obtain ⟨c0, c1, c2, c3, c4⟩ := five_cells C3.out
      have z3 : w.heap.size < w3.heap.size := by have := C3.out.size; simp at this; omega
      have B3' := Lib.hid (fun o : Obj => B3.out.alloc B3.out.size o)
      have C3' := Lib.hid (fun o : Obj => C3.out.alloc C3.out.size o)
      go_wp2_with fail
      refine (OW.out _).mono ?_
      rintro e w4 ⟨rfl, b4⟩
      have B4 := Lib.hid (bt (B3'.out _) b4)
      have C4 := Lib.hid (bt (C3'.out _) b4)
      have D4 := Lib.hid b4
      clear b4 c0 c1 c2 c3 c4
      obtain ⟨c0, c1, c2, c3, c4⟩ := five_cells C4.out
      obtain ⟨d0, d1, -, -⟩ := two_cells D4.out
      go_wp2_with fail
      refine (OW.out _).mono ?_
      rintro e w5 ⟨rfl, b5⟩
      have B5 := Lib.hid (bt B4.out b5)
      have C5 := Lib.hid (bt C4.out b5)
      have D5 := Lib.hid (bt D4.out b5)
      clear b5 c0 c1 c2 c3 c4 d0 d1
      obtain ⟨c0, c1, c2, c3, c4⟩ := five_cells C5.out
      obtain ⟨d0, d1, -, -⟩ := two_cells D5.out
      go_wp2
      go_ret
      exact ⟨rfl, B5.out⟩
end Go.Proofs.Ytelilmhnfmojkaa.Ops
