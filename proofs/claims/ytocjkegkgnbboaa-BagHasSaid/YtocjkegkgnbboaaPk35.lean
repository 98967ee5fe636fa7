/- What is found in a bag with one more, without stamps. Conditions: none. -/
import Derived.Test.YtocjkegkgnbboaaPk30
import Derived.Test.YtocjkegkgnbboaaPk33
import Derived.Test.YtocjkegkgnbboaaPk12
import Derived.Test.YtocjkegkgnbboaaPk15

namespace Go.Proofs.Ytocjkegkgnbboaa.Bags
open Go.RowKit Go.WideShapes Stamp Go.Proofs.Ytocjkegkgnbboaa.Place Ops Codes

theorem findO_filter {g : Id → Bool} : ∀ {l : List Opn} {a : Id}, findO (l.filter (fun o => g (idO o))) a = if g a = true then findO l a else none
  | [], a => by simp [findO]
  | x :: l, a => by
    rw [List.filter_cons]
    by_cases hx : g (idO x) = true
    · rw [if_pos hx]
      unfold findO
      by_cases e : idO x = a
      · rw [if_pos e, if_pos e, if_pos (by rw [← e]; exact hx)]
      · rw [if_neg e, if_neg e, findO_filter]
    · rw [if_neg hx, findO_filter]
      by_cases ha : g a = true
      · rw [if_pos ha, if_pos ha]
        conv => rhs; unfold findO
        rw [if_neg (fun e => hx (by rw [e]; exact ha))]
      · rw [if_neg ha, if_neg ha]
/-- What BagLess asks. -/
theorem less_all {l : List Opn} {c : List Clocks.Tm} (a : Id) (h : lessE l c = 0) : findL (lessL l c) a = (if Clocks.hasC c a = true then none else findL l a) ∧ chkL (lessL l c) = 0 := by
  have hc : bagB l = true ∧ Clocks.mayC c = true := by
    unfold lessE at h
    by_cases h2 : bagB l = true ∧ Clocks.mayC c = true
    · exact h2
    · rw [if_neg h2] at h; cases h
  have e : lessL l c = leftO l c := by unfold lessL; rw [if_pos hc]
  have hb := lessL_bag l c
  have hbb := (bagB_iff _).2 hb
  refine ⟨?_, by unfold chkL; rw [if_pos hbb]⟩
  unfold findL
  rw [if_pos hbb, if_pos hc.1, e]
  have hh : Clocks.hasC c a = inC c a := by unfold Clocks.hasC inC; rw [hc.2]; rfl
  rw [hh]
  unfold leftO
  rw [findO_filter (g := fun i => !inC c i)]
  cases inC c a <;> simp
theorem less_nil {l : List Opn} {c : List Clocks.Tm} (h : lessE l c ≠ 0) : lessL l c = [] ∧ (lessE l c == 0) = false := by
  refine ⟨?_, by simpa using h⟩
  unfold lessE at h
  unfold lessL
  split at h
  · exact absurd rfl h
  · rename_i h2; rw [if_neg h2]
end Go.Proofs.Ytocjkegkgnbboaa.Bags

/- What is found in a bag with one more, and its stamps' clock. Conditions: none. -/
namespace Go.Proofs.Ytocjkegkgnbboaa.Bags
open Go.RowKit Go.WideShapes Stamp Go.Proofs.Ytocjkegkgnbboaa.Place Ops Codes

theorem find_with {l : List Opn} {o : Opn} (hp : l.Pairwise lessO) (a : Id) : findO (withO l o) a = match findO l a with | some y => some y | none => if idO o = a then some o else none := by
  cases h : findO l a with
  | some y =>
    obtain ⟨h1, h2⟩ := findO_some h
    simp only
    rw [← h2]
    exact findO_mem (pw_withO hp) (mem_withO.2 (.inl h1))
  | none =>
    simp only
    by_cases e : idO o = a
    · rw [if_pos e]
      rw [← e] at h ⊢
      refine findO_mem (pw_withO hp) (mem_withO.2 (.inr ⟨rfl, ?_⟩))
      unfold hasO; rw [h]; rfl
    · rw [if_neg e]
      refine findO_none.2 (fun z hz => ?_)
      rcases mem_withO.1 hz with hz | ⟨rfl, _⟩
      · exact findO_none.1 h z hz
      · exact e
open Clocks Spans in
theorem count_among (l : List Id) (h1 : ∀ a ∈ l, mayI a) (h2 : l.length ≤ 1024) (h3 : l.Nodup) : manyC (among l) = l.length := by
  induction l using list_snoc_ind with
  | h0 => rfl
  | h1 l a ih =>
    rw [List.length_append] at h2
    simp only [List.length_cons, List.length_nil] at h2
    have hnd := List.nodup_append.1 h3
    have m1 : ∀ b ∈ l, mayI b := fun b hb => h1 b (by simp [hb])
    have ih' := ih m1 (by omega) hnd.1
    obtain ⟨c1, c2, c3⟩ := among_ok l m1 (by omega)
    have ha := h1 a (by simp)
    have co := one_ok ha
    have hf : Few (among l) (one a) := fun r => by have := c2 r; have := spn_one_len a r; omega
    have hna : a ∉ l := fun hm => hnd.2.2 a hm a (by simp) rfl
    have e : leftC (among l) (one a) = among l := cok_ext (leftC_ok c1 co hf) c1 (fun r n => by
      rw [spn_leftC c1 co, (left_ok (sp_fine c1 r) (fun x hx => (sp_fine co r).all x hx)).2]
      constructor
      · exact fun h => h.1
      · refine fun h => ⟨h, fun h5 => ?_⟩
        obtain ⟨b, hb, e1, e2⟩ := (c3 r n).1 h
        rw [spn_one] at h5
        split at h5
        · rename_i er
          rw [in_cons, Spans.mk_f a.ht, Spans.mk_t a.ht] at h5
          rcases h5 with h5 | h5
          · exact hna (by rw [show a = b from Id.ext' (by omega) (by omega)]; exact hb)
          · exact absurd h5 (in_nil _)
        · exact absurd h5 (in_nil _))
    rw [among_snoc, manyC_parts c1 co, e, ih', manyC_one, List.length_append]
    rfl
/-- What BagHas asks of the clock. -/
theorem ids_all {x : List Opn} (hb : Bag x) (a : Id) : Clocks.hasC (idsC x) a = (findO x a).isSome ∧ Clocks.countC (idsC x) = x.length ∧ chkL x = 0 := by
  have hbb := (bagB_iff x).2 hb
  have e : idsC x = Clocks.among (stampsO x) := by unfold idsC; rw [if_pos hbb]
  have hm : ∀ i ∈ stampsO x, Clocks.mayI i := fun i hi => by
    obtain ⟨o, ho, rfl⟩ := List.mem_map.1 hi
    exact mayO_id (hb.2.1 o ho)
  have hl : (stampsO x).length ≤ 1024 := by unfold stampsO; rw [List.length_map]; exact hb.1
  obtain ⟨c1, c2, c3⟩ := Clocks.among_ok _ hm hl
  have hmay := (Clocks.mayC_iff _).2 c1
  have hnd : (stampsO x).Nodup := by
    unfold stampsO List.Nodup
    rw [List.pairwise_map]
    exact hb.2.2.imp (fun h => lessO_ne h)
  refine ⟨?_, ?_, by unfold chkL; rw [if_pos hbb]⟩
  · rw [e, Clocks.hasC_may hmay, Bool.eq_iff_iff, Spans.inB_iff, c3]
    show _ ↔ hasO x a = true
    rw [hasO_iff]
    constructor
    · rintro ⟨i, hi, h1, h2⟩
      obtain ⟨o, ho, rfl⟩ := List.mem_map.1 hi
      exact ⟨o, ho, Id.ext' h2 h1⟩
    · rintro ⟨o, ho, rfl⟩
      exact ⟨idO o, List.mem_map.2 ⟨o, ho, rfl⟩, rfl, rfl⟩
  · rw [e]; unfold Clocks.countC; rw [if_pos hmay, count_among _ hm hl hnd]
    unfold stampsO; rw [List.length_map]
end Go.Proofs.Ytocjkegkgnbboaa.Bags

/- octavo/clock: Count, Top, Ids: what each answers. Conditions: the slices' cells are replicas' spans. -/
namespace Go.Proofs.Ytocjkegkgnbboaa.Clocks
open Go.RowKit Go.Proofs.Ytocjkegkgnbboaa.Spans
attribute [local go_sem ↓] Go.wp_at_zero Go.wp_at_succ

set_option maxRecDepth 100000 in
set_option maxHeartbeats 2000000 in
theorem cCount_any {v : Value} {c : List Tm} {w : World} (hv : Tms w v c) :
    Calls Try.prog 37 #[v] w fun e w' => e = .returned (.int .i64 (countC c : Int)) ∧ Below w.heap.size w w' := by
  obtain ⟨ao, cap, rfl⟩ := hv.shape
  obtain ⟨n, hn⟩ : ∃ n, n = c.length := ⟨_, rfl⟩
  have hm : n ≤ 9223372036854775807 := by rw [hn]; exact Tms.max hv
  have M := Lib.hid (cCheck_any hv)
  have HV := Lib.hid hv
  have HN := Lib.hid hn
  unfold countC
  unfold chkC at M
  cases hb : mayC c
  · rw [hb, if_neg (by simp)] at M
    rw [if_neg (by simp)]
    clear hb hv hn
    go_enter Try.func37, Try.ntmps37
    go_wp2_with fail
    refine M.out.mono ?_
    rintro e w1 ⟨rfl, b1⟩
    go_wp2
    go_ret
    exact ⟨rfl, b1⟩
  rw [hb, if_pos rfl] at M
  rw [if_pos rfl]
  have HC := Lib.hid ((mayC_iff c).1 hb)
  obtain ⟨R, hR⟩ : ∃ R, R = manyC c := ⟨_, rfl⟩
  have HR := Lib.hid hR
  rw [← hR]
  rw [← hn] at M ⊢
  clear hb hv hn hR
  go_enter Try.func37, Try.ntmps37
  go_wp2_with fail
  refine M.out.mono ?_
  rintro e w1 ⟨rfl, b1⟩
  have B0 := Lib.hid b1
  clear b1
  go_wp2
  go_loopw [3, 11] (fun s i wr => ∃ k m : Nat, k ≤ n ∧ i = .int .i64 (k : Int) ∧ s = .int .i64 (m : Int) ∧ Hid (m = manyC (c.take k)) ∧ Hid (Below w.heap.size w wr)) (fun _ i _ => n - (intOf i).toNat)
  case atStart => exact ⟨0, 0, by omega, rfl, rfl, Lib.hid rfl, B0⟩
  case round =>
    clear B0
    obtain ⟨k, m, hk, rfl, rfl, hmany, hbel⟩ := hrel
    by_cases hkn : k < n
    · have q1 : decide (k < n) = true := by simpa using hkn
      have q2 : (0 : Int) ≤ (k : Int) := by omega
      have q3 : (k : Int) < (n : Int) := by omega
      have hkl : k < c.length := by rw [← HN.out]; exact hkn
      obtain ⟨b1, o1, u, rfl, hb1, ha0, ha1, -, hsp⟩ := (HV.out.keeps hbel.out).at k hkl
      have hok := up_all HC.out (c.getD k ztm) (tm_mem hkl)
      have hs := tm_take_snoc c k hkl
      have hms := manyC_snoc (c.take k) (c.getD k ztm)
      rw [← hs] at hms
      have hle := manyC_le (up_take HC.out (k + 1))
      obtain ⟨x, hx⟩ : ∃ x, x = c.getD k ztm := ⟨_, rfl⟩
      have hx' : c.getD k (0, []) = x := hx.symm
      rw [hx'] at ha0 hsp
      rw [← hx] at hok hms
      obtain ⟨wo, rfl⟩ : ∃ wo : World, wo = wr := ⟨_, rfl⟩
      have BA : Hid (∀ o : Obj, Below wo.heap.size wo (wo.alloc o)) := fun o => (Below.refl _ _).alloc (Nat.le_refl _) o
      have C : Hid (∀ o : Obj, Calls Try.prog 63 #[u] (wo.alloc o) fun e w' => e = .returned (.int .i64 (many x.2 : Int)) ∧ Below (wo.alloc o).heap.size (wo.alloc o) w') := fun o => by
        have h := pCount_any (hsp.keeps (BA.out o))
        unfold count at h
        rwa [if_pos hok.2.2.2] at h
      obtain ⟨so, sc, rfl⟩ := hsp.shape
      obtain ⟨d, hd⟩ : ∃ d, d = many x.2 := ⟨_, rfl⟩
      rw [← hd] at C hms
      have HM2 : Hid (m + d = manyC (c.take (k + 1))) := by show _ = _; rw [hms, hmany.out]
      have hb2 : m + d ≤ 8589934600 := by rw [HM2.out]; omega
      have e5 : IntKind.i64.wrap ((m : Int) + (d : Int)) = (m : Int) + (d : Int) := IntWalk.i64_in _ (by omega)
      obtain ⟨xr, xs⟩ := x
      simp only at ha0 ha1 C
      obtain ⟨sl, hsl⟩ : ∃ sl, sl = xs.length := ⟨_, rfl⟩
      rw [← hsl] at C ha1
      clear hx hx' hs hms hle hok hsp hd hsl
      go_wp2_with fail
      refine (C.out _).mono ?_
      rintro e w1 ⟨rfl, b1⟩
      have B1 := Lib.hid (bt (bt hbel.out (BA.out _)) b1)
      clear b1
      go_wp2
      go_roundw
      case rel => exact ⟨k + 1, m + d, by omega, by go_num, by go_num, HM2, B1⟩
      case measure => simp [intOf]; omega
    · have q1 : decide (k < n) = false := by simpa using hkn
      have hkk : c.take k = c := List.take_of_length_le (by have := HN.out; omega)
      have hf : m = R := by have := hmany.out; rw [hkk] at this; rw [HR.out]; exact this
      subst hf
      clear hkk
      go_wp2
      go_ret
      exact ⟨rfl, hbel.out⟩

end Go.Proofs.Ytocjkegkgnbboaa.Clocks
