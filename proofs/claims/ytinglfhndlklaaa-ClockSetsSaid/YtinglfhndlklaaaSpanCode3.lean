/- octavo/span.with: what it answers. Conditions: the row is the call's own and holds spans that end at MaxTime at the most. -/
import Derived.Test.YtinglfhndlklaaaSpanCode2
namespace Go.Proofs.Ytinglfhndlklaaa.Spans
open Go.RowKit Go.Shelf
attribute [local go_sem ↓] Go.wp_at_zero Go.wp_at_succ

theorem grown_trans {a b c : World} {row : Option Nat} (h : a.grownBy b row) (k : b.grownBy c row) : a.grownBy c row :=
  ⟨k.os.trans h.os, k.tape.trans h.tape, k.output.trans h.output, Nat.le_trans h.size k.size, fun i hi hr => (k.block i (Nat.lt_of_lt_of_le hi h.size) hr).trans (h.block i hi hr)⟩
theorem grown_draw {a b : World} {row : Option Nat} (h : a.grownBy b row) (n : Nat) : a.grownBy (b.drewN n) row := ⟨h.os, h.tape, h.output, h.size, h.block⟩
theorem grown_any {a b : World} {row : Option Nat} (h : Below a.heap.size a b) : a.grownBy b row := ⟨h.os, h.tape, h.output, h.size, fun k hk _ => h.block k hk⟩
theorem own_drawn {w : World} {B sz n : Nat} {e : TypeId} {v : Value} {cs : List Value} (h : w.ownsRow B e sz v n cs) (k : Nat) : (w.drewN k).ownsRow B e sz v n cs := h
theorem sps_set_last (l : List Sp) (x : Sp) (t : Nat) (ht : t < 4294967296) : (sps (l ++ [x])).set (l.length * 2 + 1) (.int .u32 (t : Int)) = sps (l ++ [mk x.f t]) := by
  rw [sps_append, sps_append, List.set_append_right _ _ (by rw [sps_len]; omega), sps_len]
  congr 1
  rw [show l.length * 2 + 1 - l.length * 2 = 1 by omega]
  simp only [sps, mk_f x.hf, mk_t ht, List.set_cons_succ, List.set_cons_zero]

set_option maxRecDepth 100000 in
set_option maxHeartbeats 4000000 in
theorem pwith_any {B : Nat} {v : Value} {l : List Sp} {s : Sp} {w : World} (hv : w.ownsRow B 63 2 v l.length (sps l)) (hB : B ≤ w.heap.size) (hf : ∀ x ∈ l, x.t ≤ 1073741824) (hl : l.length ≤ 5000) :
    Calls Try.prog 83 #[v, .agg #[.int .u32 (s.f : Int), .int .u32 (s.t : Int)]] w fun e w' => ∃ v', e = .returned v' ∧ w'.ownsRow B 63 2 v' (wth l s).length (sps (wth l s)) ∧ w.grownBy w' v.ownBlock := by
  rcases nil_or_snoc l with rfl | ⟨m, x, rfl⟩
  · -- nothing yet
    obtain ⟨ao, cap, rfl⟩ := Sees.shape (Sees.own hv)
    have HV := Lib.hid hv
    obtain ⟨f, t, hfb, htb⟩ := s
    simp only
    have XB : Hid (∀ q, Below w.heap.size w (((w.alloc (.cells #[.int .u32 (f : Int), .int .u32 (t : Int)] 63)).drewN q).alloc (.cells #[.int .u32 (f : Int), .int .u32 (t : Int)] 63))) := fun q => (below_draw ((Below.refl _ _).alloc (Nat.le_refl _) _) q).alloc (by simp [World.drewN]) _
    clear hv hf
    go_enter Try.func83, Try.ntmps83
    go_wp2
    go_quiet (fail)
    go_wp2_with (at_builtin; refine wpList_append_sees rfl (.tmp 29) (.tmp 31) 26 63 rfl Try.underlying26 span_info rfl (by decide) B _ 0 [] rfl (own_stays HV.out (XB.out _)) _ 1 _ rfl (sees_sp (a := ⟨f, t, hfb, htb⟩) (kb_new (by simp [World.drewN])) rfl rfl) (sps_oneCell _) ?a1 ?a2 ?a3 ?_)
    case a1 => omega
    case a2 => omega
    case a3 => exact Nat.le_trans hB (XB.out _).size
    rintro v5 w5 o5 g5 b5
    have O5 := Lib.hid o5
    have G5 := Lib.hid (grown_trans (grown_any (XB.out _)) g5)
    clear o5 g5 b5
    go_wp2
    go_ret
    exact ⟨_, rfl, O5.out, G5.out⟩
  · have hxt := hf x (by simp)
    rw [wth_snoc]
    obtain ⟨ao, cap, rfl⟩ := Sees.shape (Sees.own hv)
    obtain ⟨k, hk⟩ : ∃ k, k = m.length := ⟨_, rfl⟩
    have hlen : (m ++ [x]).length = k + 1 := by simp [hk]
    have hget : (m ++ [x]).getD k zsp = x := by simp [hk]
    have hSl := sps_set_last m x s.t s.ht
    rw [← hk] at hSl
    have HK := Lib.hid hk
    have hsee := Sps.at (Sps.own hv) k (by omega)
    rw [hget] at hsee
    rw [hlen] at hv hl ⊢
    obtain ⟨f, t, hfb, htb⟩ := s
    obtain ⟨xf, xt, hxf, hxtb⟩ := x
    simp only at hsee hxt hSl ⊢
    obtain ⟨g, hg⟩ : ∃ g, ao = some ⟨g, 0, none⟩ := by
      rcases hv.2 with ⟨h0, h1⟩ | ⟨g, c, cur, h0, _⟩
      · omega
      · cases h0; exact ⟨g, rfl⟩
    subst hg
    obtain ⟨b', off', he, hgl, hx0, hx1⟩ := hsee
    obtain ⟨rfl, rfl⟩ : g = b' ∧ 0 = off' := by simpa using he
    rw [Nat.zero_add] at hx0 hx1
    have HV := Lib.hid hv
    have hfz := hv.frozenAt (k * 2 + 1)
    have HSL := Lib.hid hSl
    have i1 : ((k + 1 : Nat) : Int) - 1 = (k : Int) := by omega
    have i1' : (k : Int) + 1 - 1 = (k : Int) := by omega
    have i2 : IntKind.i64.wrap (k : Int) = (k : Int) := IntWalk.i64_in _ (by omega)
    have i3 : (0 : Int) ≤ (k : Int) := by omega
    have i4 : (k : Int) < ((k + 1 : Nat) : Int) := by omega
    have i4' : (k : Int) < (k : Int) + 1 := by omega
    have eT : IntKind.u32.wrap ((xt : Int) + 1) = (xt : Int) + 1 := by rw [IntKind.wrap_u32]; omega
    have hne : ¬ w.heap.size = g := by omega
    have XB0 : Hid (∀ q, Below w.heap.size w ((w.alloc (.cells #[.int .u32 (f : Int), .int .u32 (t : Int)] 63)).drewN q)) := fun q => below_draw ((Below.refl _ _).alloc (Nat.le_refl _) _) q
    clear hv hSl hk hf hget
    by_cases h2 : xt + 1 = f
    · rw [if_pos h2]
      have s1 : ((xt : Int) + 1 == (f : Int)) = true := by rw [beq_iff_eq]; omega
      have s2 : decide (xt + 1 = f) = true := decide_eq_true h2
      have HS := Lib.hid (fun q => (own_stays HV.out (XB0.out q)).stored (k * 2 + 1) (.int .u32 (t : Int)))
      go_enter Try.func83, Try.ntmps83
      go_wp2
      go_quiet (fail)
      go_wp2
      go_ret
      refine ⟨_, rfl, ?_, grown_trans (grown_any (XB0.out _)) (HS.out _).2⟩
      rw [show (m ++ [mk xf t]).length = k + 1 by simp [HK.out], ← HSL.out]
      exact (HS.out _).1
    · rw [if_neg h2]
      have s1 : ((xt : Int) + 1 == (f : Int)) = false := by rw [beq_eq_false_iff_ne]; omega
      have s2 : decide (xt + 1 = f) = false := decide_eq_false h2
      have XB : Hid (∀ q, Below w.heap.size w (((w.alloc (.cells #[.int .u32 (f : Int), .int .u32 (t : Int)] 63)).drewN q).alloc (.cells #[.int .u32 (f : Int), .int .u32 (t : Int)] 63))) := fun q => (XB0.out q).alloc (by simp [World.drewN]) _
      go_enter Try.func83, Try.ntmps83
      go_wp2
      go_quiet (fail)
      go_wp2_with (at_builtin; refine wpList_append_sees rfl (.tmp 29) (.tmp 31) 26 63 rfl Try.underlying26 span_info rfl (by decide) B _ (k + 1) (sps (m ++ [⟨xf, xt, hxf, hxtb⟩])) rfl (own_stays HV.out (XB.out _)) _ 1 _ rfl (sees_sp (a := ⟨f, t, hfb, htb⟩) (kb_new (by simp [World.drewN])) rfl rfl) (sps_oneCell _) ?a1 ?a2 ?a3 ?_)
      case a1 => omega
      case a2 => omega
      case a3 => exact Nat.le_trans hB (XB.out _).size
      rintro v5 w5 o5 g5 b5
      have O5 := Lib.hid o5
      have G5 := Lib.hid (grown_trans (grown_any (XB.out _)) g5)
      clear o5 g5 b5
      go_wp2
      go_ret
      refine ⟨_, rfl, ?_, G5.out⟩
      have := O5.out
      rw [sps_append (m ++ [_]), List.length_append, show (m ++ [(⟨xf, xt, hxf, hxtb⟩ : Sp)]).length = k + 1 by simp [HK.out]]
      exact this
end Go.Proofs.Ytinglfhndlklaaa.Spans
