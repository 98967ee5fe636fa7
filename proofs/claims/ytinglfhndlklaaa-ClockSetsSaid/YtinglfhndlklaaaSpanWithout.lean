/- octavoref07.Without: what it answers. Conditions: the slice's cells are spans that may be. -/
import Derived.Test.YtinglfhndlklaaaSpanRef
import Derived.Deep.RegionHeld3
namespace Go.Proofs.Ytinglfhndlklaaa.Spans
open Go.RowKit
attribute [local go_sem ↓] Go.wp_at_zero Go.wp_at_succ

theorem two_blk {X : World} {g : Nat} {c0 c1 : Value} {e : TypeId} {fr : Nat × Nat} (h : X.heap[g]? = some (.cells #[c0, c1] e fr)) : X.cell? ⟨g, 0, none⟩ = some c0 ∧ X.cell? ⟨g, 1, none⟩ = some c1 :=
  ⟨cell_of_row _ g 0 #[c0, c1] e _ h, cell_of_row _ g 1 #[c0, c1] e _ h⟩
theorem two_free {X : World} {g : Nat} {c0 c1 : Value} {e : TypeId} (h : X.heap[g]? = some (.cells #[c0, c1] e)) : X.frozen? ⟨g, 0, none⟩ = false ∧ X.frozen? ⟨g, 1, none⟩ = false := by
  constructor <;> simp [World.frozen?, h]
theorem sees_sp {X : World} {g : Nat} {a : Sp} {F T : Int} {e : TypeId} (h : X.heap[g]? = some (.cells #[.int .u32 F, .int .u32 T] e)) (hF : F = (a.f : Int)) (hT : T = (a.t : Int)) : Sees X (.slice (some ⟨g, 0, none⟩) 1 1) 2 1 (sps [a]) := by
  subst hF hT
  refine ⟨rfl, _, _, rfl, Nat.le_refl _, by decide, by simp, .inr ⟨g, 0, rfl, (Array.getElem?_eq_some_iff.1 h).1, fun j u hj => ?_⟩⟩
  rw [cell_of_row X g (0 + j) _ e _ h, Nat.zero_add]
  simpa [sps] using hj
theorem own_base {w : World} {b b' : Nat} {e : TypeId} {v : Value} {sz n : Nat} {cs : List Value} (h : w.ownsRow b e sz v n cs) (hb : b' ≤ b) : w.ownsRow b' e sz v n cs :=
  ⟨h.1, h.2.imp_right fun ⟨g, c, cur, h1, h2, h3⟩ => ⟨g, c, cur, h1, Nat.le_trans hb h2, h3⟩⟩

theorem kb_old {X : World} {g : Nat} {o o' : Obj} (h : X.heap[g]? = some o) : (X.alloc o').heap[g]? = some o := by
  have hlt : g < X.heap.size := (Array.getElem?_eq_some_iff.1 h).1
  exact (((Below.refl X.heap.size X).alloc (Nat.le_refl _) o').block g hlt).trans h
theorem kb_new {X : World} {g : Nat} {o : Obj} (h : X.heap.size = g) : (X.alloc o).heap[g]? = some o := by
  subst h; exact heap_alloc_new X o
theorem kb_grown {X W : World} {row : Option Nat} {g : Nat} {o : Obj} (hg : X.grownBy W row) (hne : row ≠ some g) (h : X.heap[g]? = some o) : W.heap[g]? = some o :=
  (hg.block g (Array.getElem?_eq_some_iff.1 h).1 (fun e => hne e.symm)).trans h
theorem kb_ne {X : World} {base : Nat} {e : TypeId} {v : Value} {sz n g : Nat} {cs : List Value} (h : X.ownsRow base e sz v n cs) (hg : X.heap.size ≤ g) : v.ownBlock ≠ some g := fun he => by
  have := (h.lt g he).2
  omega
/-- One span appended to a row of the call's own: what is needed of the world behind. -/
def Out (B : Nat) (w0 : World) (o : Value) (l : List Sp) (wr : World) : Prop := wr.ownsRow B 63 2 o l.length (sps l) ∧ Below B w0 wr
theorem out_next {B : Nat} {w0 X w1 : World} {v1 : Value} {l : List Sp} {a : Sp} (hb : Below B w0 X) (o1 : w1.ownsRow B 63 2 v1 (l.length + 1) (sps l ++ sps [a])) (b1 : Below B X w1) : Out B w0 v1 (l ++ [a]) w1 := by
  refine ⟨?_, hb.trans b1⟩
  rw [sps_append, List.length_append]
  exact o1

set_option maxRecDepth 100000 in
set_option maxHeartbeats 8000000 in
theorem without_any {v : Value} {l : List Sp} {x : Sp} {w : World} (hv : Sps w v l) (hf : Fine l) (hx : Ok x) (hl : l.length ≤ 5000) :
    Calls Try.prog 87 #[v, .agg #[.int .u32 (x.f : Int), .int .u32 (x.t : Int)]] w fun e w' => ∃ v', e = .returned v' ∧ w'.ownsRow w.heap.size 63 2 v' (del l x).length (sps (del l x)) ∧ Below w.heap.size w w' := by
  obtain ⟨ao, cap, rfl⟩ := hv.shape
  obtain ⟨n, hn⟩ : ∃ n, n = l.length := ⟨_, rfl⟩
  have HV := Lib.hid hv
  have HN := Lib.hid hn
  have HF := Lib.hid hf
  obtain ⟨f, t, hfb, htb⟩ := x
  have hx2 := hx
  unfold Ok at hx2
  simp only at hx2
  obtain ⟨x1, x2, x3⟩ := hx2
  have HX := Lib.hid hx
  simp only
  rw [← hn] at hl ⊢
  obtain ⟨W0, hW0⟩ : ∃ W0, W0 = w.alloc (.cells #[.int .u32 (f : Int), .int .u32 (t : Int)] 63) := ⟨_, rfl⟩
  have B0 : Hid (Below w.heap.size w W0) := by rw [hW0]; exact (Below.refl _ _).alloc (Nat.le_refl _) _
  have K0 : Hid (W0.heap[w.heap.size]? = some (.cells #[.int .u32 (f : Int), .int .u32 (t : Int)] 63)) := by rw [hW0]; exact heap_alloc_new w _
  have hsz0 : W0.heap.size = w.heap.size + 1 := by rw [hW0]; simp
  have HSZ := Lib.hid hsz0
  have O0 : Hid (Out (w.heap.size + 1) W0 (.slice none 0 0) [] W0) := ⟨World.ownsRow_nil _ _ _ _, Below.refl _ _⟩
  have HW0 := Lib.hid hW0
  clear hv hn hf hx hW0 hsz0
  go_enter Try.func87, Try.ntmps87
  go_wp2
  rw [← HW0.out]
  clear HW0
  go_loopw [5, 6] (fun o i wr => ∃ k : Nat, k ≤ n ∧ i = .int .i64 (k : Int) ∧ Hid (Out (w.heap.size + 1) W0 o (del (l.take k) ⟨f, t, hfb, htb⟩) wr)) (fun _ i _ => n - (intOf i).toNat)
  case atStart => exact ⟨0, by omega, rfl, O0⟩
  case round =>
    obtain ⟨k, hk, rfl, hout⟩ := hrel
    obtain ⟨wo, rfl⟩ : ∃ wo : World, wo = wr := ⟨_, rfl⟩
    have hown := Lib.hid hout.out.1
    have hbel := Lib.hid hout.out.2
    have hbelw : Hid (Below w.heap.size w wo) := B0.out.trans (hbel.out.mono (by omega))
    by_cases hkn : k < n
    · have q1 : decide (k < n) = true := by simpa using hkn
      obtain ⟨b, off, rfl, hb, hx0, hx1⟩ := (HV.out.keeps hbelw.out).at k (by rw [← HN.out]; exact hkn)
      have hok := fine_ok HF.out (k := k) (by rw [← HN.out]; exact hkn)
      have hs := take_snoc l k (by rw [← HN.out]; exact hkn)
      obtain ⟨y, hy⟩ : ∃ y, y = l.getD k zsp := ⟨_, rfl⟩
      rw [← hy] at hx0 hx1 hok hs
      have hds := del_snoc (l.take k) y ⟨f, t, hfb, htb⟩
      rw [← hs] at hds
      have HDS := Lib.hid hds
      have hdl := del_len1 (fine_take HF.out k) HX.out
      rw [List.length_take, Nat.min_eq_left (by rw [← HN.out]; omega)] at hdl
      obtain ⟨D, hD⟩ : ∃ D, D = del (l.take k) ⟨f, t, hfb, htb⟩ := ⟨_, rfl⟩
      rw [← hD] at hown hdl HDS
      obtain ⟨yf, yt, hyf, hyt⟩ := y
      unfold Ok at hok
      simp only at hx0 hx1 hok
      obtain ⟨o1, o2, o3⟩ := hok
      have hK : wo.heap[w.heap.size]? = some (.cells #[.int .u32 (f : Int), .int .u32 (t : Int)] 63) := (hbel.out.block w.heap.size (by omega)).trans K0.out
      obtain ⟨c0, c1⟩ := two_blk hK
      have hlt : w.heap.size < wo.heap.size := (Array.getElem?_eq_some_iff.1 hK).1
      have q2 : (0 : Int) ≤ (k : Int) := by omega
      have q3 : (k : Int) < (n : Int) := by omega
      have hsz : w.heap.size + 1 ≤ wo.heap.size := by omega
      have hlt2 : w.heap.size < wo.heap.size + 1 := by omega
      -- WALK
      clear hy hs hds hD o1 hout hlt2
      have hKW := Lib.hid hK
      have hltw : w.heap.size < wo.heap.size := hlt
      clear hK
      by_cases h1 : yt < f
      · have HR : Hid (rem ⟨yf, yt, hyf, hyt⟩ ⟨f, t, hfb, htb⟩ = [⟨yf, yt, hyf, hyt⟩]) := by show _ = _; unfold rem; rw [if_pos (.inl h1)]
        have s1i : decide ((yt : Int) < (f : Int)) = true := decide_eq_true (by omega)
        have s1n : decide (yt < f) = true := decide_eq_true (by omega)
        have XBa : Hid (Below wo.heap.size wo ((wo.alloc (.cells #[.int .u32 (yf : Int), .int .u32 (yt : Int)] 63)).alloc (.cells #[.int .u32 (yf : Int), .int .u32 (yt : Int)] 63))) := ((Below.refl _ _).alloc (Nat.le_refl _) _).alloc (by simp) _
        have OEa : Hid (((wo.alloc (.cells #[.int .u32 (yf : Int), .int .u32 (yt : Int)] 63)).alloc (.cells #[.int .u32 (yf : Int), .int .u32 (yt : Int)] 63)).ownsRow (w.heap.size + 1) 63 2 u5 D.length (sps D)) := own_stays hown.out XBa.out
        have SEa : Hid (Sees ((wo.alloc (.cells #[.int .u32 (yf : Int), .int .u32 (yt : Int)] 63)).alloc (.cells #[.int .u32 (yf : Int), .int .u32 (yt : Int)] 63)) (.slice (some ⟨wo.heap.size + 1, 0, none⟩) 1 1) 2 1 (sps [(⟨yf, yt, hyf, hyt⟩ : Sp)])) := sees_sp (kb_new (by simp)) rfl rfl
        have BEa : Hid (Below (w.heap.size + 1) W0 ((wo.alloc (.cells #[.int .u32 (yf : Int), .int .u32 (yt : Int)] 63)).alloc (.cells #[.int .u32 (yf : Int), .int .u32 (yt : Int)] 63))) := hbel.out.trans (XBa.out.mono (by omega))
        go_wp2_with (at_builtin; refine wpList_append_sees rfl (.tmp 30) (.tmp 32) 26 63 rfl Try.underlying26 span_info rfl (by decide) (w.heap.size + 1) _ D.length (sps D) rfl OEa.out _ 1 _ rfl SEa.out (sps_oneCell _) ?a1 ?a2 ?a3 ?_)
        case a1 => omega
        case a2 => omega
        case a3 => exact Nat.le_trans (by have := HSZ.out; omega) BEa.out.size
        rintro v5 w5 o5 g5 b5
        have OUT5 := Lib.hid (out_next (a := (⟨yf, yt, hyf, hyt⟩ : Sp)) BEa.out o5 b5)
        clear o5 g5 b5 XBa OEa SEa BEa
        go_wp2
        go_roundw
        case rel => exact ⟨k + 1, by omega, by go_num, Lib.hid (by rw [HDS.out, HR.out]; exact OUT5.out)⟩
        case measure => simp [intOf]; omega
      have s1i : decide ((yt : Int) < (f : Int)) = false := decide_eq_false (by omega)
      have s1n : decide (yt < f) = false := decide_eq_false (by omega)
      by_cases h2 : t < yf
      · have HR : Hid (rem ⟨yf, yt, hyf, hyt⟩ ⟨f, t, hfb, htb⟩ = [⟨yf, yt, hyf, hyt⟩]) := by show _ = _; unfold rem; rw [if_pos (.inr h2)]
        have s2i : decide ((t : Int) < (yf : Int)) = true := decide_eq_true (by omega)
        have s2n : decide (t < yf) = true := decide_eq_true (by omega)
        have XBb : Hid (Below wo.heap.size wo ((wo.alloc (.cells #[.int .u32 (yf : Int), .int .u32 (yt : Int)] 63)).alloc (.cells #[.int .u32 (yf : Int), .int .u32 (yt : Int)] 63))) := ((Below.refl _ _).alloc (Nat.le_refl _) _).alloc (by simp) _
        have OEb : Hid (((wo.alloc (.cells #[.int .u32 (yf : Int), .int .u32 (yt : Int)] 63)).alloc (.cells #[.int .u32 (yf : Int), .int .u32 (yt : Int)] 63)).ownsRow (w.heap.size + 1) 63 2 u5 D.length (sps D)) := own_stays hown.out XBb.out
        have SEb : Hid (Sees ((wo.alloc (.cells #[.int .u32 (yf : Int), .int .u32 (yt : Int)] 63)).alloc (.cells #[.int .u32 (yf : Int), .int .u32 (yt : Int)] 63)) (.slice (some ⟨wo.heap.size + 1, 0, none⟩) 1 1) 2 1 (sps [(⟨yf, yt, hyf, hyt⟩ : Sp)])) := sees_sp (kb_new (by simp)) rfl rfl
        have BEb : Hid (Below (w.heap.size + 1) W0 ((wo.alloc (.cells #[.int .u32 (yf : Int), .int .u32 (yt : Int)] 63)).alloc (.cells #[.int .u32 (yf : Int), .int .u32 (yt : Int)] 63))) := hbel.out.trans (XBb.out.mono (by omega))
        go_wp2_with (at_builtin; refine wpList_append_sees rfl (.tmp 30) (.tmp 32) 26 63 rfl Try.underlying26 span_info rfl (by decide) (w.heap.size + 1) _ D.length (sps D) rfl OEb.out _ 1 _ rfl SEb.out (sps_oneCell _) ?b1 ?b2 ?b3 ?_)
        case b1 => omega
        case b2 => omega
        case b3 => exact Nat.le_trans (by have := HSZ.out; omega) BEb.out.size
        rintro v5 w5 o5 g5 b5
        have OUT5 := Lib.hid (out_next (a := (⟨yf, yt, hyf, hyt⟩ : Sp)) BEb.out o5 b5)
        clear o5 g5 b5 XBb OEb SEb BEb
        go_wp2
        go_roundw
        case rel => exact ⟨k + 1, by omega, by go_num, Lib.hid (by rw [HDS.out, HR.out]; exact OUT5.out)⟩
        case measure => simp [intOf]; omega
      have s2i : decide ((t : Int) < (yf : Int)) = false := decide_eq_false (by omega)
      have s2n : decide (t < yf) = false := decide_eq_false (by omega)
      have hno : ¬ (yt < f ∨ t < yf) := by omega
      have eF : IntKind.u32.wrap ((f : Int) - 1) = (f : Int) - 1 := by rw [IntKind.wrap_u32]; omega
      have eT : IntKind.u32.wrap ((t : Int) + 1) = (t : Int) + 1 := by rw [IntKind.wrap_u32]; omega
      by_cases h3 : yf < f
      · by_cases h4 : t < yt
        · skip
          have s3i : decide ((yf : Int) < (f : Int)) = true := decide_eq_true (by omega)
          have s3n : decide (yf < f) = true := decide_eq_true (by omega)
          have s4i : decide ((t : Int) < (yt : Int)) = true := decide_eq_true (by omega)
          have s4n : decide (t < yt) = true := decide_eq_true (by omega)
          have HR : Hid (rem ⟨yf, yt, hyf, hyt⟩ ⟨f, t, hfb, htb⟩ = [(mk yf (f - 1)), (mk (t + 1) yt)]) := by
            show _ = _
            unfold rem
            rw [if_neg hno, if_pos h3, if_pos h4]
            rfl
          have XBc : Hid (Below wo.heap.size wo ((wo.alloc (.cells #[.int .u32 (yf : Int), .int .u32 (yt : Int)] 63)).alloc (.cells #[.int .u32 (yf : Int), .int .u32 ((f : Int) - 1)] 63))) := ((Below.refl _ _).alloc (Nat.le_refl _) _).alloc (by simp) _
          have OEc : Hid (((wo.alloc (.cells #[.int .u32 (yf : Int), .int .u32 (yt : Int)] 63)).alloc (.cells #[.int .u32 (yf : Int), .int .u32 ((f : Int) - 1)] 63)).ownsRow (w.heap.size + 1) 63 2 u5 D.length (sps D)) := own_stays hown.out XBc.out
          have SEc : Hid (Sees ((wo.alloc (.cells #[.int .u32 (yf : Int), .int .u32 (yt : Int)] 63)).alloc (.cells #[.int .u32 (yf : Int), .int .u32 ((f : Int) - 1)] 63)) (.slice (some ⟨wo.heap.size + 1, 0, none⟩) 1 1) 2 1 (sps [(mk yf (f - 1))])) := sees_sp (kb_new (by simp)) (by rw [mk_f (by omega)]) (by rw [mk_t (by omega)]; omega)
          have BEc : Hid (Below (w.heap.size + 1) W0 ((wo.alloc (.cells #[.int .u32 (yf : Int), .int .u32 (yt : Int)] 63)).alloc (.cells #[.int .u32 (yf : Int), .int .u32 ((f : Int) - 1)] 63))) := hbel.out.trans (XBc.out.mono (by omega))
          go_wp2_with (at_builtin; refine wpList_append_sees rfl (.tmp 39) (.tmp 46) 26 63 rfl Try.underlying26 span_info rfl (by decide) (w.heap.size + 1) _ D.length (sps D) rfl OEc.out _ 1 _ rfl SEc.out (sps_oneCell _) ?c1 ?c2 ?c3 ?_)
          case c1 => omega
          case c2 => omega
          case c3 => exact Nat.le_trans (by have := HSZ.out; omega) BEc.out.size
          rintro v5 w5 o5 g5 b5
          have OUT5 := Lib.hid (out_next (a := (mk yf (f - 1))) BEc.out o5 b5)
          have hne : u5.ownBlock ≠ some wo.heap.size := kb_ne hown.out (Nat.le_refl _)
          have y5 := kb_grown g5 hne (kb_old (kb_new (X := wo) (o := (.cells #[.int .u32 (yf : Int), .int .u32 (yt : Int)] 63)) rfl))
          have x5 : w5.heap[w.heap.size]? = some (.cells #[.int .u32 (f : Int), .int .u32 (t : Int)] 63) := (OUT5.out.2.block w.heap.size (by omega)).trans K0.out
          obtain ⟨y50, y51⟩ := two_blk y5
          obtain ⟨x50, x51⟩ := two_blk x5
          have own5 := Lib.hid OUT5.out.1
          have bel5 := Lib.hid OUT5.out.2
          have hsz5 : w.heap.size + 1 ≤ w5.heap.size := by have := (Array.getElem?_eq_some_iff.1 x5).1; omega
          have hdl5 : (D ++ [(mk yf (f - 1))]).length ≤ D.length + 1 := by simp
          obtain ⟨D5, hD5⟩ : ∃ D5, D5 = D ++ [(mk yf (f - 1))] := ⟨_, rfl⟩
          rw [← hD5] at own5 hdl5
          have HD5 := Lib.hid hD5
          clear o5 g5 b5 XBc OEc SEc BEc hne y5 x5 hD5
          have XBcs : Hid (Below w5.heap.size w5 (w5.alloc (.cells #[.int .u32 ((t : Int) + 1), .int .u32 (yt : Int)] 63))) := (Below.refl _ _).alloc (Nat.le_refl _) _
          have OEcs : Hid ((w5.alloc (.cells #[.int .u32 ((t : Int) + 1), .int .u32 (yt : Int)] 63)).ownsRow (w.heap.size + 1) 63 2 v5 D5.length (sps D5)) := own_stays own5.out XBcs.out
          have SEcs : Hid (Sees (w5.alloc (.cells #[.int .u32 ((t : Int) + 1), .int .u32 (yt : Int)] 63)) (.slice (some ⟨w5.heap.size, 0, none⟩) 1 1) 2 1 (sps [(mk (t + 1) yt)])) := sees_sp (kb_new (by simp)) (by rw [mk_f (by omega)]; omega) (by rw [mk_t (by omega)])
          have BEcs : Hid (Below (w.heap.size + 1) W0 (w5.alloc (.cells #[.int .u32 ((t : Int) + 1), .int .u32 (yt : Int)] 63))) := bel5.out.trans (XBcs.out.mono (by omega))
          go_wp2_with (at_builtin; refine wpList_append_sees rfl (.tmp 53) (.tmp 60) 26 63 rfl Try.underlying26 span_info rfl (by decide) (w.heap.size + 1) _ D5.length (sps D5) rfl OEcs.out _ 1 _ rfl SEcs.out (sps_oneCell _) ?cs1 ?cs2 ?cs3 ?_)
          case cs1 => omega
          case cs2 => omega
          case cs3 => exact Nat.le_trans (by have := HSZ.out; omega) BEcs.out.size
          rintro v6 w6 o6 g6 b6
          have OUT6 := Lib.hid (out_next (a := (mk (t + 1) yt)) BEcs.out o6 b6)
          clear o6 g6 b6 XBcs OEcs SEcs BEcs
          go_wp2
          go_roundw
          case rel => exact ⟨k + 1, by omega, by go_num, Lib.hid (by rw [HDS.out, HR.out, show ([(mk yf (f - 1)), (mk (t + 1) yt)] : List Sp) = [(mk yf (f - 1))] ++ [(mk (t + 1) yt)] from rfl, ← List.append_assoc, ← HD5.out]; exact OUT6.out)⟩
          case measure => simp [intOf]; omega
        · skip
          have s3i : decide ((yf : Int) < (f : Int)) = true := decide_eq_true (by omega)
          have s3n : decide (yf < f) = true := decide_eq_true (by omega)
          have s4i : decide ((t : Int) < (yt : Int)) = false := decide_eq_false (by omega)
          have s4n : decide (t < yt) = false := decide_eq_false (by omega)
          have HR : Hid (rem ⟨yf, yt, hyf, hyt⟩ ⟨f, t, hfb, htb⟩ = [(mk yf (f - 1))]) := by
            show _ = _
            unfold rem
            rw [if_neg hno, if_pos h3, if_neg h4]
            rfl
          have XBd : Hid (Below wo.heap.size wo ((wo.alloc (.cells #[.int .u32 (yf : Int), .int .u32 (yt : Int)] 63)).alloc (.cells #[.int .u32 (yf : Int), .int .u32 ((f : Int) - 1)] 63))) := ((Below.refl _ _).alloc (Nat.le_refl _) _).alloc (by simp) _
          have OEd : Hid (((wo.alloc (.cells #[.int .u32 (yf : Int), .int .u32 (yt : Int)] 63)).alloc (.cells #[.int .u32 (yf : Int), .int .u32 ((f : Int) - 1)] 63)).ownsRow (w.heap.size + 1) 63 2 u5 D.length (sps D)) := own_stays hown.out XBd.out
          have SEd : Hid (Sees ((wo.alloc (.cells #[.int .u32 (yf : Int), .int .u32 (yt : Int)] 63)).alloc (.cells #[.int .u32 (yf : Int), .int .u32 ((f : Int) - 1)] 63)) (.slice (some ⟨wo.heap.size + 1, 0, none⟩) 1 1) 2 1 (sps [(mk yf (f - 1))])) := sees_sp (kb_new (by simp)) (by rw [mk_f (by omega)]) (by rw [mk_t (by omega)]; omega)
          have BEd : Hid (Below (w.heap.size + 1) W0 ((wo.alloc (.cells #[.int .u32 (yf : Int), .int .u32 (yt : Int)] 63)).alloc (.cells #[.int .u32 (yf : Int), .int .u32 ((f : Int) - 1)] 63))) := hbel.out.trans (XBd.out.mono (by omega))
          go_wp2_with (at_builtin; refine wpList_append_sees rfl (.tmp 39) (.tmp 46) 26 63 rfl Try.underlying26 span_info rfl (by decide) (w.heap.size + 1) _ D.length (sps D) rfl OEd.out _ 1 _ rfl SEd.out (sps_oneCell _) ?d1 ?d2 ?d3 ?_)
          case d1 => omega
          case d2 => omega
          case d3 => exact Nat.le_trans (by have := HSZ.out; omega) BEd.out.size
          rintro v5 w5 o5 g5 b5
          have OUT5 := Lib.hid (out_next (a := (mk yf (f - 1))) BEd.out o5 b5)
          have hne : u5.ownBlock ≠ some wo.heap.size := kb_ne hown.out (Nat.le_refl _)
          have y5 := kb_grown g5 hne (kb_old (kb_new (X := wo) (o := (.cells #[.int .u32 (yf : Int), .int .u32 (yt : Int)] 63)) rfl))
          have x5 : w5.heap[w.heap.size]? = some (.cells #[.int .u32 (f : Int), .int .u32 (t : Int)] 63) := (OUT5.out.2.block w.heap.size (by omega)).trans K0.out
          obtain ⟨y50, y51⟩ := two_blk y5
          obtain ⟨x50, x51⟩ := two_blk x5
          clear hne y5 x5
          clear o5 g5 b5 XBd OEd SEd BEd
          go_wp2
          go_roundw
          case rel => exact ⟨k + 1, by omega, by go_num, Lib.hid (by rw [HDS.out, HR.out]; exact OUT5.out)⟩
          case measure => simp [intOf]; omega
      · by_cases h4 : t < yt
        · skip
          have s3i : decide ((yf : Int) < (f : Int)) = false := decide_eq_false (by omega)
          have s3n : decide (yf < f) = false := decide_eq_false (by omega)
          have s4i : decide ((t : Int) < (yt : Int)) = true := decide_eq_true (by omega)
          have s4n : decide (t < yt) = true := decide_eq_true (by omega)
          have HR : Hid (rem ⟨yf, yt, hyf, hyt⟩ ⟨f, t, hfb, htb⟩ = [(mk (t + 1) yt)]) := by
            show _ = _
            unfold rem
            rw [if_neg hno, if_neg h3, if_pos h4]
            rfl
          have XBe : Hid (Below wo.heap.size wo ((wo.alloc (.cells #[.int .u32 (yf : Int), .int .u32 (yt : Int)] 63)).alloc (.cells #[.int .u32 ((t : Int) + 1), .int .u32 (yt : Int)] 63))) := ((Below.refl _ _).alloc (Nat.le_refl _) _).alloc (by simp) _
          have OEe : Hid (((wo.alloc (.cells #[.int .u32 (yf : Int), .int .u32 (yt : Int)] 63)).alloc (.cells #[.int .u32 ((t : Int) + 1), .int .u32 (yt : Int)] 63)).ownsRow (w.heap.size + 1) 63 2 u5 D.length (sps D)) := own_stays hown.out XBe.out
          have SEe : Hid (Sees ((wo.alloc (.cells #[.int .u32 (yf : Int), .int .u32 (yt : Int)] 63)).alloc (.cells #[.int .u32 ((t : Int) + 1), .int .u32 (yt : Int)] 63)) (.slice (some ⟨wo.heap.size + 1, 0, none⟩) 1 1) 2 1 (sps [(mk (t + 1) yt)])) := sees_sp (kb_new (by simp)) (by rw [mk_f (by omega)]; omega) (by rw [mk_t (by omega)])
          have BEe : Hid (Below (w.heap.size + 1) W0 ((wo.alloc (.cells #[.int .u32 (yf : Int), .int .u32 (yt : Int)] 63)).alloc (.cells #[.int .u32 ((t : Int) + 1), .int .u32 (yt : Int)] 63))) := hbel.out.trans (XBe.out.mono (by omega))
          go_wp2_with (at_builtin; refine wpList_append_sees rfl (.tmp 53) (.tmp 60) 26 63 rfl Try.underlying26 span_info rfl (by decide) (w.heap.size + 1) _ D.length (sps D) rfl OEe.out _ 1 _ rfl SEe.out (sps_oneCell _) ?e1 ?e2 ?e3 ?_)
          case e1 => omega
          case e2 => omega
          case e3 => exact Nat.le_trans (by have := HSZ.out; omega) BEe.out.size
          rintro v5 w5 o5 g5 b5
          have OUT5 := Lib.hid (out_next (a := (mk (t + 1) yt)) BEe.out o5 b5)
          clear o5 g5 b5 XBe OEe SEe BEe
          go_wp2
          go_roundw
          case rel => exact ⟨k + 1, by omega, by go_num, Lib.hid (by rw [HDS.out, HR.out]; exact OUT5.out)⟩
          case measure => simp [intOf]; omega
        · skip
          have s3i : decide ((yf : Int) < (f : Int)) = false := decide_eq_false (by omega)
          have s3n : decide (yf < f) = false := decide_eq_false (by omega)
          have s4i : decide ((t : Int) < (yt : Int)) = false := decide_eq_false (by omega)
          have s4n : decide (t < yt) = false := decide_eq_false (by omega)
          have HR : Hid (rem ⟨yf, yt, hyf, hyt⟩ ⟨f, t, hfb, htb⟩ = []) := by
            show _ = _
            unfold rem
            rw [if_neg hno, if_neg h3, if_neg h4]
            rfl
          have BX : Hid (Below (w.heap.size + 1) W0 (wo.alloc (.cells #[.int .u32 (yf : Int), .int .u32 (yt : Int)] 63))) := hbel.out.alloc hsz _
          have OX : Hid ((wo.alloc (.cells #[.int .u32 (yf : Int), .int .u32 (yt : Int)] 63)).ownsRow (w.heap.size + 1) 63 2 u5 D.length (sps D)) := own_stays hown.out ((Below.refl _ _).alloc (Nat.le_refl _) _)
          go_wp2
          go_roundw
          case rel => exact ⟨k + 1, by omega, by go_num, Lib.hid (by rw [HDS.out, HR.out, List.append_nil]; exact ⟨OX.out, BX.out⟩)⟩
          case measure => simp [intOf]; omega
    · have q1 : decide (k < n) = false := by simpa using hkn
      have hkk : l.take k = l := List.take_of_length_le (by have := HN.out; omega)
      rw [hkk] at hown
      clear hkk hout
      go_wp2
      go_ret
      exact ⟨_, rfl, own_base hown.out (Nat.le_succ _), hbelw.out⟩
end Go.Proofs.Ytinglfhndlklaaa.Spans
