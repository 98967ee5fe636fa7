/- octavoref07.With: what it answers. Conditions: the slice's cells are spans that may be. -/
import Derived.RegionTactic
import Derived.Test.YtdackenaknieaaaGreatPt10

namespace Go.Proofs.YtdackenaknieaaaGreat.Spans
open Go.RowKit
attribute [local go_sem ↓] Go.wp_at_zero Go.wp_at_succ

/-- A row of the call's own above a box of two cells; nothing that was there has turned. -/
def Keep (H : Nat) (w : World) (f t : Nat) (o : Value) (l : List Sp) (wr : World) : Prop :=
  wr.ownsRow (H + 1) 102 2 o l.length (sps l) ∧ Below H w wr ∧ wr.heap[H]? = some (.cells #[.int .u32 (f : Int), .int .u32 (t : Int)] 102)
theorem Keep.lt {H f t : Nat} {w wr : World} {o : Value} {l : List Sp} (h : Keep H w f t o l wr) : H < wr.heap.size := (Array.getElem?_eq_some_iff.1 h.2.2).1
theorem Keep.draw {H f t : Nat} {w wr : World} {o : Value} {l : List Sp} (h : Keep H w f t o l wr) (q : Nat) : Keep H w f t o l (wr.drewN q) := ⟨h.1, below_draw h.2.1 q, h.2.2⟩
theorem Keep.next {H f t : Nat} {w wo X w1 : World} {v v1 : Value} {l : List Sp} {a : Sp} (hk : Keep H w f t v l wo) (hX : Below wo.heap.size wo X)
    (o1 : w1.ownsRow (H + 1) 102 2 v1 (l.length + 1) (sps l ++ sps [a])) (b1 : Below (H + 1) X w1) : Keep H w f t v1 (l ++ [a]) w1 := by
  have hlt := hk.lt
  refine ⟨?_, (hk.2.1.trans (hX.mono (by omega))).trans (b1.mono (Nat.le_succ _)), ?_⟩
  · rw [sps_append, List.length_append]; exact o1
  · exact (b1.block H (Nat.lt_succ_self _)).trans ((hX.block H hlt).trans hk.2.2)
theorem Keep.stay {H f t : Nat} {w wo X : World} {v : Value} {l : List Sp} (hk : Keep H w f t v l wo) (hX : Below wo.heap.size wo X) : Keep H w f t v l X := by
  have hlt := hk.lt
  exact ⟨own_stays hk.1 hX, hk.2.1.trans (hX.mono (by omega)), (hX.block H hlt).trans hk.2.2⟩
theorem own_set {w : World} {B H o n sz : Nat} {e : TypeId} {v d : Value} {cs : List Value} (h : w.ownsRow B e sz v n cs) (hH : H < B) : (w.setCell ⟨H, o, none⟩ d).ownsRow B e sz v n cs := by
  refine ⟨h.1, ?_⟩
  rcases h.2 with h0 | ⟨g, cap, cur, rfl, h1, hg, h2⟩
  · exact .inl h0
  · refine .inr ⟨g, cap, cur, rfl, h1, ?_, h2⟩
    rw [heap_setCell_other _ _ _ _ (show g ≠ H by omega)]
    exact hg
theorem Keep.drew {H f t : Nat} {w wr : World} {o : Value} {l : List Sp} (h : Keep H w f t o l wr) : Keep H w f t o l wr.drew := ⟨h.1, h.2.1.drew, h.2.2⟩
/-- The box stored anew. -/
theorem Keep.put {H f t : Nat} {w wr : World} {o : Value} {l : List Sp} (h : Keep H w f t o l wr) (f' t' : Nat) : Keep H w f' t' o l ((wr.setCell ⟨H, 0, none⟩ (.int .u32 (f' : Int))).setCell ⟨H, 1, none⟩ (.int .u32 (t' : Int))) := by
  refine ⟨own_set (own_set h.1 (Nat.lt_succ_self _)) (Nat.lt_succ_self _), (h.2.1.setCell (p := ⟨H, 0, none⟩) (Nat.le_refl _) _).setCell (p := ⟨H, 1, none⟩) (Nat.le_refl _) _, ?_⟩
  have h0 := heap_setCell_same wr H 0 _ _ (.int .u32 (f' : Int)) h.2.2
  have h1 := heap_setCell_same _ H 1 _ _ (.int .u32 (t' : Int)) h0
  exact h1

set_option maxRecDepth 100000 in
set_option maxHeartbeats 8000000 in
theorem with_any {v : Value} {l : List Sp} {x : Sp} {w : World} (hv : Sps w v l) (hf : Fine l) (hx : Ok x) (hl : l.length ≤ 5000) :
    Calls Tryz.prog 155 #[v, .agg #[.int .u32 (x.f : Int), .int .u32 (x.t : Int)]] w fun e w' => ∃ v', e = .returned v' ∧ w'.ownsRow w.heap.size 102 2 v' (ins l x).length (sps (ins l x)) ∧ Below w.heap.size w w' := by
  rw [← three_ins hf hx]
  obtain ⟨ao, cap, rfl⟩ := hv.shape
  obtain ⟨n, hn⟩ : ∃ n, n = l.length := ⟨_, rfl⟩
  have HV := Lib.hid hv
  have HN := Lib.hid hn
  have HF := Lib.hid hf
  obtain ⟨L1, hL1⟩ : ∃ L1, L1 = fun k => (l.take k).filter (fun y => decide (y.t + 1 < x.f)) := ⟨_, rfl⟩
  obtain ⟨M, hM⟩ : ∃ M, M = gat l x := ⟨_, rfl⟩
  obtain ⟨L3, hL3⟩ : ∃ L3, L3 = fun k => (l.take k).filter (fun y => decide (M.t + 1 < y.f)) := ⟨_, rfl⟩
  have l1s : ∀ k, k < l.length → L1 (k + 1) = L1 k ++ if (l.getD k zsp).t + 1 < x.f then [l.getD k zsp] else [] := by
    intro k hk
    rw [hL1]
    simp only
    rw [take_snoc l k hk, List.filter_append]
    congr 1
    by_cases h : (l.getD k zsp).t + 1 < x.f
    · rw [if_pos h, filter_all (by simpa using h)]
    · rw [if_neg h, filter_none (by simpa using h)]
  have l3s : ∀ k, k < l.length → L3 (k + 1) = L3 k ++ if M.t + 1 < (l.getD k zsp).f then [l.getD k zsp] else [] := by
    intro k hk
    rw [hL3]
    simp only
    rw [take_snoc l k hk, List.filter_append]
    congr 1
    by_cases h : M.t + 1 < (l.getD k zsp).f
    · rw [if_pos h, filter_all (by simpa using h)]
    · rw [if_neg h, filter_none (by simpa using h)]
  have l1n : ∀ k, (L1 k).length ≤ k := by intro k; rw [hL1]; exact Nat.le_trans (List.length_filter_le _ _) (List.length_take_le _ _)
  have l3n : ∀ k, (L3 k).length ≤ k := by intro k; rw [hL3]; exact Nat.le_trans (List.length_filter_le _ _) (List.length_take_le _ _)
  have hthree : three l x = L1 n ++ M :: L3 n := by
    unfold three
    rw [hL1, hL3, hn, hM]
    simp only [List.take_length]
  have HL1 := Lib.hid (And.intro l1s l1n)
  have HL3 := Lib.hid (And.intro l3s l3n)
  have HT := Lib.hid hthree
  have hMok : Ok M := by rw [hM]; exact gat_ok hf.all hx
  have HMok := Lib.hid hMok
  have HM := Lib.hid hM
  have l10 : L1 0 = [] := by rw [hL1]; rfl
  have l30 : L3 0 = [] := by rw [hL3]; rfl
  have HL0 := Lib.hid (And.intro l10 l30)
  clear hL1 hL3 l1s l3s l1n l3n hthree hMok hM l10 l30
  rw [HT.out]
  obtain ⟨f, t, hfb, htb⟩ := x
  have hx2 := hx
  unfold Ok at hx2
  simp only at hx2
  obtain ⟨x1, x2, x3⟩ := hx2
  have HX := Lib.hid hx
  simp only
  rw [← hn] at hl ⊢
  have K0 : Hid (Keep w.heap.size w f t (.slice none 0 0) (L1 0) (w.alloc (.cells #[.int .u32 (f : Int), .int .u32 (t : Int)] 102))) := by
    rw [HL0.out.1]
    exact ⟨World.ownsRow_nil _ _ _ _, (Below.refl _ _).alloc (Nat.le_refl _) _, heap_alloc_new w _⟩
  clear hv hn hf hx
  go_enter Tryz.func155, Tryz.ntmps155
  go_wp2
  go_loopw [5, 6] (fun o i wr => ∃ k : Nat, k ≤ n ∧ i = .int .i64 (k : Int) ∧ Hid (Keep w.heap.size w f t o (L1 k) wr)) (fun _ i _ => n - (intOf i).toNat)
  case atStart => exact ⟨0, by omega, rfl, K0⟩
  case round =>
    obtain ⟨k, hk, rfl, hkp⟩ := hrel
    obtain ⟨wo, rfl⟩ : ∃ wo : World, wo = wr := ⟨_, rfl⟩
    obtain ⟨c0, c1⟩ := two_blk hkp.out.2.2
    have hlt := hkp.out.lt
    by_cases hkn : k < n
    · have q1 : decide (k < n) = true := by simpa using hkn
      obtain ⟨b, off, rfl, hb, hx0, hx1⟩ := (HV.out.keeps hkp.out.2.1).at k (by rw [← HN.out]; exact hkn)
      have hok := fine_ok HF.out (k := k) (by rw [← HN.out]; exact hkn)
      have hls := HL1.out.1 k (by rw [← HN.out]; exact hkn)
      have hln := HL1.out.2 k
      obtain ⟨y, hy⟩ : ∃ y, y = l.getD k zsp := ⟨_, rfl⟩
      rw [← hy] at hx0 hx1 hok hls
      obtain ⟨D, hD⟩ : ∃ D, D = L1 k := ⟨_, rfl⟩
      rw [← hD] at hkp hls hln
      obtain ⟨yf, yt, hyf, hyt⟩ := y
      unfold Ok at hok
      simp only at hx0 hx1 hok hls
      obtain ⟨o1, o2, o3⟩ := hok
      have HLS := Lib.hid hls
      have eT : IntKind.u32.wrap ((yt : Int) + 1) = (yt : Int) + 1 := by rw [IntKind.wrap_u32]; omega
      have q2 : (0 : Int) ≤ (k : Int) := by omega
      have q3 : (k : Int) < (n : Int) := by omega
      clear hy hls hD o1
      by_cases h1 : yt + 1 < f
      · have s1 : decide ((yt : Int) + 1 < (f : Int)) = true := decide_eq_true (by omega)
        have HR : Hid (L1 (k + 1) = D ++ [⟨yf, yt, hyf, hyt⟩]) := by have := HLS.out; rwa [if_pos h1] at this
        go_wp2
        go_quiet (fail)
        go_wp2_with (at_builtin; refine wpList_append_sees rfl (.tmp 24) (.tmp 29) 70 102 rfl Tryz.underlying70 span_info rfl (by decide) (w.heap.size + 1) _ D.length (sps D) rfl (own_stays hkp.out.1 ((below_draw (Below.refl _ _) _).alloc (Nat.le_refl _) _)) _ 1 _ rfl (sees_sp (a := ⟨yf, yt, hyf, hyt⟩) (kb_new rfl) rfl rfl) (sps_oneCell _) ?a1 ?a2 ?a3 ?_)
        case a1 => omega
        case a2 => omega
        case a3 => simp; omega
        rintro v5 w5 o5 g5 b5
        have K5 := Lib.hid (hkp.out.next ((below_draw (Below.refl _ _) _).alloc (Nat.le_refl _) _) o5 b5)
        clear o5 g5 b5
        go_wp2
        go_roundw
        case rel => exact ⟨k + 1, by omega, by go_num, Lib.hid (by rw [HR.out]; exact K5.out)⟩
        case measure => simp [intOf]; omega
      · have s1 : decide ((yt : Int) + 1 < (f : Int)) = false := decide_eq_false (by omega)
        have HR : Hid (L1 (k + 1) = D) := by have := HLS.out; rwa [if_neg h1, List.append_nil] at this
        go_wp2
        go_quiet (fail)
        go_wp2
        go_roundw
        case rel => exact ⟨k + 1, by omega, by go_num, Lib.hid (by rw [HR.out]; exact hkp.out.draw _)⟩
        case measure => simp [intOf]; omega
    · have q1 : decide (k < n) = false := by simpa using hkn
      obtain rfl : k = n := by omega
      have HB := Lib.hid hkp.out
      obtain ⟨v1, hv1⟩ : ∃ v1, v1 = u5 := ⟨_, rfl⟩
      clear c0 c1 hlt hkn
      go_wp2
      rw [← hv1] at hkp ⊢
      clear hv1
      go_loopw [7] (fun i wr => ∃ (j : Nat) (g : Sp), j ≤ k ∧ i = .int .i64 (j : Int) ∧ Hid (g = gat (l.take j) ⟨f, t, hfb, htb⟩) ∧ Hid (Keep w.heap.size w g.f g.t v1 (L1 k) wr)) (fun i _ => k - (intOf i).toNat)
      case atStart => exact ⟨0, ⟨f, t, hfb, htb⟩, by omega, rfl, Lib.hid rfl, hkp⟩
      case round =>
        obtain ⟨j, g, hj, rfl, hg, hkp2⟩ := hrel
        obtain ⟨w2, rfl⟩ : ∃ w2 : World, w2 = wr := ⟨_, rfl⟩
        obtain ⟨c0, c1⟩ := two_blk hkp2.out.2.2
        obtain ⟨c2, c3⟩ := two_free hkp2.out.2.2
        have hlt := hkp2.out.lt
        by_cases hjk : j < k
        · have p1 : decide (j < k) = true := by simpa using hjk
          obtain ⟨b, off, rfl, hb, hx0, hx1⟩ := (HV.out.keeps hkp2.out.2.1).at j (by rw [← HN.out]; exact hjk)
          have hok := fine_ok HF.out (k := j) (by rw [← HN.out]; exact hjk)
          have hgok : Ok g := by rw [hg.out]; exact gat_ok (fun y hy => HF.out.all y (List.mem_of_mem_take hy)) HX.out
          have hgs := gat_snoc (l.take j) ⟨f, t, hfb, htb⟩ (l.getD j zsp)
          rw [← take_snoc l j (by rw [← HN.out]; exact hjk), ← hg.out] at hgs
          obtain ⟨y, hy⟩ : ∃ y, y = l.getD j zsp := ⟨_, rfl⟩
          rw [← hy] at hx0 hx1 hok hgs
          have HGS := Lib.hid hgs
          obtain ⟨yf, yt, hyf, hyt⟩ := y
          obtain ⟨gf, gt, hgf, hgt⟩ := g
          unfold Ok at hok hgok
          simp only at hx0 hx1 hok hgok HGS c0 c1 hkp2
          obtain ⟨o1, o2, o3⟩ := hok
          obtain ⟨o4, o5, o6⟩ := hgok
          have eT : IntKind.u32.wrap ((yt : Int) + 1) = (yt : Int) + 1 := by rw [IntKind.wrap_u32]; omega
          have eG : IntKind.u32.wrap ((gt : Int) + 1) = (gt : Int) + 1 := by rw [IntKind.wrap_u32]; omega
          have q2 : (0 : Int) ≤ (j : Int) := by omega
          have q3 : (j : Int) < (k : Int) := by omega
          have hneb : ¬ b = w.heap.size := by have := (HV.out.at j (by rw [← HN.out]; exact hjk)); obtain ⟨b', _, he, hb', _⟩ := this; cases he; omega
          have hneb' : ¬ w.heap.size = b := fun e => hneb e.symm
          clear hy hgs hg
          by_cases h1 : gf ≤ yt + 1
          · have s1 : decide ((gf : Int) ≤ (yt : Int) + 1) = true := decide_eq_true (by omega)
            by_cases h2 : yf ≤ gt + 1
            · have s2 : decide ((yf : Int) ≤ (gt : Int) + 1) = true := decide_eq_true (by omega)
              have HG2 : Hid (mrg ⟨yf, yt, hyf, hyt⟩ ⟨gf, gt, hgf, hgt⟩ = gat (l.take (j + 1)) ⟨f, t, hfb, htb⟩) := by have := HGS.out; rw [if_pos ⟨h1, h2⟩] at this; exact this.symm
              obtain ⟨mf, hmf⟩ : ∃ mf, mf = min gf yf := ⟨_, rfl⟩
              obtain ⟨mt, hmt⟩ : ∃ mt, mt = max gt yt := ⟨_, rfl⟩
              have hmr : (mrg ⟨yf, yt, hyf, hyt⟩ ⟨gf, gt, hgf, hgt⟩).f = mf ∧ (mrg ⟨yf, yt, hyf, hyt⟩ ⟨gf, gt, hgf, hgt⟩).t = mt := ⟨hmf.symm, hmt.symm⟩
              have HMR := Lib.hid hmr
              clear hmr
              by_cases h3 : yf < gf
              · have s3 : decide (yf < gf) = true := decide_eq_true h3
                have s3' : ¬ gf ≤ yf := by omega
                obtain rfl : mf = yf := by omega
                by_cases h4 : gt < yt
                · have s4 : decide (gt < yt) = true := decide_eq_true h4
                  have s4' : ¬ yt ≤ gt := by omega
                  obtain rfl : mt = yt := by omega
                  clear hmf hmt
                  go_wp2
                  go_quiet (fail)
                  go_wp2
                  go_region
                  all_goals
                    go_wp2
                    go_region
                  all_goals
                    go_wp2
                    go_roundw
                    case rel => exact ⟨j + 1, _, by omega, by go_num, Lib.hid HG2.out, Lib.hid (by rw [HMR.out.1, HMR.out.2]; exact ((hkp2.out.draw _).put _ _).drew)⟩
                    case measure => simp [intOf]; omega
                · have s4 : decide (gt < yt) = false := decide_eq_false h4
                  have s4' : yt ≤ gt := by omega
                  obtain rfl : mt = gt := by omega
                  clear hmf hmt
                  go_wp2
                  go_quiet (fail)
                  go_wp2
                  go_region
                  all_goals
                    go_wp2
                    go_region
                  all_goals
                    go_wp2
                    go_roundw
                    case rel => exact ⟨j + 1, _, by omega, by go_num, Lib.hid HG2.out, Lib.hid (by rw [HMR.out.1, HMR.out.2]; exact ((hkp2.out.draw _).put _ _).drew)⟩
                    case measure => simp [intOf]; omega
              · have s3 : decide (yf < gf) = false := decide_eq_false h3
                have s3' : gf ≤ yf := by omega
                obtain rfl : mf = gf := by omega
                by_cases h4 : gt < yt
                · have s4 : decide (gt < yt) = true := decide_eq_true h4
                  have s4' : ¬ yt ≤ gt := by omega
                  obtain rfl : mt = yt := by omega
                  clear hmf hmt
                  go_wp2
                  go_quiet (fail)
                  go_wp2
                  go_region
                  all_goals
                    go_wp2
                    go_region
                  all_goals
                    go_wp2
                    go_roundw
                    case rel => exact ⟨j + 1, _, by omega, by go_num, Lib.hid HG2.out, Lib.hid (by rw [HMR.out.1, HMR.out.2]; exact ((hkp2.out.draw _).put _ _).drew)⟩
                    case measure => simp [intOf]; omega
                · have s4 : decide (gt < yt) = false := decide_eq_false h4
                  have s4' : yt ≤ gt := by omega
                  obtain rfl : mt = gt := by omega
                  clear hmf hmt
                  go_wp2
                  go_quiet (fail)
                  go_wp2
                  go_region
                  all_goals
                    go_wp2
                    go_region
                  all_goals
                    go_wp2
                    go_roundw
                    case rel => exact ⟨j + 1, _, by omega, by go_num, Lib.hid HG2.out, Lib.hid (by rw [HMR.out.1, HMR.out.2]; exact ((hkp2.out.draw _).put _ _).drew)⟩
                    case measure => simp [intOf]; omega
            · have s2 : decide ((yf : Int) ≤ (gt : Int) + 1) = false := decide_eq_false (by omega)
              have HG2 : Hid (⟨gf, gt, hgf, hgt⟩ = gat (l.take (j + 1)) ⟨f, t, hfb, htb⟩) := by have := HGS.out; rw [if_neg (by omega)] at this; exact this.symm
              go_wp2
              go_quiet (fail)
              go_wp2
              go_roundw
              case rel => exact ⟨j + 1, _, by omega, by go_num, Lib.hid HG2.out, Lib.hid (hkp2.out.draw _)⟩
              case measure => simp [intOf]; omega
          · have s1 : decide ((gf : Int) ≤ (yt : Int) + 1) = false := decide_eq_false (by omega)
            have HG2 : Hid (⟨gf, gt, hgf, hgt⟩ = gat (l.take (j + 1)) ⟨f, t, hfb, htb⟩) := by have := HGS.out; rw [if_neg (by omega)] at this; exact this.symm
            go_wp2
            go_quiet (fail)
            go_wp2
            go_roundw
            case rel => exact ⟨j + 1, _, by omega, by go_num, Lib.hid HG2.out, Lib.hid (hkp2.out.draw _)⟩
            case measure => simp [intOf]; omega
        · have p1 : decide (j < k) = false := by simpa using hjk
          have hgM : g = M := by
            rw [hg.out, HM.out, show j = k by omega, HN.out, List.take_length]
          subst hgM
          have hMok := HMok.out
          have HMB := Lib.hid hMok
          obtain ⟨gf, gt, hgf, hgt⟩ := g
          unfold Ok at hMok
          simp only at hMok c0 c1 hkp2
          obtain ⟨o4, o5, o6⟩ := hMok
          have hln := HL1.out.2 k
          obtain ⟨D, hD⟩ : ∃ D, D = L1 k := ⟨_, rfl⟩
          have HD := Lib.hid hD
          rw [← hD] at hkp2 hln
          clear hg hD c2 c3
          go_wp2_with (at_builtin; refine wpList_append_sees rfl (.tmp 75) (.tmp 77) 70 102 rfl Tryz.underlying70 span_info rfl (by decide) (w.heap.size + 1) _ D.length (sps D) rfl (own_stays hkp2.out.1 ((Below.refl _ _).alloc (Nat.le_refl _) _)) _ 1 _ rfl (sees_sp (a := ⟨gf, gt, hgf, hgt⟩) (kb_new rfl) rfl rfl) (sps_oneCell _) ?b1 ?b2 ?b3 ?_)
          case b1 => omega
          case b2 => omega
          case b3 => first | omega | (simp; omega)
          rintro v5 w5 o5 g5 b5
          have K5 := Lib.hid (hkp2.out.next ((Below.refl _ _).alloc (Nat.le_refl _) _) o5 b5)
          clear o5 g5 b5 c0 c1
          have K6 : Hid (Keep w.heap.size w gf gt v5 (L1 k ++ ⟨gf, gt, hgf, hgt⟩ :: L3 0) w5) := by
            rw [HL0.out.2, ← HD.out]; exact K5.out
          go_wp2
          go_loopw [5, 8] (fun o i wr => ∃ j : Nat, j ≤ k ∧ i = .int .i64 (j : Int) ∧ Hid (Keep w.heap.size w gf gt o (L1 k ++ ⟨gf, gt, hgf, hgt⟩ :: L3 j) wr)) (fun _ i _ => k - (intOf i).toNat)
          case atStart => exact ⟨0, by omega, rfl, K6⟩
          case round =>
            obtain ⟨i, hi, rfl, hkp3⟩ := hrel
            obtain ⟨w3, rfl⟩ : ∃ w3 : World, w3 = wr := ⟨_, rfl⟩
            obtain ⟨c0, c1⟩ := two_blk hkp3.out.2.2
            have hlt3 := hkp3.out.lt
            by_cases hik : i < k
            · have r1 : decide (i < k) = true := by simpa using hik
              obtain ⟨b, off, rfl, hb, hx0, hx1⟩ := (HV.out.keeps hkp3.out.2.1).at i (by rw [← HN.out]; exact hik)
              have hok := fine_ok HF.out (k := i) (by rw [← HN.out]; exact hik)
              have hls := HL3.out.1 i (by rw [← HN.out]; exact hik)
              have hln3 := HL3.out.2 i
              obtain ⟨y, hy⟩ : ∃ y, y = l.getD i zsp := ⟨_, rfl⟩
              rw [← hy] at hx0 hx1 hok hls
              obtain ⟨E, hE⟩ : ∃ E, E = L1 k ++ (⟨gf, gt, hgf, hgt⟩ : Sp) :: L3 i := ⟨_, rfl⟩
              have hlen : E.length ≤ 2 * k + 1 := by rw [hE, List.length_append, List.length_cons, ← HD.out]; omega
              have hE2 : L1 k ++ (⟨gf, gt, hgf, hgt⟩ : Sp) :: L3 (i + 1) = E ++ if gt + 1 < y.f then [y] else [] := by
                rw [hls, hE, List.append_assoc, List.cons_append]
              rw [← hE] at hkp3
              obtain ⟨yf, yt, hyf, hyt⟩ := y
              unfold Ok at hok
              simp only at hx0 hx1 hok hE2
              obtain ⟨o1, o2, o3⟩ := hok
              have HE2 := Lib.hid hE2
              have eG : IntKind.u32.wrap ((gt : Int) + 1) = (gt : Int) + 1 := by rw [IntKind.wrap_u32]; omega
              have q2 : (0 : Int) ≤ (i : Int) := by omega
              have q3 : (i : Int) < (k : Int) := by omega
              clear hy hls hE hE2
              by_cases h1 : gt + 1 < yf
              · have s1 : decide ((gt : Int) + 1 < (yf : Int)) = true := decide_eq_true (by omega)
                have HR : Hid (L1 k ++ (⟨gf, gt, hgf, hgt⟩ : Sp) :: L3 (i + 1) = E ++ [⟨yf, yt, hyf, hyt⟩]) := by have := HE2.out; rwa [if_pos h1] at this
                go_wp2
                go_quiet (fail)
                go_wp2_with (at_builtin; refine wpList_append_sees rfl (.tmp 94) (.tmp 99) 70 102 rfl Tryz.underlying70 span_info rfl (by decide) (w.heap.size + 1) _ E.length (sps E) rfl (own_stays hkp3.out.1 ((below_draw (Below.refl _ _) _).alloc (Nat.le_refl _) _)) _ 1 _ rfl (sees_sp (a := ⟨yf, yt, hyf, hyt⟩) (kb_new rfl) rfl rfl) (sps_oneCell _) ?d1 ?d2 ?d3 ?_)
                case d1 => omega
                case d2 => omega
                case d3 => simp; omega
                rintro v7 w7 o7 g7 b7
                have K7 := Lib.hid (hkp3.out.next ((below_draw (Below.refl _ _) _).alloc (Nat.le_refl _) _) o7 b7)
                clear o7 g7 b7
                go_wp2
                go_roundw
                case rel => exact ⟨i + 1, by omega, by go_num, Lib.hid (by rw [HR.out]; exact K7.out)⟩
                case measure => simp [intOf]; omega
              · have s1 : decide ((gt : Int) + 1 < (yf : Int)) = false := decide_eq_false (by omega)
                have HR : Hid (L1 k ++ (⟨gf, gt, hgf, hgt⟩ : Sp) :: L3 (i + 1) = E) := by have := HE2.out; rwa [if_neg h1, List.append_nil] at this
                go_wp2
                go_quiet (fail)
                go_wp2
                go_roundw
                case rel => exact ⟨i + 1, by omega, by go_num, Lib.hid (by rw [HR.out]; exact hkp3.out.draw _)⟩
                case measure => simp [intOf]; omega
            · have r1 : decide (i < k) = false := by simpa using hik
              obtain rfl : i = k := by omega
              have KF := Lib.hid hkp3.out
              clear c0 c1 hlt3 hkp3
              go_wp2
              go_ret
              exact ⟨_, rfl, own_base KF.out.1 (Nat.le_succ _), KF.out.2.1⟩
end Go.Proofs.YtdackenaknieaaaGreat.Spans

/- octavoref07: Both, Left, Add, Join, Less: what each answers. Conditions: the slices' cells are spans. -/
namespace Go.Proofs.YtdackenaknieaaaGreat.Spans
open Go.RowKit
attribute [local go_sem ↓] Go.wp_at_zero Go.wp_at_succ

set_option maxHeartbeats 4000000 in
theorem both_any {v u : Value} {a b : List Sp} {w : World} (hv : Sps w v a) (hu : Sps w u b) (hf : Fine a) (hb : ∀ x ∈ b, Ok x) (la : a.length ≤ 1100) (lb : b.length ≤ 1100) :
    Calls Tryz.prog 138 #[v, u] w fun e w' => ∃ v', e = .returned v' ∧ w'.ownsRow w.heap.size 102 2 v' (both a b).length (sps (both a b)) ∧ Below w.heap.size w w' := by
  obtain ⟨bo, cb, rfl⟩ := hu.shape
  obtain ⟨n, hn⟩ : ∃ n, n = b.length := ⟨_, rfl⟩
  have HU := Lib.hid hu
  have HN := Lib.hid hn
  have HF := Lib.hid hf
  have HB := Lib.hid hb
  have HLA := Lib.hid la
  have TW := Lib.hid (twin_any hv (by omega))
  rw [← hn] at lb ⊢
  clear hv hu hn hf hb
  go_enter Tryz.func138, Tryz.ntmps138
  go_wp2_with fail
  refine TW.out.mono ?_
  rintro e w1 ⟨v1, rfl, o1, b1⟩
  have O1 : Hid (w1.ownsRow w.heap.size 102 2 v1 (both a (b.take 0)).length (sps (both a (b.take 0)))) := o1
  have B1 := Lib.hid b1
  clear o1 b1
  go_wp2
  go_loopw [5, 6] (fun o i wr => ∃ k : Nat, k ≤ n ∧ i = .int .i64 (k : Int) ∧ Hid (wr.ownsRow w.heap.size 102 2 o (both a (b.take k)).length (sps (both a (b.take k)))) ∧ Hid (Below w.heap.size w wr)) (fun _ i _ => n - (intOf i).toNat)
  case atStart => exact ⟨0, by omega, rfl, O1, B1⟩
  case round =>
    obtain ⟨k, hk, rfl, hown, hbel⟩ := hrel
    by_cases hkn : k < n
    · have q1 : decide (k < n) = true := by simpa using hkn
      obtain ⟨bb, off, rfl, hbb, hx0, hx1⟩ := (HU.out.keeps hbel.out).at k (by rw [← HN.out]; exact hkn)
      have hs := take_snoc b k (by rw [← HN.out]; exact hkn)
      have hok : Ok (b.getD k zsp) := HB.out _ (by rw [List.getD, List.getElem?_eq_getElem (by rw [← HN.out]; exact hkn)]; exact List.getElem_mem _)
      obtain ⟨y, hy⟩ : ∃ y, y = b.getD k zsp := ⟨_, rfl⟩
      rw [← hy] at hx0 hx1 hs hok
      have hsn : both a (b.take (k + 1)) = ins (both a (b.take k)) y := by rw [hs]; exact both_snoc _ _ _
      have hbt : ∀ x ∈ b.take k, Ok x := fun x hx => HB.out x (List.mem_of_mem_take hx)
      have hfine := (both_ok (b := b.take k) HF.out hbt).1
      have hlen : (both a (b.take k)).length ≤ 5000 := by
        have h1 := both_len (b.take k) a
        have h2 := HLA.out
        rw [List.length_take] at h1
        omega
      have W := Lib.hid (with_any (x := y) (Sps.own hown.out) hfine hok hlen)
      have HSN := Lib.hid hsn
      obtain ⟨yf, yt, hyf, hyt⟩ := y
      simp only at hx0 hx1 W
      have q2 : (0 : Int) ≤ (k : Int) := by omega
      have q3 : (k : Int) < (n : Int) := by omega
      clear hy hs hsn hbt hfine hlen hok
      go_wp2_with fail
      refine W.out.mono ?_
      rintro e w2 ⟨v2, rfl, o2, b2⟩
      have O2 := Lib.hid (own_base o2 hbel.out.size)
      have B2 := Lib.hid (bt hbel.out b2)
      clear o2 b2
      go_wp2
      go_roundw
      case rel => exact ⟨k + 1, by omega, by go_num, Lib.hid (by rw [HSN.out]; exact O2.out), B2⟩
      case measure => simp [intOf]; omega
    · have q1 : decide (k < n) = false := by simpa using hkn
      have hkk : b.take k = b := List.take_of_length_le (by have := HN.out; omega)
      rw [hkk] at hown
      clear hkk
      go_wp2
      go_ret
      exact ⟨_, rfl, hown.out, hbel.out⟩

end Go.Proofs.YtdackenaknieaaaGreat.Spans

/- octavoref08: Many, Count, Great, put, told, Both, Left, Join, Less: what each answers. Conditions: the slices' cells are replicas' spans. -/
namespace Go.Proofs.YtdackenaknieaaaGreat.Clocks
open Go.RowKit Go.Proofs.YtdackenaknieaaaGreat.Spans
attribute [local go_sem ↓] Go.wp_at_zero Go.wp_at_succ

/-- Some replica has more spans than any machine can hold. -/
def Huge (c : List Tm) : Prop := ∃ x ∈ c, 9000000000000000000 < x.2.length
/-- What Great answers. -/
def Grt (c : List Tm) (e : Ending) : Prop := ∃ g, e = .returned (.bool g) ∧ (g = false → c.length ≤ 300 ∧ (tot c ≤ 300 ∨ Huge c))
theorem Grt.yes {c : List Tm} : Grt c (.returned (.bool true)) := ⟨true, rfl, fun h => by cases h⟩
theorem Grt.no {c : List Tm} (h1 : c.length ≤ 300) (h2 : tot c ≤ 300 ∨ Huge c) : Grt c (.returned (.bool false)) := ⟨false, rfl, fun _ => ⟨h1, h2⟩⟩

/-! ### Two together -/
theorem hold_grown {w w' : World} {base : Nat} : ∀ {cs : List Value} {c : List Tm} {row : Option Nat}, HoldO w base cs c → w.grownBy w' row →
    (∀ j cur, row = some j → w.heap[j]? ≠ some (.cells cur 102 (0, 0))) → HoldO w' base cs c
  | [], [], _, _, _, _ => trivial
  | _ :: b :: _, _ :: _, row, h, hg, hr => by
    refine ⟨h.1, h.2.1, h.2.2.1.kept hg ?_, hold_grown h.2.2.2 hg hr⟩
    rcases h.2.2.1.2 with ⟨h0, _⟩ | ⟨g, cap, cur, h0, _, hgb, _⟩
    · rw [h0]; exact .inl rfl
    · refine .inr (fun e => ?_)
      rw [h0] at e
      exact hr g cur e.symm hgb
theorem times_row {w : World} {base n : Nat} {v : Value} {cs : List Value} (h : w.ownsRow base 72 2 v n cs) : ∀ j cur, v.ownBlock = some j → w.heap[j]? ≠ some (.cells cur 102 (0, 0)) := by
  intro j cur hj he
  rcases h.2 with ⟨h0, _⟩ | ⟨g, cap, cur2, h0, _, hgb, _⟩
  · rw [h0] at hj; cases hj
  · rw [h0] at hj
    simp only [Value.ownBlock, Option.some.injEq] at hj
    subst hj
    rw [hgb] at he
    simp at he
theorem own_kept_span {w w' : World} {base B n : Nat} {u v : Value} {cs ds : List Value} {m : Nat} (h : w.ownsRow B 102 2 u n cs) (hv : w.ownsRow base 72 2 v m ds) (hg : w.grownBy w' v.ownBlock) : w'.ownsRow B 102 2 u n cs := by
  refine h.kept hg ?_
  rcases h.2 with ⟨h0, _⟩ | ⟨g, cap, cur, h0, _, hgb, _⟩
  · rw [h0]; exact .inl rfl
  · refine .inr (fun e => ?_)
    rw [h0] at e
    exact times_row hv g cur e.symm hgb
theorem HoldO.lower {w : World} {b b' : Nat} (hb : b' ≤ b) : ∀ {cs : List Value} {c : List Tm}, HoldO w b cs c → HoldO w b' cs c
  | [], [], _ => trivial
  | _ :: _ :: _, _ :: _, h => ⟨h.1, h.2.1, own_base h.2.2.1 hb, HoldO.lower hb h.2.2.2⟩
theorem OwnC.nil (w : World) (base : Nat) : OwnC w base (.slice none 0 0) [] := ⟨[], World.ownsRow_nil _ _ _ _, trivial⟩
theorem OwnC.base {w : World} {b b' : Nat} {v : Value} {c : List Tm} (h : OwnC w b v c) (hb : b' ≤ b) : OwnC w b' v c := by
  obtain ⟨cs, h1, h2⟩ := h
  exact ⟨cs, own_base h1 hb, HoldO.lower hb h2⟩
end Go.Proofs.YtdackenaknieaaaGreat.Clocks

/- octavoref08: put, told, Both, Left, Join, Less, One, Add: what each answers. Conditions: the slices' cells are replicas' spans. -/
namespace Go.Proofs.YtdackenaknieaaaGreat.Clocks
open Go.RowKit Go.Proofs.YtdackenaknieaaaGreat.Spans
attribute [local go_sem ↓] Go.wp_at_zero Go.wp_at_succ

/-- A replica's spans behind a clock, if there are any. -/
def putC (c : List Tm) (r : Nat) (l : List Sp) : List Tm := c ++ if l = [] then [] else [(r, l)]

set_option maxHeartbeats 1000000 in
theorem put_any {base : Nat} {v u : Value} {c : List Tm} {l : List Sp} {r : Nat} {w : World} (hv : OwnC w base v c) (hu : w.ownsRow base 102 2 u l.length (sps l)) (hr : r < 256) (hc : c.length ≤ 1000) (hl : l.length ≤ 1024) (hb : base ≤ w.heap.size) :
    Calls Tryz.prog 137 #[v, .int .u8 (r : Int), u] w fun e w' => ∃ v', e = .returned (.tuple #[v', .bool true]) ∧ OwnC w' base v' (putC c r l) ∧ Below base w w' := by
  obtain ⟨cs, hv1, hv2⟩ := hv
  obtain ⟨ao, cap, rfl⟩ := Sees.shape (Sees.own hv1)
  obtain ⟨so, sc, rfl⟩ := Sees.shape (Sees.own hu)
  obtain ⟨n, hn⟩ : ∃ n, n = c.length := ⟨_, rfl⟩
  obtain ⟨m, hm⟩ : ∃ m, m = l.length := ⟨_, rfl⟩
  rw [← hn] at hv1 hc ⊢
  rw [← hm] at hu hl ⊢
  have HV1 := Lib.hid hv1
  have HV2 := Lib.hid hv2
  have HU := Lib.hid hu
  have HN := Lib.hid hn
  have HM := Lib.hid hm
  have t3 : decide ((m : Int) ≤ 1024) = true := decide_eq_true (by omega)
  have t4 : decide (m ≤ 1024) = true := decide_eq_true hl
  clear hv1 hv2 hu
  by_cases h0 : m = 0
  · have hl0 : l = [] := List.length_eq_zero_iff.1 (by omega)
    have t1 : decide ((0 : Int) < (m : Int)) = false := decide_eq_false (by omega)
    have t2 : decide (0 < m) = false := decide_eq_false (by omega)
    have e : putC c r l = c := by unfold putC; rw [if_pos hl0, List.append_nil]
    rw [e]
    clear hl0 hm hn e
    go_enter Tryz.func137, Tryz.ntmps137
    go_wp2
    go_ret2
    exact ⟨_, rfl, ⟨cs, by rw [← HN.out]; exact HV1.out, HV2.out⟩, Below.refl _ _⟩
  · have hl0 : l ≠ [] := fun h => h0 (by rw [hm, h]; rfl)
    have t1 : decide ((0 : Int) < (m : Int)) = true := decide_eq_true (by omega)
    have t2 : decide (0 < m) = true := decide_eq_true (by omega)
    have e : putC c r l = c ++ [(r, l)] := by unfold putC; rw [if_neg hl0]
    rw [e]
    have hlen : (c ++ [(r, l)]).length = n + 1 := by simp [hn]
    have HLEN := Lib.hid hlen
    have XB := Lib.hid ((Below.refl w.heap.size w).alloc (Nat.le_refl _) (.cells #[.int .u8 (r : Int), .slice (some (so.getD ⟨0, 0, none⟩)) 0 0] 72))
    clear hl0 hm hn e hlen XB
    have SE : Hid (Sees (w.alloc (.cells #[.int .u8 (r : Int), .slice so m sc] 72)) (.slice (some ⟨w.heap.size, 0, none⟩) 1 1) 2 1 [.int .u8 (r : Int), .slice so m sc]) := sees_new w [.int .u8 (r : Int), .slice so m sc] 2 1 rfl (by omega) _ _
    have BX := Lib.hid ((Below.refl w.heap.size w).alloc (Nat.le_refl _) (.cells #[.int .u8 (r : Int), .slice so m sc] 72))
    go_enter Tryz.func137, Tryz.ntmps137
    go_wp2_with (at_builtin; refine wpList_append_sees rfl (.tmp 11) (.tmp 15) 22 72 rfl Tryz.underlying22 times_info rfl (by decide) base _ n cs rfl (own_stays HV1.out BX.out) _ 1 _ rfl SE.out (by intro z hz; simp at hz; rcases hz with rfl | rfl <;> rfl) ?a1 ?a2 ?a3 ?_)
    case a1 => omega
    case a2 => omega
    case a3 => exact Nat.le_trans hb BX.out.size
    rintro v5 w5 o5 g5 b5
    have OW : Hid (OwnC w5 base v5 (c ++ [(r, l)])) := by
      have hx := own_stays HV1.out BX.out
      refine ⟨cs ++ [.int .u8 (r : Int), .slice so m sc], by rw [HLEN.out]; exact o5, HoldO.append (hold_grown (HV2.out.keeps BX.out) g5 (times_row hx)) ⟨rfl, hr, ?_, trivial⟩⟩
      have := own_kept_span (own_stays HU.out BX.out) hx g5
      rw [HM.out] at this
      rw [HM.out]
      exact this
    have BB := Lib.hid ((BX.out.mono hb).trans b5)
    obtain ⟨a5, c5, rfl⟩ : ∃ ao cap, v5 = .slice ao (n + 1) cap := Sees.shape (Sees.own o5)
    clear o5 g5 b5 SE BX
    go_wp2
    go_ret2
    exact ⟨_, rfl, OW.out, BB.out⟩

set_option maxRecDepth 100000 in
set_option maxHeartbeats 2000000 in
theorem refBothC_any {v u : Value} {a b : List Tm} {w : World} (hv : Tms w v a) (hu : Tms w u b) (ha : Cok a) (hb : Cok b) (hf : Few a b) :
    Calls Tryz.prog 119 #[v, u] w fun e w' => ∃ v', e = .returned (.tuple #[v', .bool true]) ∧ OwnC w' w.heap.size v' (bothC a b) ∧ Below w.heap.size w w' := by
  obtain ⟨g, hg⟩ : ∃ g : Nat → List Sp, g = fun r => both (spn a r) (spn b r) := ⟨_, rfl⟩
  have e : bothC a b = clkFrom g 0 8 := by rw [hg]; rfl
  rw [e]
  have SA : Hid (∀ r : Nat, ∃ x, Sps w x (spn a r) ∧ ∀ W, Below w.heap.size w W → Calls Tryz.prog 139 #[v, .int .u8 (r : Int)] W fun e w' => e = .returned x ∧ w' = W) := fun r => refSpans_at hv r
  have SB : Hid (∀ r : Nat, ∃ x, Sps w x (spn b r) ∧ ∀ W, Below w.heap.size w W → Calls Tryz.prog 139 #[u, .int .u8 (r : Int)] W fun e w' => e = .returned x ∧ w' = W) := fun r => refSpans_at hu r
  have BO : Hid (∀ (r : Nat) (W : World) (x y : Value), Sps W x (spn a r) → Sps W y (spn b r) → Calls Tryz.prog 138 #[x, y] W fun e w' => ∃ v', e = .returned v' ∧ w'.ownsRow W.heap.size 102 2 v' (g r).length (sps (g r)) ∧ Below W.heap.size W w') := fun r W x y h1 h2 => by
    have f1 := (mayB_iff _).1 (spn_may ha r)
    have f2 := (mayB_iff _).1 (spn_may hb r)
    rw [hg]
    exact both_any h1 h2 f1.1 f2.1.all (by omega) (by omega)
  have GM : Hid (∀ r, (g r).length ≤ 1024) := fun r => by
    have := ((mayB_iff _).1 (few_may ha hb hf r)).2
    rw [hg]
    exact this
  obtain ⟨ao, ca, rfl⟩ := hv.shape
  obtain ⟨bo, cb, rfl⟩ := hu.shape
  clear e hg hv hu ha hb hf
  have O0 : Hid (OwnC w w.heap.size (.slice none 0 0) (clkFrom g 0 0)) := OwnC.nil _ _
  have B0 := Lib.hid (Below.refl w.heap.size w)
  go_enter Tryz.func119, Tryz.ntmps119
  go_wp2
  go_loopw [6, 7, 8] (fun o t i wr => ∃ k : Nat, k ≤ 8 ∧ i = .int .u8 (k : Int) ∧ t = .bool true ∧ Hid (OwnC wr w.heap.size o (clkFrom g 0 k)) ∧ Hid (Below w.heap.size w wr)) (fun _ _ i _ => 8 - (intOf i).toNat)
  case atStart => exact ⟨0, by omega, rfl, rfl, O0, B0⟩
  case round =>
    obtain ⟨k, hk, rfl, rfl, hown, hbel⟩ := hrel
    by_cases hk8 : k < 8
    · have q1 : decide ((k : Int) < 8) = true := decide_eq_true (by omega)
      have q2 : decide (k < 8) = true := decide_eq_true hk8
      obtain ⟨x, hx, cx⟩ := SA.out k
      obtain ⟨y, hy, cy⟩ := SB.out k
      have CX := Lib.hid (cx _ hbel.out)
      have CY := Lib.hid (cy _ hbel.out)
      have HX := Lib.hid (hx.keeps hbel.out)
      have HY := Lib.hid (hy.keeps hbel.out)
      have BK := Lib.hid (BO.out k _ _ _ HX.out HY.out)
      have GK := Lib.hid (GM.out k)
      have hln := clkFrom_len g k 0
      have hsn := clkFrom_snoc g k 0
      rw [Nat.zero_add] at hsn
      have HSN : Hid (clkFrom g 0 (k + 1) = putC (clkFrom g 0 k) k (g k)) := hsn
      obtain ⟨xo, xc, rfl⟩ := hx.shape
      obtain ⟨yo, yc, rfl⟩ := hy.shape
      have hsz := hbel.out.size
      have e1 : IntKind.u8.wrap ((k : Int) + 1) = (k : Int) + 1 := by rw [IntKind.wrap_u8]; omega
      clear cx cy hx hy hsn
      go_wp2_with fail
      refine CX.out.mono ?_
      rintro e w1 ⟨rfl, rfl⟩
      go_wp2_with fail
      refine CY.out.mono ?_
      rintro e w1 ⟨rfl, rfl⟩
      go_wp2_with fail
      refine BK.out.mono ?_
      rintro e w2 ⟨v2, rfl, o2, b2⟩
      have PU := put_any (r := k) (hown.out.keeps b2) (own_base o2 hsz) (by omega) (by omega) GK.out (Nat.le_trans hsz b2.size)
      have PU' := Lib.hid PU
      have B2 := Lib.hid (bt hbel.out b2)
      clear PU o2 b2
      go_wp2_with fail
      refine PU'.out.mono ?_
      rintro e w3 ⟨v3, rfl, o3, b3⟩
      have O3 := Lib.hid o3
      have B3 := Lib.hid (B2.out.trans b3)
      clear o3 b3
      go_wp2
      go_roundw
      case rel => exact ⟨k + 1, by omega, by go_num, rfl, Lib.hid (by rw [HSN.out]; exact O3.out), B3⟩
      case measure => simp [intOf]; omega
    · have q1 : decide ((k : Int) < 8) = false := decide_eq_false (by omega)
      have q2 : decide (k < 8) = false := decide_eq_false hk8
      obtain rfl : k = 8 := by omega
      go_wp2
      go_ret2
      exact ⟨_, rfl, hown.out, hbel.out⟩

/-- What is answered: a clock of its own, and an error. -/
def DoneC (c : List Tm) (x : Int) (w : World) (e : Ending) (w' : World) : Prop :=
  ∃ v, e = .returned (.tuple #[v, .int .i64 x]) ∧ OwnC w' w.heap.size v c ∧ Below w.heap.size w w'

end Go.Proofs.YtdackenaknieaaaGreat.Clocks

/- octavoref08: One, Add, Among, Of, Top: what each answers. Conditions: the slices' cells are replicas' spans, stamps. -/
namespace Go.Proofs.YtdackenaknieaaaGreat.Clocks
open Go.RowKit Go.Proofs.YtdackenaknieaaaGreat.Spans
attribute [local go_sem ↓] Go.wp_at_zero Go.wp_at_succ

theorem one_any (a : Id) (w : World) :
    Calls Tryz.prog 120 #[.agg #[.int .u32 (a.t : Int), .int .u8 (a.r : Int)]] w fun e w' => ∃ v', e = .returned v' ∧ OwnC w' w.heap.size v' (one a) ∧ Below w.heap.size w w' := by
  have ht := a.ht
  have hr := a.hr
  obtain ⟨X, hX⟩ : ∃ X, X = w.alloc (.cells #[.int .u32 (a.t : Int), .int .u8 (a.r : Int)] 28) := ⟨_, rfl⟩
  have hs : X.heap.size = w.heap.size + 1 := by rw [hX]; simp
  have BX : Below w.heap.size w X := by rw [hX]; exact (Below.refl _ _).alloc (Nat.le_refl _) _
  have O1 := World.ownsRow_lit (base := w.heap.size) (e := 102) (size := 2) X #[.int .u32 (a.t : Int), .int .u32 (a.t : Int)] 1 (by omega) (by decide) rfl
  rw [hs] at O1
  have O2 := own_stays O1 ((Below.refl _ _).alloc (Nat.le_refl _) (.cells #[.int .u8 (a.r : Int), .slice (some ⟨w.heap.size + 1, 0, none⟩) 1 1] 72))
  have O3 := World.ownsRow_lit (base := w.heap.size) (e := 72) (size := 2) (X.alloc (.cells #[.int .u32 (a.t : Int), .int .u32 (a.t : Int)] 102)) #[.int .u8 (a.r : Int), .slice (some ⟨w.heap.size + 1, 0, none⟩) 1 1] 1 (by simp; omega) (by decide) rfl
  rw [World.size_alloc, hs] at O3
  have OW : Hid (OwnC ((X.alloc (.cells #[.int .u32 (a.t : Int), .int .u32 (a.t : Int)] 102)).alloc (.cells #[.int .u8 (a.r : Int), .slice (some ⟨w.heap.size + 1, 0, none⟩) 1 1] 72)) w.heap.size (.slice (some ⟨w.heap.size + 1 + 1, 0, none⟩) 1 1) (one a)) := by
    refine ⟨_, O3, rfl, hr, ?_, trivial⟩
    have e : sps (one a).head!.2 = sps [mk a.t a.t] := rfl
    show World.ownsRow _ _ _ _ _ _ (sps [mk a.t a.t])
    have e2 : sps [mk a.t a.t] = [.int .u32 (a.t : Int), .int .u32 (a.t : Int)] := by simp only [sps, mk_f ht, mk_t ht]
    rw [e2]
    exact O2
  have BB : Hid (Below w.heap.size w ((X.alloc (.cells #[.int .u32 (a.t : Int), .int .u32 (a.t : Int)] 102)).alloc (.cells #[.int .u8 (a.r : Int), .slice (some ⟨w.heap.size + 1, 0, none⟩) 1 1] 72))) := (BX.alloc BX.size _).alloc (by have := BX.size; simp; omega) _
  rw [hX] at OW BB
  clear O1 O2 O3 BX hX hs ht hr
  go_enter Tryz.func120, Tryz.ntmps120
  go_wp2
  go_ret
  exact ⟨_, rfl, OW.out, BB.out⟩

end Go.Proofs.YtdackenaknieaaaGreat.Clocks

/- octavoref08: Among, Of, Top, Same: what each answers. Conditions: the slices' cells are replicas' spans, stamps. -/
namespace Go.Proofs.YtdackenaknieaaaGreat.Clocks
open Go.RowKit Go.Proofs.YtdackenaknieaaaGreat.Spans
attribute [local go_sem ↓] Go.wp_at_zero Go.wp_at_succ

theorem id_take_snoc (l : List Id) (k : Nat) (h : k < l.length) : l.take (k + 1) = l.take k ++ [l.getD k zid] := by
  rw [List.take_succ_eq_append_getElem h]
  simp [List.getD, List.getElem?_eq_getElem h]
theorem id_mem {l : List Id} {k : Nat} (h : k < l.length) : l.getD k zid ∈ l := by
  rw [List.getD, List.getElem?_eq_getElem h]
  exact List.getElem_mem _

set_option maxRecDepth 100000 in
set_option maxHeartbeats 1000000 in
theorem among_any {v : Value} {l : List Id} {w : World} (hv : Ids w v l) (hm : ∀ a ∈ l, mayI a) (hl : l.length ≤ 1024) :
    Calls Tryz.prog 79 #[v] w fun e w' => ∃ v', e = .returned v' ∧ OwnC w' w.heap.size v' (among l) ∧ Below w.heap.size w w' := by
  obtain ⟨ao, cap, rfl⟩ := hv.shape
  obtain ⟨n, hn⟩ : ∃ n, n = l.length := ⟨_, rfl⟩
  have HV := Lib.hid hv
  have HN := Lib.hid hn
  have HM := Lib.hid hm
  rw [← hn] at hl ⊢
  have O0 : Hid (OwnC w w.heap.size (.slice none 0 0) (among (l.take 0))) := OwnC.nil _ _
  have B0 := Lib.hid (Below.refl w.heap.size w)
  clear hv hn hm
  go_enter Tryz.func79, Tryz.ntmps79
  go_wp2
  go_loopw [3, 4] (fun o i wr => ∃ k : Nat, k ≤ n ∧ i = .int .i64 (k : Int) ∧ Hid (OwnC wr w.heap.size o (among (l.take k))) ∧ Hid (Below w.heap.size w wr)) (fun _ i _ => n - (intOf i).toNat)
  case atStart => exact ⟨0, by omega, rfl, O0, B0⟩
  case round =>
    obtain ⟨k, hk, rfl, hown, hbel⟩ := hrel
    by_cases hkn : k < n
    · have q1 : decide (k < n) = true := by simpa using hkn
      have q2 : (0 : Int) ≤ (k : Int) := by omega
      have q3 : (k : Int) < (n : Int) := by omega
      have hkl : k < l.length := by rw [← HN.out]; exact hkn
      obtain ⟨b1, o1, rfl, hb1, ha0, ha1⟩ := (HV.out.keeps hbel.out).at k hkl
      have hs := id_take_snoc l k hkl
      have hx1 := HM.out _ (id_mem hkl)
      obtain ⟨x, hx⟩ : ∃ x, x = l.getD k zid := ⟨_, rfl⟩
      rw [← hx] at ha0 ha1 hs hx1
      have hsn : among (l.take (k + 1)) = bothC (among (l.take k)) (one x) := by rw [hs]; exact among_snoc _ _
      obtain ⟨g1, g2, _⟩ := among_ok (l.take k) (fun a ha => HM.out a (List.mem_of_mem_take ha)) (by rw [List.length_take]; omega)
      have hfew : Few (among (l.take k)) (one x) := fun r => by
        have h1 := g2 r
        have h2 := spn_one_len x r
        rw [List.length_take] at h1
        omega
      have HSN := Lib.hid hsn
      have OA := Lib.hid (one_any x wr)
      have BO : Hid (∀ (W : World) (u c : Value), Tms W c (among (l.take k)) → Tms W u (one x) → Calls Tryz.prog 119 #[c, u] W fun e w' => ∃ v', e = .returned (.tuple #[v', .bool true]) ∧ OwnC w' W.heap.size v' (bothC (among (l.take k)) (one x)) ∧ Below W.heap.size W w') := fun W u c h1 h2 => refBothC_any h1 h2 g1 (one_ok hx1) hfew
      have hsz := hbel.out.size
      clear hx hs hsn g1 g2 hfew hx1
      go_wp2_with fail
      refine OA.out.mono ?_
      rintro e w2 ⟨v2, rfl, o2, b2⟩
      have B2 := Lib.hid (bt hbel.out b2)
      have BC := Lib.hid (BO.out _ _ _ (hown.out.tms.keeps b2) o2.tms)
      clear o2 b2
      go_wp2_with fail
      refine BC.out.mono ?_
      rintro e w3 ⟨v3, rfl, o3, b3⟩
      have O3 := Lib.hid (OwnC.base o3 B2.out.size)
      have B3 := Lib.hid (bt B2.out b3)
      clear o3 b3
      go_wp2
      go_roundw
      case rel => exact ⟨k + 1, by omega, by go_num, Lib.hid (by rw [HSN.out]; exact O3.out), B3⟩
      case measure => simp [intOf]; omega
    · have q1 : decide (k < n) = false := by simpa using hkn
      have hkk : l.take k = l := List.take_of_length_le (by have := HN.out; omega)
      rw [hkk] at hown
      clear hkk
      go_wp2
      go_ret
      exact ⟨_, rfl, hown.out, hbel.out⟩

end Go.Proofs.YtdackenaknieaaaGreat.Clocks

/- octavoref08: Top, Same: what each answers. Conditions: the slices' cells are replicas' spans. -/
namespace Go.Proofs.YtdackenaknieaaaGreat.Clocks
open Go.RowKit Go.Proofs.YtdackenaknieaaaGreat.Spans
attribute [local go_sem ↓] Go.wp_at_zero Go.wp_at_succ

theorem tms_ne : ∀ {a b : List Tm}, a.length = b.length → a ≠ b → ∃ k, k < a.length ∧ a.getD k ztm ≠ b.getD k ztm
  | [], [], _, h => absurd rfl h
  | x :: a, y :: b, hl, h => by
    by_cases hxy : x = y
    · subst hxy
      obtain ⟨k, h1, h2⟩ := tms_ne (a := a) (b := b) (by simpa using hl) (fun e => h (by rw [e]))
      exact ⟨k + 1, by simpa using h1, by simpa using h2⟩
    · exact ⟨0, by simp, by simpa using hxy⟩
  | [], _ :: _, hl, _ => by simp at hl
  | _ :: _, [], hl, _ => by simp at hl

set_option maxRecDepth 100000 in
set_option maxHeartbeats 4000000 in
theorem refSameC_any {a b : Value} {c d : List Tm} {w : World} (ha : Tms w a c) (hb : Tms w b d) :
    Calls Tryz.prog 23 #[a, b] w fun e w' => e = .returned (.bool (decide (c = d))) ∧ Below w.heap.size w w' := by
  obtain ⟨ao, ca, rfl⟩ := ha.shape
  obtain ⟨bo, cb, rfl⟩ := hb.shape
  obtain ⟨n, hn⟩ : ∃ n, n = c.length := ⟨_, rfl⟩
  obtain ⟨n2, hn2⟩ : ∃ n, n = d.length := ⟨_, rfl⟩
  have hm : n ≤ 9223372036854775807 := by rw [hn]; exact Tms.max ha
  have HA := Lib.hid ha
  have HB := Lib.hid hb
  have HN := Lib.hid hn
  have HN2 := Lib.hid hn2
  obtain ⟨R, hR⟩ : ∃ R, R = decide (c = d) := ⟨_, rfl⟩
  have HNo : Hid (c ≠ d → R = false) := fun h => by rw [hR]; exact decide_eq_false h
  have HYes : Hid (c = d → R = true) := fun h => by rw [hR]; exact decide_eq_true h
  rw [← hn, ← hn2, ← hR]
  clear ha hb hn hn2 hR
  by_cases hlen : n = n2
  · subst hlen
    have t1 : ((n : Int) != (n : Int)) = false := by simp
    go_enter Tryz.func23, Tryz.ntmps23
    go_wp2
    go_loopw [5] (fun i wr => ∃ k : Nat, k ≤ n ∧ i = .int .i64 (k : Int) ∧ Hid (∀ j, j < k → c.getD j ztm = d.getD j ztm) ∧ ∃ q, wr = w.drewN q) (fun i _ => n - (intOf i).toNat)
    case atStart => exact ⟨0, by omega, rfl, Lib.hid (fun j hj => by omega), 0, rfl⟩
    case round =>
      obtain ⟨k, hk, rfl, hal, q, rfl⟩ := hrel
      by_cases hkn : k < n
      · have q1 : decide (k < n) = true := by simpa using hkn
        have q2 : (0 : Int) ≤ (k : Int) := by omega
        have q3 : (k : Int) < (n : Int) := by omega
        have hkc : k < c.length := by rw [← HN.out]; exact hkn
        have hkd : k < d.length := by rw [← HN2.out]; exact hkn
        obtain ⟨b1, o1, u1, rfl, hb1, ha0, ha1, -, hs1⟩ := HA.out.at k hkc
        obtain ⟨b2, o2, u2, rfl, hb2, hb0, hb1', -, hs2⟩ := HB.out.at k hkd
        obtain ⟨x, hx⟩ : ∃ x, x = c.getD k ztm := ⟨_, rfl⟩
        obtain ⟨y, hy⟩ : ∃ y, y = d.getD k ztm := ⟨_, rfl⟩
        have hx' : c.getD k (0, []) = x := hx.symm
        have hy' : d.getD k (0, []) = y := hy.symm
        rw [hx'] at ha0 hs1
        rw [hy'] at hb0 hs2
        have hne : x ≠ y → R = false := fun h => HNo.out (fun e => h (by rw [hx, hy, e]))
        have HNe := Lib.hid hne
        have HXY : Hid (x = y → ∀ j, j < k + 1 → c.getD j ztm = d.getD j ztm) := fun e j hj => by
          by_cases q : j = k
          · rw [q, ← hx, ← hy, e]
          · exact hal.out j (by omega)
        obtain ⟨xr, xs⟩ := x
        obtain ⟨yr, ys⟩ := y
        simp only at ha0 hb0 hs1 hs2 HNe HXY
        have SM : Hid (∀ a, Calls Tryz.prog 46 #[u1, u2] (w.drewN (q + a)) fun e w' => e = .returned (.bool (decide (xs = ys))) ∧ ∃ m, w' = w.drewN (q + m)) := fun a => by
          refine (refSame_drawn (hs1.keeps (below_draw (Below.refl _ _) (q + a))) (hs2.keeps (below_draw (Below.refl _ _) (q + a)))).mono ?_
          rintro e w' ⟨he, m, hm⟩
          exact ⟨he, a + m, by rw [hm, World.drewN_drewN, Nat.add_assoc]⟩
        obtain ⟨so1, sc1, rfl⟩ := hs1.shape
        obtain ⟨so2, sc2, rfl⟩ := hs2.shape
        obtain ⟨l1, hl1⟩ : ∃ l1, l1 = xs.length := ⟨_, rfl⟩
        obtain ⟨l2, hl2⟩ : ∃ l2, l2 = ys.length := ⟨_, rfl⟩
        rw [← hl1] at ha1 SM
        rw [← hl2] at hb1' SM
        clear hx hy hx' hy' hne hs1 hs2 hl1 hl2
        by_cases h1 : xr = yr
        · subst h1
          have s1 : ((xr : Int) == (xr : Int)) = true := by simp
          have s2 : ((xr : Int) != (xr : Int)) = false := by simp
          by_cases h2 : xs = ys
          · rw [decide_eq_true h2] at SM
            have HX2 := Lib.hid (HXY.out (by rw [h2]))
            clear h2 HXY HNe
            go_wp2
            go_quiet ((go_at_call 46; exact SM.out _))
            go_wp2
            go_roundw
            case rel => exact ⟨k + 1, by omega, by go_num, HX2, _, rfl⟩
            case measure => simp [intOf]; omega
          · rw [decide_eq_false h2] at SM
            obtain rfl : R = false := HNe.out (fun e => h2 (Prod.mk.inj e).2)
            clear h2 HXY HNe
            go_wp2
            go_quiet ((go_at_call 46; exact SM.out _))
            go_wp2
            go_ret
            exact ⟨rfl, by first | exact below_draw (below_draw (Below.refl _ _) _) _ | exact below_draw (Below.refl _ _) _⟩
        · have s1 : ((xr : Int) == (yr : Int)) = false := by simp; omega
          have s2 : ((xr : Int) != (yr : Int)) = true := by simp; omega
          have s3 : decide (xr = yr) = false := decide_eq_false h1
          obtain rfl : R = false := HNe.out (fun e => h1 (Prod.mk.inj e).1)
          clear HXY HNe
          go_wp2
          go_quiet (fail)
          go_wp2
          go_ret
          exact ⟨rfl, below_draw (below_draw (Below.refl _ _) _) _⟩
      · have q1 : decide (k < n) = false := by simpa using hkn
        obtain rfl : R = true := HYes.out (by
          by_cases e : c = d
          · exact e
          · obtain ⟨j, h1, h2⟩ := tms_ne (by rw [← HN.out, ← HN2.out]) e
            exact absurd (hal.out j (by have := HN.out; omega)) h2)
        go_wp2
        go_ret
        exact ⟨rfl, below_draw (Below.refl _ _) _⟩
  · have t1 : ((n : Int) != (n2 : Int)) = true := by simp; omega
    have t2 : ¬ n = n2 := hlen
    obtain rfl : R = false := HNo.out (fun e => hlen (by rw [HN.out, HN2.out, e]))
    go_enter Tryz.func23, Tryz.ntmps23
    go_wp2
    go_ret
    exact ⟨rfl, Below.refl _ _⟩
end Go.Proofs.YtdackenaknieaaaGreat.Clocks

/- octavoref08: Top, All, Ids: what each answers. Conditions: the slices' cells are replicas' spans. -/
namespace Go.Proofs.YtdackenaknieaaaGreat.Clocks
open Go.RowKit Go.Proofs.YtdackenaknieaaaGreat.Spans
attribute [local go_sem ↓] Go.wp_at_zero Go.wp_at_succ

end Go.Proofs.YtdackenaknieaaaGreat.Clocks

/- octavoref08: All, Ids: what each answers. Conditions: the slices' cells are replicas' spans. -/
namespace Go.Proofs.YtdackenaknieaaaGreat.Clocks
open Go.RowKit Go.Proofs.YtdackenaknieaaaGreat.Spans
attribute [local go_sem ↓] Go.wp_at_zero Go.wp_at_succ

/-- A row of stamps of the call's own. -/
def OwnI (w : World) (base : Nat) (v : Value) (L : List Id) : Prop := w.ownsRow base 28 2 v L.length (ids L)
theorem OwnI.nil (w : World) (base : Nat) : OwnI w base (.slice none 0 0) [] := World.ownsRow_nil _ _ _ _

end Go.Proofs.YtdackenaknieaaaGreat.Clocks

/- octavoref08.Ids; the laws' helper of layer 8 that writes over what was answered. Conditions: the rows are the call's own. -/
namespace Go.Proofs.YtdackenaknieaaaGreat.Clocks
open Go.RowKit Go.Proofs.YtdackenaknieaaaGreat.Spans
attribute [local go_sem ↓] Go.wp_at_zero Go.wp_at_succ

theorem OwnI.base {w : World} {b b' : Nat} {v : Value} {L : List Id} (h : OwnI w b v L) (hb : b' ≤ b) : OwnI w b' v L := own_base h hb
/-! ### Written over -/
/-- A clock's rows, wherever they lie from base on, its spans' ahead of top. -/
def Spl (w : World) (base top : Nat) (v : Value) (n : Nat) : Prop :=
  ∃ ao cap, v = .slice ao n cap ∧ n ≤ 9223372036854775807 ∧ (n = 0 ∨ ∃ b, ao = some ⟨b, 0, none⟩ ∧ base ≤ b ∧ b < w.heap.size ∧ ∀ k, k < n → ∃ so m sc, w.cell? ⟨b, k * 2 + 1, none⟩ = some (.slice so m sc) ∧ m ≤ 9223372036854775807 ∧
    (m = 0 ∨ ∃ g cur, so = some ⟨g, 0, none⟩ ∧ base ≤ g ∧ g < top ∧ g ≠ b ∧ w.heap[g]? = some (.cells cur 102 (0, 0)) ∧ m * 2 ≤ cur.size))
/-- What was there stays so, but from base on, ahead of top. -/
def Sand (base top : Nat) (w w' : World) : Prop := Below base w w' ∧ ∀ j, top ≤ j → w'.heap[j]? = w.heap[j]?
theorem Sand.refl (base top : Nat) (w : World) : Sand base top w w := ⟨Below.refl _ _, fun _ _ => rfl⟩
theorem Sand.trans {base top : Nat} {a b c : World} (h : Sand base top a b) (k : Sand base top b c) : Sand base top a c := ⟨h.1.trans k.1, fun j hj => (k.2 j hj).trans (h.2 j hj)⟩
theorem Spl.keeps {w w' : World} {base top n : Nat} {v : Value} (h : Spl w base top v n) (hb : Below w.heap.size w w') : Spl w' base top v n := by
  obtain ⟨ao, cap, h1, h2, h3⟩ := h
  refine ⟨ao, cap, h1, h2, ?_⟩
  rcases h3 with h3 | ⟨b, e1, e2, e3, e4⟩
  · exact .inl h3
  · refine .inr ⟨b, e1, e2, Nat.lt_of_lt_of_le e3 hb.size, fun k hk => ?_⟩
    obtain ⟨so, m, sc, f1, f2, f3⟩ := e4 k hk
    refine ⟨so, m, sc, (hb.cell (p := ⟨b, k * 2 + 1, none⟩) e3).trans f1, f2, ?_⟩
    rcases f3 with f3 | ⟨g, cur, g1, g2, g3, g4, g5, g6⟩
    · exact .inl f3
    · exact .inr ⟨g, cur, g1, g2, g3, g4, (hb.block g (Array.getElem?_eq_some_iff.1 g5).1).trans g5, g6⟩
theorem Spl.set {w : World} {base top n g j : Nat} {v : Value} {u : Value} (h : Spl w base top v n) (hg : ∀ b cap, v = .slice (some ⟨b, 0, none⟩) n cap → g ≠ b) : Spl (w.setCell ⟨g, j, none⟩ u) base top v n := by
  obtain ⟨ao, cap, h1, h2, h3⟩ := h
  refine ⟨ao, cap, h1, h2, ?_⟩
  rcases h3 with h3 | ⟨b, e1, e2, e3, e4⟩
  · exact .inl h3
  · have hgb := hg b cap (by rw [h1, e1])
    refine .inr ⟨b, e1, e2, by simpa [World.setCell] using e3, fun k hk => ?_⟩
    obtain ⟨so, m, sc, f1, f2, f3⟩ := e4 k hk
    refine ⟨so, m, sc, (World.cell?_of_block (a := ⟨b, k * 2 + 1, none⟩) (heap_setCell_other w ⟨g, j, none⟩ b u (fun e => hgb e.symm))).trans f1, f2, ?_⟩
    rcases f3 with f3 | ⟨q, cur, g1, g2, g3, g4, g5, g6⟩
    · exact .inl f3
    · right
      by_cases e : q = g
      · subst e
        exact ⟨q, _, g1, g2, g3, g4, heap_setCell_same w q j cur _ u g5, by rw [Array.size_setIfInBounds]; exact g6⟩
      · exact ⟨q, cur, g1, g2, g3, g4, (heap_setCell_other w ⟨g, j, none⟩ q u e).trans g5, g6⟩

end Go.Proofs.YtdackenaknieaaaGreat.Clocks

/- octavoref11.Left, Less, Stamps, Ids, Find: what each answers. Conditions: the slices' cells are operations, replicas' times; those of Left, Stamps not too many. -/
namespace Go.Proofs.YtdackenaknieaaaGreat.Bags
open Go.RowKit Go.WideShapes Stamp Go.Proofs.YtdackenaknieaaaGreat.Place Ops Codes
attribute [local go_sem ↓] Go.wp_at_zero Go.wp_at_succ
attribute [local go_sem] yielded_undef


def idE : Enc Id where
  sz := 2
  pos := by decide
  inn _ cs x := cs = [.int .u32 (x.t : Int), .int .u8 (x.r : Int)]
  len := by rintro w cs x rfl; rfl
  one := by
    rintro w cs x rfl u hu
    simp only [List.mem_cons, List.not_mem_nil, or_false] at hu
    rcases hu with rfl | rfl <;> rfl
  keep := by rintro w w' cs x _ h; exact h
theorem idE_rows {w : World} : ∀ {cs : List Value} {l : List Id}, idE.rows w cs l → cs = ids l
  | _, [], h => h
  | _, _ :: _, ⟨c, d, h1, h2, h3⟩ => by
    rw [h1, show c = _ from h2, idE_rows h3]
    rfl
theorem shr_ids {w0 w : World} {v : Value} {l : List Id} (h : Shr idE 28 w0 w v l) : Ids w v l := by
  obtain ⟨cs, h1, h2⟩ := h
  have h3 := Sees.own h1
  rw [idE_rows h2] at h3
  exact h3

set_option maxRecDepth 100000 in
set_option maxHeartbeats 4000000 in
theorem refStamps_any {v0 : Value} {l : List Opn} {w : World} (hv : OpL w v0 l) (hl : l.length ≤ 1000000) :
    Calls Tryz.prog 80 #[v0] w fun e w' => ∃ v', e = .returned v' ∧ Ids w' v' (stampsO l) ∧ Below w.heap.size w w' := by
  obtain ⟨ao, cap, rfl⟩ := hv.shape
  obtain ⟨n, hn⟩ : ∃ n, n = l.length := ⟨_, rfl⟩
  have hnm : n ≤ 1000000 := by omega
  have HV : Hid (∀ W : World, Below w.heap.size w W → OpL W (.slice ao l.length cap) l) := fun W h => hv.keeps h
  have HN := Lib.hid hn
  rw [← hn]
  have S0 : Hid (Shr idE 28 w w (.slice none 0 0) (stampsO (l.take 0))) := Shr.nil _ _ _ _
  have B0 : Hid (Below w.heap.size w w) := Below.refl _ _
  clear hv hn hl
  go_enter Tryz.func80, Tryz.ntmps80
  go_wp2
  go_loopw [3, 4] (fun v i wr => ∃ j : Nat, j ≤ n ∧ i = .int .i64 (j : Int) ∧ (∃ ao cap, v = .slice ao j cap) ∧ Hid (Shr idE 28 w wr v (stampsO (l.take j))) ∧ Hid (Below w.heap.size w wr)) (fun _ i _ => n - (intOf i).toNat)
  case atStart => exact ⟨0, by omega, rfl, ⟨none, 0, rfl⟩, S0, B0⟩
  case round =>
    clear S0 B0
    obtain ⟨j, hj, rfl, ⟨aoL, capL, rfl⟩, hshr, hbel⟩ := hrel
    by_cases hjn : j < n
    rotate_left
    · have q3 : decide (j < n) = false := by simpa using hjn
      have hkk : l.take j = l := List.take_of_length_le (by have := HN.out; omega)
      rw [hkk] at hshr
      clear hkk
      go_wp2
      go_ret
      exact ⟨_, rfl, shr_ids hshr.out, hbel.out⟩
    have q3 : decide (j < n) = true := by simpa using hjn
    have q4 : (0 : Int) ≤ (j : Int) := by omega
    have q5 : (j : Int) < (n : Int) := by omega
    have hjl : j < l.length := by rw [← HN.out]; exact hjn
    obtain ⟨bb, oo, u, e, hbb, hru, h0, h1, h2, h3, h4⟩ := opl_at (HV.out wr hbel.out) j hjl
    subst e
    obtain ⟨x, hx⟩ : ∃ x, x = l[j]'hjl := ⟨_, rfl⟩
    rw [← hx] at hru h0 h1 h2 h4
    have HO : Hid (∀ v : Value, opv x v = .agg #[.int .u8 (x.k : Int), .int .u32 (x.t : Int), .int .u8 (x.r : Int), v, .int .i64 x.p]) := fun v => rfl
    have INN : Hid (idE.inn w [.int .u32 (x.t : Int), .int .u8 (x.r : Int)] (idO x)) := rfl
    have FT : Hid (stampsO (l.take (j + 1)) = stampsO (l.take j) ++ [idO x]) := by unfold Hid stampsO; rw [List.take_succ_eq_append_getElem hjl, List.map_append, hx]; rfl
    have HM : Hid (j = (stampsO (l.take j)).length) := by unfold Hid stampsO; rw [List.length_map, List.length_take, ← HN.out]; omega
    clear hx hru
    obtain ⟨k, hk⟩ : ∃ z, x.k = z := ⟨_, rfl⟩
    obtain ⟨t, ht⟩ : ∃ z, x.t = z := ⟨_, rfl⟩
    obtain ⟨r, hr⟩ : ∃ z, x.r = z := ⟨_, rfl⟩
    obtain ⟨p, hp⟩ : ∃ z, x.p = z := ⟨_, rfl⟩
    rw [hk, ht, hr, hp] at HO
    rw [hk] at h0
    rw [ht] at h1
    rw [hr] at h2
    rw [hp] at h4
    rw [ht, hr] at INN
    clear hk ht hr hp HO
    have HZ := Lib.hid hbel.out.size
    go_wp2_with (at_builtin; refine wpList_append_enc (E := idE) Tryz.underlying51 id_info rfl (w0 := w) (wp := wr) (by rfl) (.tmp 11) (.tmp 17) (by rfl) (by rfl) hshr.out (G := wr.heap.size) (by rfl) rfl (c := #[.int .u32 (t : Int), .int .u8 (r : Int)]) INN.out HM.out (by omega) (by omega) HZ.out ?_)
    rintro v6 w6 s6 va vc rfl b6
    have S6 := Lib.hid s6
    rw [← FT.out] at S6
    have B6 := Lib.hid (hbel.out.trans b6)
    clear s6 b6 hshr
    go_wp2
    go_roundw
    case rel => exact ⟨j + 1, by omega, by go_num, ⟨va, vc, rfl⟩, S6, B6⟩
    case measure => simp [intOf]; omega

/-- A clock of the call's own, and an error. -/
def DoneC (c : List Clocks.Tm) (x : Int) (w : World) (e : Ending) (w' : World) : Prop := ∃ v, e = .returned (.tuple #[v, .int .i64 x]) ∧ OwnC w' w.heap.size v c ∧ Below w.heap.size w w'

end Go.Proofs.YtdackenaknieaaaGreat.Bags
