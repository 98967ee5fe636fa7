/- octavoref07.With: what it answers. Conditions: the slice's cells are spans that may be. -/
import Derived.Test.YtinglfhndlklaaaSpanWithout
import Derived.RegionTactic
namespace Go.Proofs.Ytinglfhndlklaaa.Spans
open Go.RowKit
attribute [local go_sem ↓] Go.wp_at_zero Go.wp_at_succ

/-- A row of the call's own above a box of two cells; nothing that was there has turned. -/
def Keep (H : Nat) (w : World) (f t : Nat) (o : Value) (l : List Sp) (wr : World) : Prop :=
  wr.ownsRow (H + 1) 63 2 o l.length (sps l) ∧ Below H w wr ∧ wr.heap[H]? = some (.cells #[.int .u32 (f : Int), .int .u32 (t : Int)] 63)
theorem Keep.lt {H f t : Nat} {w wr : World} {o : Value} {l : List Sp} (h : Keep H w f t o l wr) : H < wr.heap.size := (Array.getElem?_eq_some_iff.1 h.2.2).1
theorem Keep.draw {H f t : Nat} {w wr : World} {o : Value} {l : List Sp} (h : Keep H w f t o l wr) (q : Nat) : Keep H w f t o l (wr.drewN q) := ⟨h.1, below_draw h.2.1 q, h.2.2⟩
theorem Keep.next {H f t : Nat} {w wo X w1 : World} {v v1 : Value} {l : List Sp} {a : Sp} (hk : Keep H w f t v l wo) (hX : Below wo.heap.size wo X)
    (o1 : w1.ownsRow (H + 1) 63 2 v1 (l.length + 1) (sps l ++ sps [a])) (b1 : Below (H + 1) X w1) : Keep H w f t v1 (l ++ [a]) w1 := by
  have hlt := hk.lt
  refine ⟨?_, (hk.2.1.trans (hX.mono (by omega))).trans (b1.mono (Nat.le_succ _)), ?_⟩
  · rw [sps_append, List.length_append]; exact o1
  · exact (b1.block H (Nat.lt_succ_self _)).trans ((hX.block H hlt).trans hk.2.2)
theorem Keep.stay {H f t : Nat} {w wo X : World} {v : Value} {l : List Sp} (hk : Keep H w f t v l wo) (hX : Below wo.heap.size wo X) : Keep H w f t v l X := by
  have hlt := hk.lt
  exact ⟨own_stays hk.1 hX, hk.2.1.trans (hX.mono (by omega)), (hX.block H hlt).trans hk.2.2⟩
theorem own_set {w : World} {B H o n sz : Nat} {e : TypeId} {v d : Value} {cs : List Value} (h : w.ownsRow B e sz v n cs) (hH : H < B) : (w.setCell ⟨H, o, none⟩ d).ownsRow B e sz v n cs := by
  refine ⟨h.1, ?_⟩
  rcases h.2 with h0 | ⟨g, cap, cur, rfl, h1, hg, h2⟩
  · exact .inl h0
  · refine .inr ⟨g, cap, cur, rfl, h1, ?_, h2⟩
    rw [heap_setCell_other _ _ _ _ (show g ≠ H by omega)]
    exact hg
theorem Keep.drew {H f t : Nat} {w wr : World} {o : Value} {l : List Sp} (h : Keep H w f t o l wr) : Keep H w f t o l wr.drew := ⟨h.1, h.2.1.drew, h.2.2⟩
/-- The box stored anew. -/
theorem Keep.put {H f t : Nat} {w wr : World} {o : Value} {l : List Sp} (h : Keep H w f t o l wr) (f' t' : Nat) : Keep H w f' t' o l ((wr.setCell ⟨H, 0, none⟩ (.int .u32 (f' : Int))).setCell ⟨H, 1, none⟩ (.int .u32 (t' : Int))) := by
  refine ⟨own_set (own_set h.1 (Nat.lt_succ_self _)) (Nat.lt_succ_self _), (h.2.1.setCell (p := ⟨H, 0, none⟩) (Nat.le_refl _) _).setCell (p := ⟨H, 1, none⟩) (Nat.le_refl _) _, ?_⟩
  have h0 := heap_setCell_same wr H 0 _ _ (.int .u32 (f' : Int)) h.2.2
  have h1 := heap_setCell_same _ H 1 _ _ (.int .u32 (t' : Int)) h0
  exact h1

set_option maxRecDepth 100000 in
set_option maxHeartbeats 8000000 in
theorem with_any {v : Value} {l : List Sp} {x : Sp} {w : World} (hv : Sps w v l) (hf : Fine l) (hx : Ok x) (hl : l.length ≤ 5000) :
    Calls Try.prog 86 #[v, .agg #[.int .u32 (x.f : Int), .int .u32 (x.t : Int)]] w fun e w' => ∃ v', e = .returned v' ∧ w'.ownsRow w.heap.size 63 2 v' (ins l x).length (sps (ins l x)) ∧ Below w.heap.size w w' := by
  rw [← three_ins hf hx]
  obtain ⟨ao, cap, rfl⟩ := hv.shape
  obtain ⟨n, hn⟩ : ∃ n, n = l.length := ⟨_, rfl⟩
  have HV := Lib.hid hv
  have HN := Lib.hid hn
  have HF := Lib.hid hf
  obtain ⟨L1, hL1⟩ : ∃ L1, L1 = fun k => (l.take k).filter (fun y => decide (y.t + 1 < x.f)) := ⟨_, rfl⟩
  obtain ⟨M, hM⟩ : ∃ M, M = gat l x := ⟨_, rfl⟩
  obtain ⟨L3, hL3⟩ : ∃ L3, L3 = fun k => (l.take k).filter (fun y => decide (M.t + 1 < y.f)) := ⟨_, rfl⟩
  have l1s : ∀ k, k < l.length → L1 (k + 1) = L1 k ++ if (l.getD k zsp).t + 1 < x.f then [l.getD k zsp] else [] := by
    intro k hk
    rw [hL1]
    simp only
    rw [take_snoc l k hk, List.filter_append]
    congr 1
    by_cases h : (l.getD k zsp).t + 1 < x.f
    · rw [if_pos h, filter_all (by simpa using h)]
    · rw [if_neg h, filter_none (by simpa using h)]
  have l3s : ∀ k, k < l.length → L3 (k + 1) = L3 k ++ if M.t + 1 < (l.getD k zsp).f then [l.getD k zsp] else [] := by
    intro k hk
    rw [hL3]
    simp only
    rw [take_snoc l k hk, List.filter_append]
    congr 1
    by_cases h : M.t + 1 < (l.getD k zsp).f
    · rw [if_pos h, filter_all (by simpa using h)]
    · rw [if_neg h, filter_none (by simpa using h)]
  have l1n : ∀ k, (L1 k).length ≤ k := by intro k; rw [hL1]; exact Nat.le_trans (List.length_filter_le _ _) (List.length_take_le _ _)
  have l3n : ∀ k, (L3 k).length ≤ k := by intro k; rw [hL3]; exact Nat.le_trans (List.length_filter_le _ _) (List.length_take_le _ _)
  have hthree : three l x = L1 n ++ M :: L3 n := by
    unfold three
    rw [hL1, hL3, hn, hM]
    simp only [List.take_length]
  have HL1 := Lib.hid (And.intro l1s l1n)
  have HL3 := Lib.hid (And.intro l3s l3n)
  have HT := Lib.hid hthree
  have hMok : Ok M := by rw [hM]; exact gat_ok hf.all hx
  have HMok := Lib.hid hMok
  have HM := Lib.hid hM
  have l10 : L1 0 = [] := by rw [hL1]; rfl
  have l30 : L3 0 = [] := by rw [hL3]; rfl
  have HL0 := Lib.hid (And.intro l10 l30)
  clear hL1 hL3 l1s l3s l1n l3n hthree hMok hM l10 l30
  rw [HT.out]
  obtain ⟨f, t, hfb, htb⟩ := x
  have hx2 := hx
  unfold Ok at hx2
  simp only at hx2
  obtain ⟨x1, x2, x3⟩ := hx2
  have HX := Lib.hid hx
  simp only
  rw [← hn] at hl ⊢
  have K0 : Hid (Keep w.heap.size w f t (.slice none 0 0) (L1 0) (w.alloc (.cells #[.int .u32 (f : Int), .int .u32 (t : Int)] 63))) := by
    rw [HL0.out.1]
    exact ⟨World.ownsRow_nil _ _ _ _, (Below.refl _ _).alloc (Nat.le_refl _) _, heap_alloc_new w _⟩
  clear hv hn hf hx
  go_enter Try.func86, Try.ntmps86
  go_wp2
  go_loopw [5, 6] (fun o i wr => ∃ k : Nat, k ≤ n ∧ i = .int .i64 (k : Int) ∧ Hid (Keep w.heap.size w f t o (L1 k) wr)) (fun _ i _ => n - (intOf i).toNat)
  case atStart => exact ⟨0, by omega, rfl, K0⟩
  case round =>
    obtain ⟨k, hk, rfl, hkp⟩ := hrel
    obtain ⟨wo, rfl⟩ : ∃ wo : World, wo = wr := ⟨_, rfl⟩
    obtain ⟨c0, c1⟩ := two_blk hkp.out.2.2
    have hlt := hkp.out.lt
    by_cases hkn : k < n
    · have q1 : decide (k < n) = true := by simpa using hkn
      obtain ⟨b, off, rfl, hb, hx0, hx1⟩ := (HV.out.keeps hkp.out.2.1).at k (by rw [← HN.out]; exact hkn)
      have hok := fine_ok HF.out (k := k) (by rw [← HN.out]; exact hkn)
      have hls := HL1.out.1 k (by rw [← HN.out]; exact hkn)
      have hln := HL1.out.2 k
      obtain ⟨y, hy⟩ : ∃ y, y = l.getD k zsp := ⟨_, rfl⟩
      rw [← hy] at hx0 hx1 hok hls
      obtain ⟨D, hD⟩ : ∃ D, D = L1 k := ⟨_, rfl⟩
      rw [← hD] at hkp hls hln
      obtain ⟨yf, yt, hyf, hyt⟩ := y
      unfold Ok at hok
      simp only at hx0 hx1 hok hls
      obtain ⟨o1, o2, o3⟩ := hok
      have HLS := Lib.hid hls
      have eT : IntKind.u32.wrap ((yt : Int) + 1) = (yt : Int) + 1 := by rw [IntKind.wrap_u32]; omega
      have q2 : (0 : Int) ≤ (k : Int) := by omega
      have q3 : (k : Int) < (n : Int) := by omega
      clear hy hls hD o1
      by_cases h1 : yt + 1 < f
      · have s1 : decide ((yt : Int) + 1 < (f : Int)) = true := decide_eq_true (by omega)
        have HR : Hid (L1 (k + 1) = D ++ [⟨yf, yt, hyf, hyt⟩]) := by have := HLS.out; rwa [if_pos h1] at this
        go_wp2
        go_quiet (fail)
        go_wp2_with (at_builtin; refine wpList_append_sees rfl (.tmp 24) (.tmp 29) 26 63 rfl Try.underlying26 span_info rfl (by decide) (w.heap.size + 1) _ D.length (sps D) rfl (own_stays hkp.out.1 ((below_draw (Below.refl _ _) _).alloc (Nat.le_refl _) _)) _ 1 _ rfl (sees_sp (a := ⟨yf, yt, hyf, hyt⟩) (kb_new rfl) rfl rfl) (sps_oneCell _) ?a1 ?a2 ?a3 ?_)
        case a1 => omega
        case a2 => omega
        case a3 => simp; omega
        rintro v5 w5 o5 g5 b5
        have K5 := Lib.hid (hkp.out.next ((below_draw (Below.refl _ _) _).alloc (Nat.le_refl _) _) o5 b5)
        clear o5 g5 b5
        go_wp2
        go_roundw
        case rel => exact ⟨k + 1, by omega, by go_num, Lib.hid (by rw [HR.out]; exact K5.out)⟩
        case measure => simp [intOf]; omega
      · have s1 : decide ((yt : Int) + 1 < (f : Int)) = false := decide_eq_false (by omega)
        have HR : Hid (L1 (k + 1) = D) := by have := HLS.out; rwa [if_neg h1, List.append_nil] at this
        go_wp2
        go_quiet (fail)
        go_wp2
        go_roundw
        case rel => exact ⟨k + 1, by omega, by go_num, Lib.hid (by rw [HR.out]; exact hkp.out.draw _)⟩
        case measure => simp [intOf]; omega
    · have q1 : decide (k < n) = false := by simpa using hkn
      obtain rfl : k = n := by omega
      have HB := Lib.hid hkp.out
      obtain ⟨v1, hv1⟩ : ∃ v1, v1 = u5 := ⟨_, rfl⟩
      clear c0 c1 hlt hkn
      go_wp2
      rw [← hv1] at hkp ⊢
      clear hv1
      go_loopw [7] (fun i wr => ∃ (j : Nat) (g : Sp), j ≤ k ∧ i = .int .i64 (j : Int) ∧ Hid (g = gat (l.take j) ⟨f, t, hfb, htb⟩) ∧ Hid (Keep w.heap.size w g.f g.t v1 (L1 k) wr)) (fun i _ => k - (intOf i).toNat)
      case atStart => exact ⟨0, ⟨f, t, hfb, htb⟩, by omega, rfl, Lib.hid rfl, hkp⟩
      case round =>
        obtain ⟨j, g, hj, rfl, hg, hkp2⟩ := hrel
        obtain ⟨w2, rfl⟩ : ∃ w2 : World, w2 = wr := ⟨_, rfl⟩
        obtain ⟨c0, c1⟩ := two_blk hkp2.out.2.2
        obtain ⟨c2, c3⟩ := two_free hkp2.out.2.2
        have hlt := hkp2.out.lt
        by_cases hjk : j < k
        · have p1 : decide (j < k) = true := by simpa using hjk
          obtain ⟨b, off, rfl, hb, hx0, hx1⟩ := (HV.out.keeps hkp2.out.2.1).at j (by rw [← HN.out]; exact hjk)
          have hok := fine_ok HF.out (k := j) (by rw [← HN.out]; exact hjk)
          have hgok : Ok g := by rw [hg.out]; exact gat_ok (fun y hy => HF.out.all y (List.mem_of_mem_take hy)) HX.out
          have hgs := gat_snoc (l.take j) ⟨f, t, hfb, htb⟩ (l.getD j zsp)
          rw [← take_snoc l j (by rw [← HN.out]; exact hjk), ← hg.out] at hgs
          obtain ⟨y, hy⟩ : ∃ y, y = l.getD j zsp := ⟨_, rfl⟩
          rw [← hy] at hx0 hx1 hok hgs
          have HGS := Lib.hid hgs
          obtain ⟨yf, yt, hyf, hyt⟩ := y
          obtain ⟨gf, gt, hgf, hgt⟩ := g
          unfold Ok at hok hgok
          simp only at hx0 hx1 hok hgok HGS c0 c1 hkp2
          obtain ⟨o1, o2, o3⟩ := hok
          obtain ⟨o4, o5, o6⟩ := hgok
          have eT : IntKind.u32.wrap ((yt : Int) + 1) = (yt : Int) + 1 := by rw [IntKind.wrap_u32]; omega
          have eG : IntKind.u32.wrap ((gt : Int) + 1) = (gt : Int) + 1 := by rw [IntKind.wrap_u32]; omega
          have q2 : (0 : Int) ≤ (j : Int) := by omega
          have q3 : (j : Int) < (k : Int) := by omega
          have hneb : ¬ b = w.heap.size := by have := (HV.out.at j (by rw [← HN.out]; exact hjk)); obtain ⟨b', _, he, hb', _⟩ := this; cases he; omega
          have hneb' : ¬ w.heap.size = b := fun e => hneb e.symm
          clear hy hgs hg
          by_cases h1 : gf ≤ yt + 1
          · have s1 : decide ((gf : Int) ≤ (yt : Int) + 1) = true := decide_eq_true (by omega)
            by_cases h2 : yf ≤ gt + 1
            · have s2 : decide ((yf : Int) ≤ (gt : Int) + 1) = true := decide_eq_true (by omega)
              have HG2 : Hid (mrg ⟨yf, yt, hyf, hyt⟩ ⟨gf, gt, hgf, hgt⟩ = gat (l.take (j + 1)) ⟨f, t, hfb, htb⟩) := by have := HGS.out; rw [if_pos ⟨h1, h2⟩] at this; exact this.symm
              obtain ⟨mf, hmf⟩ : ∃ mf, mf = min gf yf := ⟨_, rfl⟩
              obtain ⟨mt, hmt⟩ : ∃ mt, mt = max gt yt := ⟨_, rfl⟩
              have hmr : (mrg ⟨yf, yt, hyf, hyt⟩ ⟨gf, gt, hgf, hgt⟩).f = mf ∧ (mrg ⟨yf, yt, hyf, hyt⟩ ⟨gf, gt, hgf, hgt⟩).t = mt := ⟨hmf.symm, hmt.symm⟩
              have HMR := Lib.hid hmr
              clear hmr
              by_cases h3 : yf < gf
              · have s3 : decide (yf < gf) = true := decide_eq_true h3
                have s3' : ¬ gf ≤ yf := by omega
                obtain rfl : mf = yf := by omega
                by_cases h4 : gt < yt
                · have s4 : decide (gt < yt) = true := decide_eq_true h4
                  have s4' : ¬ yt ≤ gt := by omega
                  obtain rfl : mt = yt := by omega
                  clear hmf hmt
                  go_wp2
                  go_quiet (fail)
                  go_wp2
                  go_region
                  all_goals
                    go_wp2
                    go_region
                  all_goals
                    go_wp2
                    go_roundw
                    case rel => exact ⟨j + 1, _, by omega, by go_num, Lib.hid HG2.out, Lib.hid (by rw [HMR.out.1, HMR.out.2]; exact ((hkp2.out.draw _).put _ _).drew)⟩
                    case measure => simp [intOf]; omega
                · have s4 : decide (gt < yt) = false := decide_eq_false h4
                  have s4' : yt ≤ gt := by omega
                  obtain rfl : mt = gt := by omega
                  clear hmf hmt
                  go_wp2
                  go_quiet (fail)
                  go_wp2
                  go_region
                  all_goals
                    go_wp2
                    go_region
                  all_goals
                    go_wp2
                    go_roundw
                    case rel => exact ⟨j + 1, _, by omega, by go_num, Lib.hid HG2.out, Lib.hid (by rw [HMR.out.1, HMR.out.2]; exact ((hkp2.out.draw _).put _ _).drew)⟩
                    case measure => simp [intOf]; omega
              · have s3 : decide (yf < gf) = false := decide_eq_false h3
                have s3' : gf ≤ yf := by omega
                obtain rfl : mf = gf := by omega
                by_cases h4 : gt < yt
                · have s4 : decide (gt < yt) = true := decide_eq_true h4
                  have s4' : ¬ yt ≤ gt := by omega
                  obtain rfl : mt = yt := by omega
                  clear hmf hmt
                  go_wp2
                  go_quiet (fail)
                  go_wp2
                  go_region
                  all_goals
                    go_wp2
                    go_region
                  all_goals
                    go_wp2
                    go_roundw
                    case rel => exact ⟨j + 1, _, by omega, by go_num, Lib.hid HG2.out, Lib.hid (by rw [HMR.out.1, HMR.out.2]; exact ((hkp2.out.draw _).put _ _).drew)⟩
                    case measure => simp [intOf]; omega
                · have s4 : decide (gt < yt) = false := decide_eq_false h4
                  have s4' : yt ≤ gt := by omega
                  obtain rfl : mt = gt := by omega
                  clear hmf hmt
                  go_wp2
                  go_quiet (fail)
                  go_wp2
                  go_region
                  all_goals
                    go_wp2
                    go_region
                  all_goals
                    go_wp2
                    go_roundw
                    case rel => exact ⟨j + 1, _, by omega, by go_num, Lib.hid HG2.out, Lib.hid (by rw [HMR.out.1, HMR.out.2]; exact ((hkp2.out.draw _).put _ _).drew)⟩
                    case measure => simp [intOf]; omega
            · have s2 : decide ((yf : Int) ≤ (gt : Int) + 1) = false := decide_eq_false (by omega)
              have HG2 : Hid (⟨gf, gt, hgf, hgt⟩ = gat (l.take (j + 1)) ⟨f, t, hfb, htb⟩) := by have := HGS.out; rw [if_neg (by omega)] at this; exact this.symm
              go_wp2
              go_quiet (fail)
              go_wp2
              go_roundw
              case rel => exact ⟨j + 1, _, by omega, by go_num, Lib.hid HG2.out, Lib.hid (hkp2.out.draw _)⟩
              case measure => simp [intOf]; omega
          · have s1 : decide ((gf : Int) ≤ (yt : Int) + 1) = false := decide_eq_false (by omega)
            have HG2 : Hid (⟨gf, gt, hgf, hgt⟩ = gat (l.take (j + 1)) ⟨f, t, hfb, htb⟩) := by have := HGS.out; rw [if_neg (by omega)] at this; exact this.symm
            go_wp2
            go_quiet (fail)
            go_wp2
            go_roundw
            case rel => exact ⟨j + 1, _, by omega, by go_num, Lib.hid HG2.out, Lib.hid (hkp2.out.draw _)⟩
            case measure => simp [intOf]; omega
        · have p1 : decide (j < k) = false := by simpa using hjk
          have hgM : g = M := by
            rw [hg.out, HM.out, show j = k by omega, HN.out, List.take_length]
          subst hgM
          have hMok := HMok.out
          have HMB := Lib.hid hMok
          obtain ⟨gf, gt, hgf, hgt⟩ := g
          unfold Ok at hMok
          simp only at hMok c0 c1 hkp2
          obtain ⟨o4, o5, o6⟩ := hMok
          have hln := HL1.out.2 k
          obtain ⟨D, hD⟩ : ∃ D, D = L1 k := ⟨_, rfl⟩
          have HD := Lib.hid hD
          rw [← hD] at hkp2 hln
          clear hg hD c2 c3
          go_wp2_with (at_builtin; refine wpList_append_sees rfl (.tmp 75) (.tmp 77) 26 63 rfl Try.underlying26 span_info rfl (by decide) (w.heap.size + 1) _ D.length (sps D) rfl (own_stays hkp2.out.1 ((Below.refl _ _).alloc (Nat.le_refl _) _)) _ 1 _ rfl (sees_sp (a := ⟨gf, gt, hgf, hgt⟩) (kb_new rfl) rfl rfl) (sps_oneCell _) ?b1 ?b2 ?b3 ?_)
          case b1 => omega
          case b2 => omega
          case b3 => first | omega | (simp; omega)
          rintro v5 w5 o5 g5 b5
          have K5 := Lib.hid (hkp2.out.next ((Below.refl _ _).alloc (Nat.le_refl _) _) o5 b5)
          clear o5 g5 b5 c0 c1
          have K6 : Hid (Keep w.heap.size w gf gt v5 (L1 k ++ ⟨gf, gt, hgf, hgt⟩ :: L3 0) w5) := by
            rw [HL0.out.2, ← HD.out]; exact K5.out
          go_wp2
          go_loopw [5, 8] (fun o i wr => ∃ j : Nat, j ≤ k ∧ i = .int .i64 (j : Int) ∧ Hid (Keep w.heap.size w gf gt o (L1 k ++ ⟨gf, gt, hgf, hgt⟩ :: L3 j) wr)) (fun _ i _ => k - (intOf i).toNat)
          case atStart => exact ⟨0, by omega, rfl, K6⟩
          case round =>
            obtain ⟨i, hi, rfl, hkp3⟩ := hrel
            obtain ⟨w3, rfl⟩ : ∃ w3 : World, w3 = wr := ⟨_, rfl⟩
            obtain ⟨c0, c1⟩ := two_blk hkp3.out.2.2
            have hlt3 := hkp3.out.lt
            by_cases hik : i < k
            · have r1 : decide (i < k) = true := by simpa using hik
              obtain ⟨b, off, rfl, hb, hx0, hx1⟩ := (HV.out.keeps hkp3.out.2.1).at i (by rw [← HN.out]; exact hik)
              have hok := fine_ok HF.out (k := i) (by rw [← HN.out]; exact hik)
              have hls := HL3.out.1 i (by rw [← HN.out]; exact hik)
              have hln3 := HL3.out.2 i
              obtain ⟨y, hy⟩ : ∃ y, y = l.getD i zsp := ⟨_, rfl⟩
              rw [← hy] at hx0 hx1 hok hls
              obtain ⟨E, hE⟩ : ∃ E, E = L1 k ++ (⟨gf, gt, hgf, hgt⟩ : Sp) :: L3 i := ⟨_, rfl⟩
              have hlen : E.length ≤ 2 * k + 1 := by rw [hE, List.length_append, List.length_cons, ← HD.out]; omega
              have hE2 : L1 k ++ (⟨gf, gt, hgf, hgt⟩ : Sp) :: L3 (i + 1) = E ++ if gt + 1 < y.f then [y] else [] := by
                rw [hls, hE, List.append_assoc, List.cons_append]
              rw [← hE] at hkp3
              obtain ⟨yf, yt, hyf, hyt⟩ := y
              unfold Ok at hok
              simp only at hx0 hx1 hok hE2
              obtain ⟨o1, o2, o3⟩ := hok
              have HE2 := Lib.hid hE2
              have eG : IntKind.u32.wrap ((gt : Int) + 1) = (gt : Int) + 1 := by rw [IntKind.wrap_u32]; omega
              have q2 : (0 : Int) ≤ (i : Int) := by omega
              have q3 : (i : Int) < (k : Int) := by omega
              clear hy hls hE hE2
              by_cases h1 : gt + 1 < yf
              · have s1 : decide ((gt : Int) + 1 < (yf : Int)) = true := decide_eq_true (by omega)
                have HR : Hid (L1 k ++ (⟨gf, gt, hgf, hgt⟩ : Sp) :: L3 (i + 1) = E ++ [⟨yf, yt, hyf, hyt⟩]) := by have := HE2.out; rwa [if_pos h1] at this
                go_wp2
                go_quiet (fail)
                go_wp2_with (at_builtin; refine wpList_append_sees rfl (.tmp 94) (.tmp 99) 26 63 rfl Try.underlying26 span_info rfl (by decide) (w.heap.size + 1) _ E.length (sps E) rfl (own_stays hkp3.out.1 ((below_draw (Below.refl _ _) _).alloc (Nat.le_refl _) _)) _ 1 _ rfl (sees_sp (a := ⟨yf, yt, hyf, hyt⟩) (kb_new rfl) rfl rfl) (sps_oneCell _) ?d1 ?d2 ?d3 ?_)
                case d1 => omega
                case d2 => omega
                case d3 => simp; omega
                rintro v7 w7 o7 g7 b7
                have K7 := Lib.hid (hkp3.out.next ((below_draw (Below.refl _ _) _).alloc (Nat.le_refl _) _) o7 b7)
                clear o7 g7 b7
                go_wp2
                go_roundw
                case rel => exact ⟨i + 1, by omega, by go_num, Lib.hid (by rw [HR.out]; exact K7.out)⟩
                case measure => simp [intOf]; omega
              · have s1 : decide ((gt : Int) + 1 < (yf : Int)) = false := decide_eq_false (by omega)
                have HR : Hid (L1 k ++ (⟨gf, gt, hgf, hgt⟩ : Sp) :: L3 (i + 1) = E) := by have := HE2.out; rwa [if_neg h1, List.append_nil] at this
                go_wp2
                go_quiet (fail)
                go_wp2
                go_roundw
                case rel => exact ⟨i + 1, by omega, by go_num, Lib.hid (by rw [HR.out]; exact hkp3.out.draw _)⟩
                case measure => simp [intOf]; omega
            · have r1 : decide (i < k) = false := by simpa using hik
              obtain rfl : i = k := by omega
              have KF := Lib.hid hkp3.out
              clear c0 c1 hlt3 hkp3
              go_wp2
              go_ret
              exact ⟨_, rfl, own_base KF.out.1 (Nat.le_succ _), KF.out.2.1⟩
end Go.Proofs.Ytinglfhndlklaaa.Spans
