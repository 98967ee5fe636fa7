/- octavo/clock: byReplica and told: what each answers. Conditions: the clock may be; the function that is told answers spans of its own. -/
import Derived.Test.YtinglfhndlklaaaClockCode1
import Derived.Test.YtinglfhndlklaaaMapV
namespace Go.Proofs.Ytinglfhndlklaaa.Clocks
open Go.RowKit Go.Proofs.Ytinglfhndlklaaa.Spans
attribute [local go_sem ↓] Go.wp_at_zero Go.wp_at_succ

theorem spn_snoc : ∀ {c : List Tm} {x : Tm} {lo : Nat}, Up lo (c ++ [x]) → ∀ r, spn (c ++ [x]) r = if x.1 = r then x.2 else spn c r
  | [], x, _, _, r => rfl
  | y :: c, x, lo, h, r => by
    have h2 : Up (y.1 + 1) (c ++ [x]) := by
      unfold Up at h
      exact h.2.2.2.2
    have ih := spn_snoc h2 r
    have hx := (up_all h2 x (by simp)).1
    show (if y.1 = r then y.2 else spn (c ++ [x]) r) = if x.1 = r then x.2 else (if y.1 = r then y.2 else spn c r)
    rw [ih]
    by_cases h3 : y.1 = r
    · rw [if_pos h3, if_neg (by omega), if_pos h3]
    · rw [if_neg h3, if_neg h3]

set_option maxRecDepth 100000 in
set_option maxHeartbeats 4000000 in
theorem byRep_any {v : Value} {c : List Tm} {w : World} (hv : Tms w v c) (hc : Cok c) :
    Calls Try.prog 65 #[v] w fun e w' => ∃ (b n : Nat) (M : Nat → Option Value), e = .returned (.map (some b)) ∧ w.heap.size ≤ b ∧ MapV w' b n M ∧ (∀ r : Nat, r < 256 → Sps w ((M r).getD (.slice none 0 0)) (spn c r)) ∧ Below w.heap.size w w' := by
  obtain ⟨ao, cap, rfl⟩ := hv.shape
  obtain ⟨n, hn⟩ : ∃ n, n = c.length := ⟨_, rfl⟩
  have hm : n ≤ 9223372036854775807 := by rw [hn]; exact Tms.max hv
  have HV := Lib.hid hv
  have HN := Lib.hid hn
  have HC := Lib.hid hc
  rw [← hn]
  clear hv hn hc
  have hmm := @run_makeMap Try.prog
  have M0 := Lib.hid (MapV.made w)
  have B0 := Lib.hid ((Below.refl w.heap.size w).alloc (Nat.le_refl _) (.map #[] 0))
  have S0 : Hid (∀ r : Nat, r < 256 → Sps w (((fun _ => none : Nat → Option Value) r).getD (.slice none 0 0)) (spn (c.take 0) r)) := fun r _ => by
    rw [List.take_zero]
    exact Sees.nil w 2
  go_enter Try.func65, Try.ntmps65
  go_wp2
  go_loopw [9] (fun i wr => ∃ (k : Nat) (M : Nat → Option Value), k ≤ n ∧ i = .int .i64 (k : Int) ∧ Hid (MapV wr w.heap.size k M) ∧ Hid (∀ r : Nat, r < 256 → Sps w ((M r).getD (.slice none 0 0)) (spn (c.take k) r)) ∧ Hid (Below w.heap.size w wr)) (fun i _ => n - (intOf i).toNat)
  case atStart => exact ⟨0, _, by omega, rfl, M0, S0, B0⟩
  case round =>
    clear M0 S0 B0
    obtain ⟨k, M, hk, rfl, hM, hS, hbel⟩ := hrel
    by_cases hkn : k < n
    · have q1 : decide (k < n) = true := by simpa using hkn
      have q2 : (0 : Int) ≤ (k : Int) := by omega
      have q3 : (k : Int) < (n : Int) := by omega
      have hkl : k < c.length := by rw [← HN.out]; exact hkn
      obtain ⟨b1, o1, u, rfl, hb1, ha0, ha1, hr256, hsp⟩ := HV.out.at k hkl
      have ha0 := (hbel.out.cell (p := ⟨b1, o1 + k * 2, none⟩) hb1).trans ha0
      have ha1 := (hbel.out.cell (p := ⟨b1, o1 + k * 2 + 1, none⟩) hb1).trans ha1
      obtain ⟨x, hx⟩ : ∃ x, x = c.getD k ztm := ⟨_, rfl⟩
      have hx' : c.getD k (0, []) = x := hx.symm
      rw [hx'] at ha0 hr256 hsp
      have hs := tm_take_snoc c k hkl
      have hup := up_take HC.out (k + 1)
      rw [hs] at hup
      have hsn := spn_snoc hup
      rw [← hs, ← hx] at hsn
      obtain ⟨xr, xs⟩ := x
      simp only at ha0 hr256 hsp hsn
      obtain ⟨so, sc, rfl⟩ := hsp.shape
      obtain ⟨sl, hsl⟩ : ∃ sl, sl = xs.length := ⟨_, rfl⟩
      rw [← hsl] at ha1 hsp
      have HS2 : Hid (∀ r : Nat, r < 256 → Sps w (((fun j => if j = xr then some (.slice so sl sc) else M j) r).getD (.slice none 0 0)) (spn (c.take (k + 1)) r)) := fun r hr => by
        rw [hsn r]
        by_cases h : r = xr
        · subst h
          simp only [if_true, Option.getD_some]
          exact hsp
        · rw [if_neg (fun e : xr = r => h e.symm)]
          simp only [if_neg h]
          exact hS.out r hr
      obtain ⟨wo, rfl⟩ : ∃ wo : World, wo = wr := ⟨_, rfl⟩
      have MA : Hid (∀ o : Obj, MapV (wo.alloc o) w.heap.size k M) := fun o => hM.out.keeps ((Below.refl _ _).alloc (Nat.le_refl _) o)
      have BA : Hid (∀ o : Obj, Below w.heap.size w (wo.alloc o)) := fun o => hbel.out.alloc hbel.out.size o
      have hkm : k < 9223372036854775807 := by omega
      clear hx hx' hs hup hsn hsp hsl hS
      go_wp2_with (first | (at_mapUpdate; refine wpList_update_v _ rfl _ _ _ 86 26 rfl Try.underlying86 w.heap.size k xr M (MA.out _) hkm rfl rfl hr256 _ rfl ?_) | go_in)
      intro w1 m1 g1
      have B1 : Hid (Below w.heap.size w w1) := (BA.out _).grown g1 (BA.out _).size (fun j e => by cases e; exact Nat.le_refl _)
      have M1 := Lib.hid m1
      clear m1 g1
      go_wp2
      go_roundw
      case rel => exact ⟨k + 1, _, by omega, by go_num, M1, HS2, B1⟩
      case measure => simp [intOf]; omega
    · have q1 : decide (k < n) = false := by simpa using hkn
      have hkk : c.take k = c := List.take_of_length_le (by have := HN.out; omega)
      rw [hkk] at hS
      clear hkk
      go_wp2
      go_ret
      exact ⟨_, _, _, rfl, Nat.le_refl _, hM.out, hS.out, hbel.out⟩

/-! ### told -/
/-- What lies below B stays, and what has come from H on. -/
def Apart (B H : Nat) (w w' : World) : Prop := Below B w w' ∧ ∀ j, H ≤ j → j < w.heap.size → w'.heap[j]? = w.heap[j]?
theorem Apart.of {B H : Nat} {w w' : World} (h : Below w.heap.size w w') (hB : B ≤ w.heap.size) : Apart B H w w' := ⟨h.mono hB, fun j _ hj => h.block j hj⟩
theorem own_apart {B H sz n : Nat} {w w' : World} {e : TypeId} {v : Value} {cs : List Value} (h : w.ownsRow H e sz v n cs) (ha : Apart B H w w') : w'.ownsRow H e sz v n cs := by
  refine ⟨h.1, ?_⟩
  rcases h.2 with h0 | ⟨g, cap, cur, rfl, h1, hg, h2⟩
  · exact .inl h0
  · exact .inr ⟨g, cap, cur, rfl, h1, (ha.2 g h1 (Array.getElem?_eq_some_iff.1 hg).1).trans hg, h2⟩
theorem holdO_apart {B H : Nat} {w w' : World} (ha : Apart B H w w') : ∀ {cs : List Value} {c : List Tm}, HoldO w H cs c → HoldO w' H cs c
  | [], [], _ => trivial
  | _ :: _ :: _, _ :: _, h => ⟨h.1, h.2.1, own_apart h.2.2.1 ha, holdO_apart ha h.2.2.2⟩
theorem ownC_apart {B H : Nat} {w w' : World} {v : Value} {c : List Tm} (h : OwnC w H v c) (ha : Apart B H w w') : OwnC w' H v c := by
  obtain ⟨cs, h1, h2⟩ := h
  exact ⟨cs, own_apart h1 ha, holdO_apart ha h2⟩

set_option maxRecDepth 100000 in
set_option maxHeartbeats 4000000 in
theorem told_any {gf : Nat} {lb : Array Value} (eg : ∀ args w, (callFunc gf args).run Try.prog w = .ok (.enter gf args) w) {B : Nat} {w : World} (g : Nat → List Sp) (St : Nat → World → Prop) (h0 : St 0 w) (hB : B ≤ w.heap.size)
    (hst : ∀ k W W', St k W → w.heap.size ≤ W.heap.size → Below w.heap.size W W' → St k W')
    (hcall : ∀ (k : Nat) (W : World), k < 8 → w.heap.size ≤ W.heap.size → St k W → Calls Try.prog gf (#[.int .u8 (k : Int)] ++ lb) W fun e w' => ∃ v', e = .returned (.tuple #[v', .int .i64 0]) ∧
      w'.ownsRow W.heap.size 63 2 v' (g k).length (sps (g k)) ∧ Apart B w.heap.size W w' ∧ St (k + 1) w') :
    Calls Try.prog 42 #[.func (.func gf) #[] lb] w fun e w' => ∃ v', e = .returned (.tuple #[v', .int .i64 0]) ∧ OwnC w' w.heap.size v' (clkFrom g 0 8) ∧ Below B w w' := by
  have H0 := Lib.hid h0
  have HST := Lib.hid hst
  have HCA := Lib.hid hcall
  clear h0 hst hcall
  have O0 : Hid (OwnC w w.heap.size (.slice none 0 0) (clkFrom g 0 0)) := OwnC.nil _ _
  have B0 := Lib.hid (Below.refl B w)
  go_enter Try.func42, Try.ntmps42
  go_wp2
  go_loopw [4, 8] (fun o i wr => ∃ k : Nat, k ≤ 8 ∧ i = .int .u8 (k : Int) ∧ Hid (OwnC wr w.heap.size o (clkFrom g 0 k)) ∧ Hid (St k wr) ∧ Hid (Below B w wr)) (fun _ i _ => 8 - (intOf i).toNat)
  case atStart => exact ⟨0, by omega, rfl, O0, H0, B0⟩
  case round =>
    clear O0 H0 B0
    obtain ⟨k, hk, rfl, hown, hs, hbel⟩ := hrel
    by_cases hk8 : k < 8
    · have q1 : decide ((k : Int) < 8) = true := decide_eq_true (by omega)
      have q2 : decide (k < 8) = true := decide_eq_true hk8
      have hsz := hbel.out.size
      have CA := Lib.hid (HCA.out k wr hk8 hsz hs.out)
      have hln := clkFrom_len g k 0
      have hsn := clkFrom_snoc g k 0
      rw [Nat.zero_add] at hsn
      have HSN : Hid (clkFrom g 0 (k + 1) = putC (clkFrom g 0 k) k (g k)) := hsn
      have e1 : IntKind.u8.wrap ((k : Int) + 1) = (k : Int) + 1 := by rw [IntKind.wrap_u8]; omega
      have HLN := Lib.hid hln
      clear hsn hln hs
      go_wp2_with fail
      refine CA.out.mono ?_
      rintro e w1 ⟨v1, rfl, o1, a1, s1⟩
      have hsz1 : w.heap.size ≤ w1.heap.size := Nat.le_trans hsz a1.1.size
      have OC := Lib.hid (ownC_apart hown.out a1)
      have O1 := Lib.hid (own_base o1 hsz)
      have B1 := Lib.hid (hbel.out.trans a1.1)
      have S1 := Lib.hid s1
      clear o1 a1 s1 CA hown
      obtain ⟨l, hl⟩ : ∃ l, l = g k := ⟨_, rfl⟩
      rw [← hl] at O1 HSN
      clear hl
      obtain ⟨c, hc⟩ : ∃ c, c = clkFrom g 0 k := ⟨_, rfl⟩
      rw [← hc] at OC HSN HLN
      clear hc
      obtain ⟨m, hm⟩ : ∃ m, m = l.length := ⟨_, rfl⟩
      have HM := Lib.hid hm
      rw [← hm] at O1
      obtain ⟨cs, hv1, hv2⟩ := OC.out
      obtain ⟨ao, cap, rfl⟩ := Sees.shape (Sees.own hv1)
      obtain ⟨so, sc, rfl⟩ := Sees.shape (Sees.own O1.out)
      obtain ⟨n, hn⟩ : ∃ n, n = c.length := ⟨_, rfl⟩
      have HN := Lib.hid hn
      rw [← hn] at hv1 HLN ⊢
      have hln : n ≤ 8 := by have := HLN.out; omega
      have HV1 := Lib.hid hv1
      have HV2 := Lib.hid hv2
      clear hv1 hv2 HLN
      by_cases hm0 : m = 0
      · have hl0 : l = [] := List.length_eq_zero_iff.1 (by omega)
        have e : putC c k l = c := by unfold putC; rw [if_pos hl0, List.append_nil]
        rw [e] at HSN
        have O2 : Hid (OwnC w1 w.heap.size (.slice ao n cap) (clkFrom g 0 (k + 1))) := by show OwnC _ _ _ _; rw [HSN.out]; exact ⟨cs, by rw [← HN.out]; exact HV1.out, HV2.out⟩
        have t1 : decide ((0 : Int) < (m : Int)) = false := decide_eq_false (by omega)
        have t2 : decide (0 < m) = false := decide_eq_false (by omega)
        clear hm hn e hl0 OC
        go_wp2
        go_roundw
        case rel => exact ⟨k + 1, by omega, by go_num, O2, S1, B1⟩
        case measure => simp [intOf]; omega
      · have hl0 : l ≠ [] := fun h => hm0 (by rw [hm, h]; rfl)
        have t1 : decide ((0 : Int) < (m : Int)) = true := decide_eq_true (by omega)
        have t2 : decide (0 < m) = true := decide_eq_true (by omega)
        have e : putC c k l = c ++ [(k, l)] := by unfold putC; rw [if_neg hl0]
        rw [e] at HSN
        have hlen : (c ++ [(k, l)]).length = n + 1 := by simp [hn]
        have HLEN := Lib.hid hlen
        have SE : Hid (Sees (w1.alloc (.cells #[.int .u8 (k : Int), .slice so m sc] 28)) (.slice (some ⟨w1.heap.size, 0, none⟩) 1 1) 2 1 [.int .u8 (k : Int), .slice so m sc]) := sees_new w1 [.int .u8 (k : Int), .slice so m sc] 2 1 rfl (by omega) _ _
        have BX := Lib.hid ((Below.refl w1.heap.size w1).alloc (Nat.le_refl _) (.cells #[.int .u8 (k : Int), .slice so m sc] 28))
        clear hm hn e hl0 hlen OC
        go_wp2_with (at_builtin; go_loud (refine wpList_append_sees rfl (.tmp 23) (.tmp 27) 22 28 rfl Try.underlying22 times_info rfl (by decide) w.heap.size _ n cs rfl (own_stays HV1.out BX.out) _ 1 _ rfl SE.out (by intro z hz; simp at hz; rcases hz with rfl | rfl <;> rfl) ?a1 ?a2 ?a3 ?_))
        case a1 => omega
        case a2 => omega
        case a3 => exact Nat.le_trans hsz1 BX.out.size
        rintro v5 w5 o5 g5 b5
        have OW : Hid (OwnC w5 w.heap.size v5 (clkFrom g 0 (k + 1))) := by
          show OwnC _ _ _ _
          rw [HSN.out]
          have hx := own_stays HV1.out BX.out
          refine ⟨cs ++ [.int .u8 (k : Int), .slice so m sc], by rw [HLEN.out]; exact o5, HoldO.append (hold_grown (HV2.out.keeps BX.out) g5 (times_row hx)) ⟨rfl, by show k < 256; omega, ?_, trivial⟩⟩
          have := own_kept_span (own_stays O1.out BX.out) hx g5
          rw [HM.out] at this
          rw [HM.out]
          exact this
        have BH : Below w.heap.size w1 w5 := (BX.out.mono hsz1).trans b5
        have BB := Lib.hid (B1.out.trans (BH.mono hB))
        have SS := Lib.hid (HST.out _ _ _ S1.out hsz1 BH)
        obtain ⟨a5, c5, rfl⟩ : ∃ ao cap, v5 = .slice ao (n + 1) cap := Sees.shape (Sees.own o5)
        clear o5 g5 b5 SE BX BH
        go_wp2
        go_roundw
        case rel => exact ⟨k + 1, by omega, by go_num, OW, SS, BB⟩
        case measure => simp [intOf]; omega
    · have q1 : decide ((k : Int) < 8) = false := decide_eq_false (by omega)
      have q2 : decide (k < 8) = false := decide_eq_false hk8
      obtain rfl : k = 8 := by omega
      go_wp2
      go_ret2
      exact ⟨_, rfl, hown.out, hbel.out⟩
end Go.Proofs.Ytinglfhndlklaaa.Clocks
