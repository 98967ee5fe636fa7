/- What Wrap answers, the program's and the reference's. Conditions: none. -/
import Derived.Test.YtmjdpmkkcakbdaaFrameSum
import Derived.Test.YtmjdpmkkcakbdaaNumLaws
namespace Go.Proofs.Ytmjdpmkkcakbdaa.Frame
open Go.RowKit Num Crc

theorem reads4 {w : World} {g : Nat} {l : List UInt8} {t : TypeId} {fr : Nat × Nat} (h : w.heap[g]? = some (.cells (bs l).toArray t fr)) (hl : l.length ≤ 1000) : Reads w (.slice (some ⟨g, 0, none⟩) l.length l.length) l := by
  refine ⟨by omega, _, _, rfl, Nat.le_refl _, by omega, by simp, .inr ⟨g, 0, rfl, (Array.getElem?_eq_some_iff.1 h).1, fun j hj => ?_⟩⟩
  rw [cell_of_row _ g (0 + j) (bs l).toArray t fr h, Nat.zero_add, List.getElem?_toArray]
  exact bs_get l j hj

/-- A row of the call's own, with one byte. -/
theorem own_one (w : World) (base : Nat) (x : UInt8) (hb : base ≤ w.heap.size) : (w.alloc (.cells #[.int .u8 (x.toNat : Int)] 5)).ownsRow base 5 1 (.slice (some ⟨w.heap.size, 0, none⟩) 1 1) [x].length (bs [x]) :=
  World.ownsRow_lit w #[.int .u8 (x.toNat : Int)] 1 hb (by decide) rfl

/-- What the call owns stays so behind another call. -/
theorem own_keeps {w w' : World} {base : Nat} {e : TypeId} {v : Value} {n : Nat} {xs : List Value} (h : w.ownsRow base e 1 v n xs) (hb : Below w.heap.size w w') : w'.ownsRow base e 1 v n xs := by
  obtain ⟨h1, h2⟩ := h
  refine ⟨h1, ?_⟩
  rcases h2 with h2 | ⟨g, cap, cur, hv, hg, hh, r⟩
  · exact .inl h2
  · exact .inr ⟨g, cap, cur, hv, hg, (hb.block g (Array.getElem?_eq_some_iff.1 hh).1).trans hh, r⟩

/-- What Wrap answers. -/
def Wrapped (b : List UInt8) (v : Value) (c : Int) (base : Nat) (w : World) : Prop :=
  (b.length ≤ 16384 ∧ c = 0 ∧ w.ownsRow base 5 1 v (framed b).length (bs (framed b))) ∨ (16384 < b.length ∧ c = 4 ∧ v = .slice none 0 0)

theorem wrap_any {w : World} {v : Value} {b : List UInt8} (hr : Reads w v b) :
    Calls Try.prog 9 #[v] w fun e w' => ∃ u c, e = .returned (.tuple #[u, .int .i64 c]) ∧ Wrapped b u c w.heap.size w' ∧ Below w.heap.size w w' := by
  obtain ⟨ao, cap, rfl⟩ := hr.shape
  by_cases h1 : 16384 < b.length
  · have t1 : decide ((16384 : Int) < (b.length : Int)) = true := by simp; omega
    have t2 : decide (16384 < b.length) = true := by simpa using h1
    have HR := Lib.hid hr
    clear hr
    go_enter Try.func9, Try.ntmps9
    go_wp2
    go_ret2
    exact ⟨_, _, rfl, .inr ⟨h1, rfl, rfl⟩, Below.refl _ _⟩
  · have t1 : decide ((16384 : Int) < (b.length : Int)) = false := by simp; omega
    have t2 : decide (16384 < b.length) = false := by simpa using h1
    have HR := Lib.hid hr
    obtain ⟨hl1, hl6⟩ := enc_len b.length
    obtain ⟨m, hm⟩ : ∃ m, m = enc b.length := ⟨_, rfl⟩
    obtain ⟨R, hR⟩ : ∃ R, R = row entry := ⟨_, rfl⟩
    have hp := fun w => put_yes b.length (by unfold Num.most; omega) w
    rw [← hm] at hp hl1 hl6
    have HP := Lib.hid hp
    have HM := Lib.hid hm
    have HT : Hid (∀ w, Calls Try.prog 15 #[] w fun e w' => e = .returned (.agg R) ∧ Below w.heap.size w w') := fun w => by rw [hR]; exact table_any w
    have HS : Hid (∀ (w : World) (v : Value) (xs : List UInt8), Reads w v xs → Calls Try.prog 14 #[.agg R, v] w fun e w' => e = .returned (.agg (bs (le4 (sumT entry xs))).toArray) ∧ Below w.heap.size w w') := fun w v xs h => by rw [hR]; exact sumOf_any entry tab_lt h
    clear hr hp hm hR
    go_enter Try.func9, Try.ntmps9
    go_wp2_with fail
    refine (HP.out w).mono ?_
    rintro e w1 ⟨vm, rfl, own1, b1⟩
    have hb1 : Below w.heap.size w (w1.alloc (.cells #[.int .u8 70] 5)) := b1.alloc b1.size _
    have hr1 : Reads (w1.alloc (.cells #[.int .u8 70] 5)) vm m := (Reads.own own1).keeps ((Below.refl _ _).alloc (Nat.le_refl _) _)
    have own70 : (w1.alloc (.cells #[.int .u8 70] 5)).ownsRow w.heap.size 5 1 (.slice (some ⟨w1.heap.size, 0, none⟩) 1 1) [(70 : UInt8)].length (bs [70]) := own_one w1 w.heap.size 70 b1.size
    have HR1 := Lib.hid hr1
    have hs1 := b1.size
    clear own1 b1 hr1
    go_wp2_with (at_builtin; refine wpList_append_bytes rfl (.tmp 17) (.tmp 18) rfl w.heap.size _ [70] rfl own70 _ m rfl HR1.out ?k1 ?k2 ?_)
    case k1 => simp; omega
    case k2 => simp; omega
    intro v2 w2 own2 b2
    have hb2 := hb1.trans b2
    have HR2 := Lib.hid (HR.out.keeps hb2)
    have hs2 := hb2.size
    clear own70 HR1 b2 hb1
    go_wp2_with (at_builtin; refine wpList_append_bytes rfl (.tmp 20) (.tmp 21) rfl w.heap.size _ _ rfl own2 _ b rfl HR2.out ?k1 ?k2 ?_)
    case k1 => simp; omega
    case k2 => omega
    intro v3 w3 own3 b3
    have hb3 := hb2.trans b3
    have hs3 := hb3.size
    have HO3 : Hid (w3.ownsRow w.heap.size 5 1 v3 (pre b).length (bs (pre b))) := by
      have e1 : pre b = 70 :: (m ++ b) := by rw [HM.out]; rfl
      rw [e1, show (70 :: (m ++ b)).length = m.length + b.length + 1 by simp]
      exact own3
    clear own2 own3 b3 hb2
    go_wp2_with fail
    refine (HT.out w3).mono ?_
    rintro e w4 ⟨rfl, b4⟩
    have HO4 := Lib.hid (own_keeps HO3.out b4)
    have hb4 := bt hb3 b4
    clear HO3 b4 hb3
    go_wp2_with fail
    refine (HS.out w4 v3 _ (Reads.own HO4.out)).mono ?_
    rintro e w5 ⟨rfl, b5⟩
    have HO5 := Lib.hid (own_keeps HO4.out b5)
    have hb5 := bt hb4 b5
    obtain ⟨Y, hY⟩ : ∃ Y, Y = (bs (le4 (sumT entry (pre b)))).toArray := ⟨_, rfl⟩
    obtain ⟨Z, hZ⟩ : ∃ Z : Array Value, Z = #[.int .u8 0, .int .u8 0, .int .u8 0, .int .u8 0] := ⟨_, rfl⟩
    have hz := four_zero
    rw [← hZ] at hz
    have hYl : Y.size = 4 := by rw [hY, List.size_toArray, bs_len]; rfl
    have hYs : (Try.prog.info? 31).map (·.size) = some Y.size := by rw [hYl]; exact four_size
    have hZY : Z.size = Y.size := by rw [hYl, hZ]; rfl
    have hY1 : Y.all (·.oneCell') = true := by rw [hY]; exact bs4_one _
    obtain ⟨q, hq⟩ : ∃ q, q = le4 (sumT entry (pre b)) := ⟨_, rfl⟩
    have hql : q.length = 4 := by rw [hq]; rfl
    have hRq : Reads (w5.alloc (.cells Y 31)) (.slice (some ⟨w5.heap.size, 0, none⟩) 4 4) q := by
      have h := reads4 (l := q) (heap_alloc_new w5 (.cells (bs q).toArray 31)) (by omega)
      rw [hql] at h
      rw [hY, ← hq]; exact h
    have HO6 := Lib.hid (HO5.out.alloc (.cells Y 31))
    have hb6 : Below w.heap.size w (w5.alloc (.cells Y 31)) := hb5.alloc hb5.size _
    have hs5 := hb5.size
    rw [← hY]
    have HQ := Lib.hid hq
    have HRq := Lib.hid hRq
    have HYs := Lib.hid hYs
    have HZY := Lib.hid hZY
    have HY1 := Lib.hid hY1
    have hpl := pre_len b
    have hpm : (enc b.length).length ≤ 6 := (enc_len b.length).2
    clear HO4 b5 hb4 hY hZ hYl hYs hZY hY1 hRq hq HO5
    go_wp2_with (first | (refine wpList_store_row rfl 31 (.tmp 7) (.tmp 25) rfl w5.heap.size Y rfl rfl 31 Z (heap_alloc_new w5 _) HYs.out HZY.out HY1.out ?_; rw [World.setRow_alloc_new]) | (at_builtin; refine wpList_append_bytes rfl (.tmp 26) (.tmp 27) rfl w.heap.size _ _ rfl HO6.out _ q rfl HRq.out ?k1 ?k2 ?_))
    case k1 => omega
    case k2 => simp; omega
    intro v6 w6 own6 b6
    have hb := hb6.trans b6
    have HO7 : Hid (w6.ownsRow w.heap.size 5 1 v6 (framed b).length (bs (framed b))) := by
      have e1 : framed b = pre b ++ q := by rw [HQ.out]; rfl
      have e2 : (pre b ++ q).length = 1 + (enc b.length).length + b.length + 4 := by rw [List.length_append, hpl, hql]
      rw [e1, e2]
      exact own6
    clear own6 b6 hb6 HO6 HRq
    go_wp2
    go_ret2
    exact ⟨_, _, rfl, .inl ⟨by omega, rfl, HO7.out⟩, hb⟩
end Go.Proofs.Ytmjdpmkkcakbdaa.Frame
