/- What the reference's frame is, and what its Wrap answers. Conditions: bodies of up to 16384 bytes. -/
import Derived.Test.YtmjdpmkkcakbdaaFrameWrap
import Derived.Test.YtmjdpmkkcakbdaaNumRef
namespace Go.Proofs.Ytmjdpmkkcakbdaa.Frame
open Go.RowKit Num Crc

theorem le4_cells (s : Nat) (hs : s < 4294967296) : (bs (le4 s)).toArray = #[.int .u8 ((s : Int) % 256), .int .u8 ((s : Int) / 256 % 256), .int .u8 ((s : Int) / 65536 % 256), .int .u8 ((s : Int) / 16777216)] := by
  have t (k : Nat) (hk : k < 256) : (UInt8.ofNat k).toNat = k := by simp; omega
  simp only [le4, bs, List.map_cons, List.map_nil, t _ (Nat.mod_lt _ (by decide : 0 < 256)), t (s / 16777216) (by omega)]
  rfl
theorem refFramed_any {w : World} {v : Value} {b : List UInt8} (hr : Reads w v b) (hb : b.length ≤ 16384) :
    Calls Try.prog 19 #[v] w fun e w' => ∃ u, e = .returned u ∧ w'.ownsRow w.heap.size 5 1 u (framed b).length (bs (framed b)) ∧ Below w.heap.size w w' := by
  obtain ⟨ao, cap, rfl⟩ := hr.shape
  obtain ⟨hl1, hl6⟩ := enc_len b.length
  obtain ⟨m, hm⟩ : ∃ m, m = enc b.length := ⟨_, rfl⟩
  have hp := fun w => refBytes_any b.length (by unfold Num.most; omega) w
  rw [← hm] at hp hl1 hl6
  have HP := Lib.hid hp
  have HM := Lib.hid hm
  have HR := Lib.hid hr
  have own70 : (w.alloc (.cells #[.int .u8 70] 5)).ownsRow w.heap.size 5 1 (.slice (some ⟨w.heap.size, 0, none⟩) 1 1) [(70 : UInt8)].length (bs [70]) := own_one w w.heap.size 70 (Nat.le_refl _)
  have hb0 : Below w.heap.size w (w.alloc (.cells #[.int .u8 70] 5)) := (Below.refl _ _).alloc (Nat.le_refl _) _
  have H70 := Lib.hid own70
  clear hr hp hm own70
  go_enter Try.func19, Try.ntmps19
  go_wp2_with fail
  refine (HP.out _).mono ?_
  rintro e w1 ⟨vm, rfl, own1, b1⟩
  have HR1 := Lib.hid (Reads.own own1)
  have HO1 := Lib.hid (own_keeps H70.out b1)
  have hb1 := hb0.trans (b1.mono hb0.size)
  have hs1 := hb1.size
  clear own1 b1 H70
  go_wp2_with (at_builtin; refine wpList_append_bytes rfl (.tmp 6) (.tmp 9) rfl w.heap.size _ [70] rfl HO1.out _ m rfl HR1.out ?k1 ?k2 ?_)
  case k1 => simp; omega
  case k2 => omega
  intro v2 w2 own2 b2
  have hb2 := hb1.trans b2
  have HR2 := Lib.hid (HR.out.keeps hb2)
  have hs2 := hb2.size
  clear HO1 HR1 b2 hb1
  go_wp2_with (at_builtin; refine wpList_append_bytes rfl (.tmp 11) (.tmp 12) rfl w.heap.size _ _ rfl own2 _ b rfl HR2.out ?k1 ?k2 ?_)
  case k1 => simp; omega
  case k2 => omega
  intro v3 w3 own3 b3
  have hb3 := hb2.trans b3
  have hs3 := hb3.size
  have HO3 : Hid (w3.ownsRow w.heap.size 5 1 v3 (pre b).length (bs (pre b))) := by
    have e1 : pre b = 70 :: (m ++ b) := by rw [HM.out]; rfl
    rw [e1, show (70 :: (m ++ b)).length = m.length + b.length + 1 by simp]
    exact own3
  clear own2 own3 b3 hb2
  obtain ⟨p, hp⟩ : ∃ p, p = pre b := ⟨_, rfl⟩
  obtain ⟨s, hs⟩ : ∃ s, s = sumT entry p := ⟨_, rfl⟩
  have hsl : s < 4294967296 := by rw [hs]; exact sumT_lt tab_lt p
  have hc : ∀ v, Reads w3 v p → Calls Try.prog 25 #[v] w3 fun e w' => e = .returned (.int .u32 (s : Int)) ∧ w3 = w' := fun v h => by
    obtain ⟨ao, cap, rfl⟩ := h.shape
    rw [hs]; exact plain_any h
  rw [← hp] at HO3
  have hpl := pre_len b
  rw [← hp] at hpl
  have HC := Lib.hid hc
  have HPp := Lib.hid hp
  have HSs := Lib.hid hs
  clear hp hs hc
  go_wp2_with fail
  refine (HC.out v3 (Reads.own HO3.out)).mono ?_
  rintro e w4 ⟨rfl, rfl⟩
  have hRq : Reads (w3.alloc (.cells #[.int .u8 ((s : Int) % 256), .int .u8 ((s : Int) / 256 % 256), .int .u8 ((s : Int) / 65536 % 256), .int .u8 ((s : Int) / 16777216)] 5)) (.slice (some ⟨w3.heap.size, 0, none⟩) 4 4) (le4 s) := by
    rw [← le4_cells s hsl]
    exact reads4 (l := le4 s) (heap_alloc_new w3 (.cells (bs (le4 s)).toArray 5)) (by rw [le4_len]; decide)
  have HO4 := Lib.hid (HO3.out.alloc (.cells #[.int .u8 ((s : Int) % 256), .int .u8 ((s : Int) / 256 % 256), .int .u8 ((s : Int) / 65536 % 256), .int .u8 ((s : Int) / 16777216)] 5))
  have hb4 : Below w.heap.size w (w3.alloc (.cells #[.int .u8 ((s : Int) % 256), .int .u8 ((s : Int) / 256 % 256), .int .u8 ((s : Int) / 65536 % 256), .int .u8 ((s : Int) / 16777216)] 5)) := hb3.alloc hb3.size _
  have hql := le4_len s
  obtain ⟨q, hq⟩ : ∃ q, q = le4 s := ⟨_, rfl⟩
  rw [← hq] at hRq hql
  have HRq := Lib.hid hRq
  have HQ := Lib.hid hq
  have hpm : (enc b.length).length ≤ 6 := (enc_len b.length).2
  clear hRq hq HO3 hb3
  go_wp2_with (at_builtin; refine wpList_append_bytes rfl (.tmp 16) (.tmp 31) rfl w.heap.size _ _ rfl HO4.out _ q rfl HRq.out ?k1 ?k2 ?_)
  case k1 => omega
  case k2 => simp; omega
  intro v6 w6 own6 b6
  have hb := hb4.trans b6
  have HO7 : Hid (w6.ownsRow w.heap.size 5 1 v6 (framed b).length (bs (framed b))) := by
    have e1 : framed b = p ++ q := by rw [HQ.out, HSs.out, HPp.out]; rfl
    have e2 : (p ++ q).length = 1 + (enc b.length).length + b.length + 4 := by rw [List.length_append, hpl, hql]
    rw [e1, e2]
    exact own6
  clear own6 b6 hb4 HO4 HRq
  go_wp2
  go_ret
  exact ⟨_, rfl, HO7.out, hb⟩

theorem refWrap_any {w : World} {v : Value} {b : List UInt8} (hr : Reads w v b) :
    Calls Try.prog 11 #[v] w fun e w' => ∃ u c, e = .returned (.tuple #[u, .int .i64 c]) ∧ Wrapped b u c w.heap.size w' ∧ Below w.heap.size w w' := by
  obtain ⟨ao, cap, rfl⟩ := hr.shape
  have HR := Lib.hid hr
  clear hr
  by_cases h1 : 16384 < b.length
  · have t1 : decide ((16384 : Int) < (b.length : Int)) = true := by simp; omega
    have t2 : decide (16384 < b.length) = true := by simpa using h1
    go_enter Try.func11, Try.ntmps11
    go_wp2
    go_ret2
    exact ⟨_, _, rfl, .inr ⟨h1, rfl, rfl⟩, Below.refl _ _⟩
  · have t1 : decide ((16384 : Int) < (b.length : Int)) = false := by simp; omega
    have t2 : decide (16384 < b.length) = false := by simpa using h1
    go_enter Try.func11, Try.ntmps11
    go_wp2_with fail
    refine (refFramed_any HR.out (by omega)).mono ?_
    rintro e w1 ⟨u, rfl, own1, b1⟩
    have HO := Lib.hid own1
    clear own1
    go_wp2
    go_ret2
    exact ⟨_, _, rfl, .inl ⟨by omega, rfl, HO.out⟩, b1⟩
end Go.Proofs.Ytmjdpmkkcakbdaa.Frame
