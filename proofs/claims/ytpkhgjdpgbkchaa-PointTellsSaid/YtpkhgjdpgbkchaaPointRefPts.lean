/- octavoref04.Points: what it answers. Conditions: a text takes at most 2 to the 30 bytes. -/
import Derived.Test.YtpkhgjdpgbkchaaPointFirst
namespace Go.Proofs.Ytpkhgjdpgbkchaa.Point
open Go.RowKit Go.WideShapes

def strLen : Value → Nat | .string s => s.size | _ => 0

set_option maxHeartbeats 4000000 in
set_option maxRecDepth 100000 in
theorem refPoints_any (s : ByteArray) (w : World) (hs : s.size ≤ 1073741824) :
    Calls Try.prog 14 #[.string s] w (fun e w' => Ans (pr s.data.toList).1 (pr s.data.toList).2 e w w') := by
  obtain ⟨l, hl⟩ : ∃ l, l = s.data.toList := ⟨_, rfl⟩
  rw [← hl]
  have hll : l.length = s.size := by rw [hl, size_data]
  have HL := Lib.hid hl
  have HLL := Lib.hid hll
  clear hl hll
  go_enter Try.func14, Try.ntmps14
  go_wp2
  go_loopw [0, 4] (fun x v wr => ∃ (s' : ByteArray) (ns : List Int) (ao : Option Addr) (m cap : Nat), x = .string s' ∧ v = .slice ao m cap ∧ s'.size ≤ 1073741824 ∧ m ≤ 1073741824 ∧ Hid (m = ns.length) ∧ Hid (Pts ns) ∧ Hid (l = flat ns ++ s'.data.toList) ∧ Hid (wr.ownsRow w.heap.size 3 1 (.slice ao m cap) m (is ns)) ∧ Hid (Below w.heap.size w wr)) (fun x _ _ => strLen x)
  case atStart =>
    exact ⟨s, [], none, 0, 0, rfl, rfl, hs, by omega, Lib.hid rfl, Lib.hid (by simp [Pts]), Lib.hid HL.out, Lib.hid (World.ownsRow_nil _ _ _ _), Lib.hid (Below.refl _ _)⟩
  case round =>
    obtain ⟨s', ns, ao, m, cap, rfl, rfl, hs', hm1, hm, hpt, hfl, hown, hbel⟩ := hrel
    have hsz : w.heap.size ≤ wr.heap.size := hbel.out.size
    by_cases hp : 0 < s'.size
    · have q1 : decide ((0 : Int) < (s'.size : Int)) = true := by simp; omega
      have q2 : decide (0 < s'.size) = true := by simpa using hp
      have hne : s'.data.toList ≠ [] := by
        intro h0
        have := congrArg List.length h0
        rw [size_data, List.length_nil] at this
        omega
      cases hld : lead s'.data.toList with
      | none =>
        have HF : Hid (pr l = ([], 40)) := by
          show pr l = _
          refine pr_none (pts_none fun k hk => ?_)
          rw [hfl.out]
          exact flat_stuck hpt.out hne hld k hk
        have HR : Hid (fr s'.data.toList = (0, 0)) := by show fr _ = _; unfold fr; rw [hld]
        have HC : Hid (∀ W : World, Calls Try.prog 21 #[.string s'] W (fun e w' => e = .returned (.tuple #[.int .i64 0, .int .i64 0]) ∧ Below W.heap.size W w')) := fun W => by
          have := first_any s' W (by omega) hs'
          rw [HR.out] at this
          exact this
        clear hld hne
        go_wp2_with fail
        refine (HC.out _).mono ?_
        rintro e w1 ⟨rfl, b1⟩
        have B1 : Hid (Below w.heap.size w w1) := hbel.out.trans (b1.mono hsz)
        clear b1
        go_wp2
        go_ret2
        rw [HF.out]
        exact ⟨none, 0, rfl, World.ownsRow_nil _ _ _ _, B1.out⟩
      | some d =>
        obtain ⟨n, k⟩ := d
        obtain ⟨g1, g2, g3⟩ := lead_sound hne hld
        have hk := enc_len n
        rw [← g3] at hk
        have hks : k ≤ s'.size := by
          have := congrArg List.length g2
          rw [List.length_append, List.length_drop, size_data] at this
          omega
        have hn2 := g1.2.1
        have hn1 := g1.1
        have HR : Hid (fr s'.data.toList = (n, k)) := by show fr _ = _; unfold fr; rw [hld]
        have HC : Hid (∀ W : World, Calls Try.prog 21 #[.string s'] W (fun e w' => e = .returned (.tuple #[.int .i64 n, .int .i64 (k : Int)]) ∧ Below W.heap.size W w')) := fun W => by
          have := first_any s' W (by omega) hs'
          rw [HR.out] at this
          exact this
        have HG := Lib.hid g2
        have HP := Lib.hid g1
        have q3 : ((k : Int) == 0) = false := by rw [beq_eq_false_iff_ne]; omega
        have q4 : (0 : Int) ≤ (k : Int) := by omega
        have q5 : (k : Int) ≤ (s'.size : Int) := by omega
        have hmf : m + 1 ≤ 1073741824 := by
          have h1 := congrArg List.length hfl.out
          rw [List.length_append, size_data] at h1
          have h2 := (flat_len ns).1
          have h3 := hm.out
          have h4 := HLL.out
          omega
        clear hld hne g1 g2 g3
        go_wp2_with fail
        refine (HC.out _).mono ?_
        rintro e w1 ⟨rfl, b1⟩
        have B1 : Hid (Below w.heap.size w w1) := hbel.out.trans (b1.mono hsz)
        have hs1 : w.heap.size ≤ w1.heap.size := B1.out.size
        have O1 : Hid (w1.ownsRow w.heap.size 3 1 (.slice ao m cap) m (is ns)) := own_stays hown.out b1
        have HS : Hid (Sees (w1.alloc (.cells #[.int .i64 n] 3)) (.slice (some ⟨w1.heap.size, 0, none⟩) 1 1) 1 1 [.int .i64 n]) := sees_new w1 [.int .i64 n] 1 1 rfl (by omega) _ _
        clear b1
        go_wp2_with (at_builtin; refine wpList_append_sees rfl (.tmp 17) (.tmp 19) 25 3 rfl Try.underlying25 int_info rfl (by decide) w.heap.size _ m _ rfl (O1.out.alloc _) _ 1 _ rfl HS.out ?k1 ?k2 ?k3 ?k4 ?_)
        case k1 => exact is_oneCell [n]
        case k2 => omega
        case k3 => omega
        case k4 => simp; omega
        rintro v' w' ho hg hb
        obtain ⟨ao', cap', rfl⟩ : ∃ ao cap, v' = .slice ao (m + 1) cap := Sees.shape (Sees.own ho)
        have HO := Lib.hid ho
        have HB : Hid (Below w.heap.size w w') := (B1.out.alloc hs1 _).trans hb
        clear ho hg hb
        go_wp2
        go_roundw
        case rel =>
          refine ⟨s'.extract k s'.size, ns ++ [n], ao', m + 1, cap', rfl, rfl, ?_, hmf, Lib.hid ?_, Lib.hid ?_, Lib.hid ?_, Lib.hid ?_, HB⟩
          · rw [ByteArray.size_extract]; omega
          · have := hm.out; simp; omega
          · exact pts_append.2 ⟨hpt.out, by simpa [Pts] using HP.out⟩
          · rw [str_data, hfl.out, flat_append, List.append_assoc]
            congr 1
            have h2 := HG.out
            simpa [flat] using h2
          · rw [is_append]; exact HO.out
        case measure =>
          simp [strLen]
          omega
    · have q1 : decide ((0 : Int) < (s'.size : Int)) = false := decide_eq_false (by omega)
      have q2 : decide (0 < s'.size) = false := decide_eq_false hp
      have hpts : pts l = some ns := by
        have e : s'.data.toList = [] := List.length_eq_zero_iff.1 (by rw [size_data]; omega)
        rw [hfl.out, e, List.append_nil]
        exact pts_flat hpt.out
      by_cases hc : m ≤ 1024
      · have HF := Lib.hid (pr_some hpts (by rw [← hm.out]; exact hc))
        have t1 : decide ((1024 : Int) < (m : Int)) = false := by simp; omega
        have t2 : decide (1024 < m) = false := by simp; omega
        clear hpts
        go_wp2
        go_ret2
        rw [HF.out]
        have h := hown.out
        have e := hm.out
        rw [e] at h
        exact ⟨ao, cap, by rw [e]; rfl, h, hbel.out⟩
      · have HF := Lib.hid (pr_many hpts (by rw [← hm.out]; exact hc))
        have t1 : decide ((1024 : Int) < (m : Int)) = true := by simp; omega
        have t2 : decide (1024 < m) = true := by simp; omega
        clear hpts
        go_wp2
        go_ret2
        rw [HF.out]
        exact ⟨none, 0, rfl, World.ownsRow_nil _ _ _ _, hbel.out⟩
end Go.Proofs.Ytpkhgjdpgbkchaa.Point
