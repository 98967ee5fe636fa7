/- point.Check and point.Points: what they answer. Conditions: a text takes at most 2 to the 30 bytes. -/
import Derived.Test.YtpkhgjdpgbkchaaPointMath
import Derived.Test.YtpkhgjdpgbkchaaCells
import Derived.Test.YtpkhgjdpgbkchaaShelf
import Derived.Lib.OthersKept
import Derived.LoopTactic
namespace Go.Proofs.Ytpkhgjdpgbkchaa.Point
open Go.RowKit Go.WideShapes

theorem isPt_iff (n : Int) : IsPt n ↔ 0 ≤ n ∧ n ≤ 1114111 ∧ (n < 55296 ∨ 57343 < n) := Iff.rfl
def ck (n : Int) : Int := if IsPt n then 0 else 40
theorem check_any (n : Int) (w : World) : Calls Try.prog 12 #[.int .i64 n] w fun e w' => e = .returned (.int .i64 (ck n)) ∧ w = w' := by
  by_cases h1 : n < 0
  · have hc : ck n = 40 := by unfold ck; rw [if_neg (by rw [isPt_iff]; omega)]
    have q1 : decide (n < 0) = true := by simpa using h1
    rw [hc]
    clear hc
    go_enter Try.func12, Try.ntmps12
    go_wp2
    go_ret
    exact ⟨rfl, rfl⟩
  · have q1 : decide (n < 0) = false := by simpa using h1
    by_cases h2 : 1114111 < n
    · have hc : ck n = 40 := by unfold ck; rw [if_neg (by rw [isPt_iff]; omega)]
      have q2 : decide (1114111 < n) = true := by simpa using h2
      rw [hc]
      clear hc
      go_enter Try.func12, Try.ntmps12
      go_wp2
      go_ret
      exact ⟨rfl, rfl⟩
    · have q2 : decide (1114111 < n) = false := by simpa using h2
      by_cases h3 : 55296 ≤ n
      · have q3 : decide (55296 ≤ n) = true := by simpa using h3
        by_cases h4 : n ≤ 57343
        · have hc : ck n = 40 := by unfold ck; rw [if_neg (by rw [isPt_iff]; omega)]
          have q4 : decide (n ≤ 57343) = true := by simpa using h4
          rw [hc]
          clear hc
          go_enter Try.func12, Try.ntmps12
          go_wp2
          go_ret
          exact ⟨rfl, rfl⟩
        · have hc : ck n = 0 := by unfold ck; rw [if_pos (by rw [isPt_iff]; omega)]
          have q4 : decide (n ≤ 57343) = false := by simpa using h4
          rw [hc]
          clear hc
          go_enter Try.func12, Try.ntmps12
          go_wp2
          go_ret
          exact ⟨rfl, rfl⟩
      · have hc : ck n = 0 := by unfold ck; rw [if_pos (by rw [isPt_iff]; omega)]
        have q3 : decide (55296 ≤ n) = false := by simpa using h3
        rw [hc]
        clear hc
        go_enter Try.func12, Try.ntmps12
        go_wp2
        go_ret
        exact ⟨rfl, rfl⟩

/-- What Points answers: code points, and a code. -/
def pr (s : List UInt8) : List Int × Int := match pts s with
  | none => ([], 40)
  | some l => if l.length ≤ 1024 then (l, 0) else ([], 4)

/-- An answer that the call owns: a slice of numbers and a code. -/
def Ans (L : List Int) (c : Int) (e : Ending) (w w' : World) : Prop :=
  ∃ ao cap, e = .returned (.tuple #[.slice ao L.length cap, .int .i64 c]) ∧ w'.ownsRow w.heap.size 3 1 (.slice ao L.length cap) L.length (is L) ∧ Below w.heap.size w w'

theorem own_iterAt {w : World} {base : Nat} {e : TypeId} {v : Value} {sz n : Nat} {xs : List Value} (h : w.ownsRow base e sz v n xs) {k : Nat} {s : ByteArray} {pos : Nat} (hk : w.heap[k]? = some (.stringIter s pos)) (p : Nat) : (w.iterAt k s p).ownsRow base e sz v n xs := by
  refine h.kept (row := some k) ⟨rfl, rfl, rfl, by rw [Lib.iterAt_size]; exact Nat.le_refl _, fun i _ hi => Lib.iterAt_other w k i s p (fun e => hi (by rw [e]))⟩ (.inr (own_ne h hk (fun c => by simp)))

theorem int_info : (Try.prog.info? 3).map (fun i => (i.zero, i.size, i.bytes)) = some (some (.int .i64 0), 1, 8) := by kernel_rfl

theorem str_data (s : ByteArray) (n : Nat) : (s.extract n s.size).data.toList = s.data.toList.drop n := by
  rw [ByteArray.data_extract]
  simp [Array.toList_extract, List.extract_eq_take_drop]
  rw [List.take_of_length_le]
  simp

/-- What is known at a round's head: up to here whole code points, the first 1025 of them in the list. -/
def At (s : ByteArray) (w wr : World) (v : Value) (m pos : Nat) (ns : List Int) : Prop :=
  m = (ns.take 1025).length ∧ pos ≤ s.size ∧ Pts ns ∧ s.data.toList.take pos = flat ns ∧ wr.heap[w.heap.size]? = some (.stringIter s pos) ∧ Below w.heap.size w wr ∧ wr.ownsRow w.heap.size 3 1 v m (is (ns.take 1025))

theorem size_data (s : ByteArray) : s.data.toList.length = s.size := by simp

theorem pr_none {s : List UInt8} (h : pts s = none) : pr s = ([], 40) := by unfold pr; rw [h]
theorem pr_some {s : List UInt8} {l : List Int} (h : pts s = some l) (hl : l.length ≤ 1024) : pr s = (l, 0) := by unfold pr; rw [h]; simp [hl]
theorem pr_many {s : List UInt8} {l : List Int} (h : pts s = some l) (hl : ¬ l.length ≤ 1024) : pr s = ([], 4) := by unfold pr; rw [h]; simp [hl]

theorem at_step {s : ByteArray} {w wr w2 : World} {v v2 : Value} {m m2 pos k : Nat} {ns : List Int} {r : Int} (h : At s w wr v m pos ns) (hp : pos < s.size) (hl : lead (s.data.toList.drop pos) = some (r, k))
    (hit : w2.heap[w.heap.size]? = some (.stringIter s (pos + k))) (hb : Below w.heap.size w w2)
    (hm2 : m2 = if m ≤ 1024 then m + 1 else m) (hown : w2.ownsRow w.heap.size 3 1 v2 m2 (if m ≤ 1024 then is (ns.take 1025) ++ [.int .i64 r] else is (ns.take 1025))) :
    At s w w2 v2 m2 (pos + k) (ns ++ [r]) := by
  obtain ⟨hm, h1, h2, h3, _, _, _⟩ := h
  have hne : s.data.toList.drop pos ≠ [] := by
    intro h0
    have := congrArg List.length h0
    rw [List.length_drop, size_data] at this
    simp at this
    omega
  obtain ⟨g1, g2, g3⟩ := lead_sound hne hl
  have hk : (enc r).length ≤ s.size - pos := by
    have := congrArg List.length g2
    rw [List.length_append, List.length_drop, List.length_drop, size_data] at this
    omega
  have hl2 : (ns.take 1025).length = min 1025 ns.length := List.length_take
  refine ⟨?_, by omega, pts_append.2 ⟨h2, by simpa [Pts] using g1⟩, ?_, hit, hb, ?_⟩
  · rw [hm2, hm, List.length_take, List.length_take, List.length_append]
    simp only [List.length_cons, List.length_nil]
    split <;> omega
  · rw [List.take_add, h3, flat_append, g2]
    congr 1
    rw [g3, List.take_left]
    simp [flat]
  · by_cases hc : ns.length ≤ 1024
    · have e1 : ns.take 1025 = ns := List.take_of_length_le (by omega)
      have e2 : (ns ++ [r]).take 1025 = ns ++ [r] := List.take_of_length_le (by simp; omega)
      rw [e1, if_pos (by omega)] at hown
      rw [e2, is_append]
      exact hown
    · have e2 : (ns ++ [r]).take 1025 = ns.take 1025 := List.take_append_of_le_length (by omega)
      rw [if_neg (by omega)] at hown
      rw [e2]
      exact hown

theorem at_stuck {s : ByteArray} {w wr : World} {v : Value} {m pos : Nat} {ns : List Int} (h : At s w wr v m pos ns) (hp : pos < s.size) (hl : lead (s.data.toList.drop pos) = none) : pts s.data.toList = none := by
  obtain ⟨hm, h1, h2, h3, _, _, _⟩ := h
  have hne : s.data.toList.drop pos ≠ [] := by
    intro h0
    have := congrArg List.length h0
    rw [List.length_drop, size_data] at this
    simp at this
    omega
  refine pts_none fun m hm he => ?_
  have := flat_stuck h2 hne hl m hm
  rw [← h3, List.take_append_drop] at this
  exact this he

theorem at_end {s : ByteArray} {w wr : World} {v : Value} {m pos : Nat} {ns : List Int} (h : At s w wr v m pos ns) (hp : ¬ pos < s.size) : pts s.data.toList = some ns := by
  obtain ⟨_, h1, h2, h3, _, _, _⟩ := h
  rw [List.take_of_length_le (by rw [size_data]; omega)] at h3
  rw [h3]
  exact pts_flat h2

theorem step_fin {s : ByteArray} {w wr w2 w' : World} {ao : Option Addr} {cap m pos k : Nat} {ns : List Int} {r : Int} {v' : Value} (hat : At s w wr (.slice ao m cap) m pos ns) (hp : pos < s.size) (hl : lead (s.data.toList.drop pos) = some (r, k))
    (hit : w2.heap[w.heap.size]? = some (.stringIter s (pos + k))) (hown : w2.ownsRow w.heap.size 3 1 (.slice ao m cap) m (is (ns.take 1025))) (hb : Below w.heap.size w w2) (hc : m ≤ 1024)
    (ho : w'.ownsRow w.heap.size 3 1 v' (m + 1) (is (ns.take 1025) ++ [.int .i64 r])) (hg : (w2.alloc (.cells #[.int .i64 r] 3)).grownBy w' (Value.slice ao m cap).ownBlock) (hb2 : Below w.heap.size (w2.alloc (.cells #[.int .i64 r] 3)) w') :
    w'.iterPos w.heap.size = pos + k ∧ 0 < k ∧ ∃ ao' cap', v' = .slice ao' (m + 1) cap' ∧ At s w w' (.slice ao' (m + 1) cap') (m + 1) (pos + k) (ns ++ [r]) := by
  have hlt : w.heap.size < w2.heap.size := (Array.getElem?_eq_some_iff.1 hit).1
  have hit' : w'.heap[w.heap.size]? = some (.stringIter s (pos + k)) := by
    rw [hg.block w.heap.size (by simp; omega) (fun e => own_ne hown hit (fun c => by simp) e.symm), Lib.alloc_old w2 _ _ hlt]
    exact hit
  obtain ⟨ao', cap', rfl⟩ : ∃ ao cap, v' = .slice ao (m + 1) cap := Sees.shape (Sees.own ho)
  have hk : 0 < k := by
    have hne : s.data.toList.drop pos ≠ [] := by
      intro h0
      have := congrArg List.length h0
      rw [List.length_drop, size_data] at this
      simp at this
      omega
    rw [(lead_sound hne hl).2.2]
    exact (enc_len r).1
  refine ⟨by unfold World.iterPos; rw [hit'], hk, ao', cap', rfl, at_step hat hp hl hit' ((hb.alloc (by omega) _).trans hb2) (by rw [if_pos hc]) (by rw [if_pos hc]; exact ho)⟩

theorem step_stay {s : ByteArray} {w wr w2 : World} {ao : Option Addr} {cap m pos k : Nat} {ns : List Int} {r : Int} (hat : At s w wr (.slice ao m cap) m pos ns) (hp : pos < s.size) (hl : lead (s.data.toList.drop pos) = some (r, k))
    (hit : w2.heap[w.heap.size]? = some (.stringIter s (pos + k))) (hown : w2.ownsRow w.heap.size 3 1 (.slice ao m cap) m (is (ns.take 1025))) (hb : Below w.heap.size w w2) (hc : ¬ m ≤ 1024) :
    w2.iterPos w.heap.size = pos + k ∧ 0 < k ∧ At s w w2 (.slice ao m cap) m (pos + k) (ns ++ [r]) := by
  have hk : 0 < k := by
    have hne : s.data.toList.drop pos ≠ [] := by
      intro h0
      have := congrArg List.length h0
      rw [List.length_drop, size_data] at this
      simp at this
      omega
    rw [(lead_sound hne hl).2.2]
    exact (enc_len r).1
  refine ⟨by unfold World.iterPos; rw [hit], hk, at_step hat hp hl hit hb (by rw [if_neg hc]) (by rw [if_neg hc]; exact hown)⟩

theorem wrap_i64_nat (n : Nat) (h : n ≤ 2147483647) : IntKind.i64.wrap (n : Int) = (n : Int) := IntWalk.i64_in _ (by omega)

theorem prefix_is (s p : ByteArray) (l : List UInt8) (hl : p.data.toList = l) (b : Bool) (hb : l.isPrefixOf s.data.toList = b) (w : World) :
    Calls Try.prog 20 #[.string s, .string p] w fun e w' => e = .returned (.bool b) ∧ w = w' := by
  refine (Try.strings_HasPrefix s p w).mono ?_
  rintro e w' ⟨rfl, rfl⟩
  refine ⟨?_, rfl⟩
  have : Lib.hasPrefix s.data.toList p.data.toList = b := by rw [hl]; exact hb
  rw [this]

set_option maxHeartbeats 4000000 in
set_option maxRecDepth 1000000 in
theorem points_any (s : ByteArray) (w : World) (hs : s.size ≤ 1073741824) :
    Calls Try.prog 9 #[.string s] w (fun e w' => Ans (pr s.data.toList).1 (pr s.data.toList).2 e w w') := by
  go_enter Try.func9, Try.ntmps9
  go_wp2
  go_loopw [4] (fun v wr => ∃ (ao : Option Addr) (cap m pos : Nat) (ns : List Int), v = .slice ao m cap ∧ Hid (At s w wr (.slice ao m cap) m pos ns)) (fun _ wr => s.size - wr.iterPos w.heap.size)
  case atStart =>
    refine ⟨none, 0, 0, 0, [], rfl, Lib.hid ⟨rfl, by omega, by simp [Pts], rfl, ?_, ?_, ?_⟩⟩
    · exact World.iter_heap w s 0
    · exact (Below.refl _ _).alloc (Nat.le_refl _) _
    · exact World.ownsRow_nil _ _ _ _
  case round =>
    obtain ⟨ao, cap, m, pos, ns, rfl, hat⟩ := hrel
    obtain ⟨hm, h1, h2, h3, hit, hbel, hown⟩ := hat.out
    have hsz : w.heap.size < wr.heap.size := (Array.getElem?_eq_some_iff.1 hit).1
    by_cases hp : pos < s.size
    · obtain ⟨r, hr⟩ : ∃ r, r = (Utf8.decode s pos).1 := ⟨_, rfl⟩
      obtain ⟨k, hk⟩ : ∃ k, k = (Utf8.decode s pos).2 := ⟨_, rfl⟩
      have hnx : ∀ ty, (Instr.next (.pointer (some ⟨w.heap.size, 0, none⟩)) true ty).run Try.prog wr = .ok (.tuple #[.bool true, .int .i64 (pos : Int), .int .i32 (r : Int)]) (wr.iterAt w.heap.size s (pos + k)) := fun ty => by
        rw [hr, hk]; exact Lib.run_next_any_at wr w.heap.size s pos ty hit hp
      have hit2 := Lib.iterAt_heap wr w.heap.size s pos (pos + k) hit
      have hbw2 := Lib.below_iterAt hbel (Nat.le_refl w.heap.size) s (pos + k)
      have hown2 := own_iterAt hown hit (pos + k)
      have hr31 : r ≤ 2147483647 := by rw [hr]; exact decode_le s pos
      obtain ⟨w2, hw2⟩ : ∃ w2, w2 = wr.iterAt w.heap.size s (pos + k) := ⟨_, rfl⟩
      rw [← hw2] at hit2 hbw2 hown2 hnx
      have hsz2 : w.heap.size < w2.heap.size := (Array.getElem?_eq_some_iff.1 hit2).1
      have hL1 : m ≤ 1025 := by rw [hm, List.length_take]; omega
      have hdr : lead (s.data.toList.drop pos) = if r = 65533 ∧ ¬ ([239, 191, 189] : List UInt8).isPrefixOf (s.data.toList.drop pos) = true then none else some ((r : Int), k) := by
        unfold lead; rw [hr, hk, dec_at]
      have HD := Lib.hid hdr
      have HI := Lib.hid hit2
      have HO := Lib.hid hown2
      have HB := Lib.hid hbw2
      have HM : Hid (wr.iterPos w.heap.size = pos) := by show World.iterPos _ _ = _; unfold World.iterPos; rw [hit]
      have q0 : (0 : Int) ≤ (pos : Int) := by omega
      have q1 : (pos : Int) ≤ (s.size : Int) := by omega
      have w1 := wrap_i64_nat r hr31
      have HN : Hid (∀ ty, (Instr.next (.pointer (some ⟨w.heap.size, 0, none⟩)) true ty).run Try.prog wr = .ok (.tuple #[.bool true, .int .i64 (pos : Int), .int .i32 (r : Int)]) w2) := hnx
      clear hw2 hdr h1 h2 h3 hit hbel hown hr hk hit2 hown2 hbw2 hm
      by_cases hst : r = 65533
      · have t1 : ((r : Int) == 65533) = true := by rw [beq_iff_eq]; omega
        by_cases hpre : ([239, 191, 189] : List UInt8).isPrefixOf (s.data.toList.drop pos) = true
        · have HX := Lib.hid (prefix_is (s.extract pos s.size) (ByteArray.mk #[239, 191, 189]) [239, 191, 189] rfl true (by rw [str_data]; exact hpre))
          have HL : Hid (lead (s.data.toList.drop pos) = some ((r : Int), k)) := by show lead _ = _; rw [HD.out, if_neg (fun h => h.2 hpre)]
          clear hpre hst
          by_cases hc : m ≤ 1024
          · have t2 : decide ((m : Int) ≤ 1024) = true := by simp; omega
            have HS : Hid (Sees (w2.alloc (.cells #[.int .i64 (r : Int)] 3)) (.slice (some ⟨w2.heap.size, 0, none⟩) 1 1) 1 1 [.int .i64 (r : Int)]) := sees_new w2 [.int .i64 (r : Int)] 1 1 rfl (by omega) _ _
            go_wp2_with (first | (go_at_call 20; refine (HX.out _).mono ?_; rintro e w3 ⟨rfl, rfl⟩) | (at_builtin; refine wpList_append_sees rfl (.tmp 25) (.tmp 28) 25 3 rfl Try.underlying25 int_info rfl (by decide) w.heap.size _ m _ rfl (HO.out.alloc _) _ 1 _ rfl HS.out ?k1 ?k2 ?k3 ?k4 ?_))
            case k1 => exact is_oneCell [(r : Int)]
            case k2 => omega
            case k3 => omega
            case k4 => simp; omega
            rintro v' w' ho hg hb
            obtain ⟨f1, f2, ao', cap', rfl, f3⟩ := step_fin hat.out hp HL.out HI.out HO.out HB.out hc ho hg hb
            have F1 := Lib.hid f1
            have F3 := Lib.hid f3
            clear f1 f3 ho hg hb hnx
            go_wp2
            go_roundw
            case rel => exact ⟨ao', cap', m + 1, pos + k, ns ++ [(r : Int)], rfl, F3⟩
            case measure => rw [F1.out, HM.out]; omega
          · have t2 : decide ((m : Int) ≤ 1024) = false := by simp; omega
            obtain ⟨f1, f2, f3⟩ := step_stay hat.out hp HL.out HI.out HO.out HB.out hc
            have F1 := Lib.hid f1
            have F3 := Lib.hid f3
            clear f1 f3
            go_wp2_with (go_at_call 20; refine (HX.out _).mono ?_; rintro e w3 ⟨rfl, rfl⟩)
            go_roundw
            case rel => exact ⟨ao, cap, m, pos + k, ns ++ [(r : Int)], rfl, F3⟩
            case measure => rw [F1.out, HM.out]; omega
        · have HX := Lib.hid (prefix_is (s.extract pos s.size) (ByteArray.mk #[239, 191, 189]) [239, 191, 189] rfl false (by rw [str_data]; exact Bool.eq_false_iff.2 hpre))
          have hl := at_stuck hat.out hp (by rw [HD.out, if_pos ⟨hst, hpre⟩])
          have HF := Lib.hid (pr_none hl)
          clear hl hpre
          go_wp2_with fail
          refine (HX.out _).mono ?_
          rintro e w3 ⟨rfl, rfl⟩
          go_wp2
          go_ret2
          rw [HF.out]
          exact ⟨none, 0, rfl, World.ownsRow_nil _ _ _ _, HB.out⟩
      · have t1 : ((r : Int) == 65533) = false := by rw [beq_eq_false_iff_ne]; omega
        have HL : Hid (lead (s.data.toList.drop pos) = some ((r : Int), k)) := by show lead _ = _; rw [HD.out, if_neg (fun h => hst h.1)]
        clear hst
        by_cases hc : m ≤ 1024
        · have t2 : decide ((m : Int) ≤ 1024) = true := by simp; omega
          have HS : Hid (Sees (w2.alloc (.cells #[.int .i64 (r : Int)] 3)) (.slice (some ⟨w2.heap.size, 0, none⟩) 1 1) 1 1 [.int .i64 (r : Int)]) := sees_new w2 [.int .i64 (r : Int)] 1 1 rfl (by omega) _ _
          go_wp2_with (at_builtin; refine wpList_append_sees rfl (.tmp 25) (.tmp 28) 25 3 rfl Try.underlying25 int_info rfl (by decide) w.heap.size _ m _ rfl (HO.out.alloc _) _ 1 _ rfl HS.out ?k1 ?k2 ?k3 ?k4 ?_)
          case k1 => exact is_oneCell [(r : Int)]
          case k2 => omega
          case k3 => omega
          case k4 => simp; omega
          rintro v' w' ho hg hb
          obtain ⟨f1, f2, ao', cap', rfl, f3⟩ := step_fin hat.out hp HL.out HI.out HO.out HB.out hc ho hg hb
          have F1 := Lib.hid f1
          have F3 := Lib.hid f3
          clear f1 f3 ho hg hb hnx
          go_wp2
          go_roundw
          case rel => exact ⟨ao', cap', m + 1, pos + k, ns ++ [(r : Int)], rfl, F3⟩
          case measure => rw [F1.out, HM.out]; omega
        · have t2 : decide ((m : Int) ≤ 1024) = false := by simp; omega
          obtain ⟨f1, f2, f3⟩ := step_stay hat.out hp HL.out HI.out HO.out HB.out hc
          have F1 := Lib.hid f1
          have F3 := Lib.hid f3
          clear f1 f3
          go_wp2
          go_roundw
          case rel => exact ⟨ao, cap, m, pos + k, ns ++ [(r : Int)], rfl, F3⟩
          case measure => rw [F1.out, HM.out]; omega
    · have hnx : ∀ ty, (Instr.next (.pointer (some ⟨w.heap.size, 0, none⟩)) true ty).run Try.prog wr = .ok (.tuple #[.bool false]) wr := fun ty => Lib.run_next_end_at wr w.heap.size s pos ty hit hp
      have hend := at_end hat.out hp
      by_cases hc : ns.length ≤ 1024
      · have HF := Lib.hid (pr_some hend hc)
        have e1 : ns.take 1025 = ns := List.take_of_length_le (by omega)
        rw [e1] at hown hm
        have t1 : decide ((1024 : Int) < (m : Int)) = false := by simp; omega
        have t2 : decide (1024 < m) = false := by simp; omega
        have HO := Lib.hid hown
        have HM := Lib.hid hm
        clear hown e1 hend h3 hat hm
        go_wp2
        go_ret2
        rw [HF.out]
        have := HO.out
        rw [HM.out] at this
        exact ⟨ao, cap, by rw [HM.out]; rfl, this, hbel⟩
      · have HF := Lib.hid (pr_many hend hc)
        have t1 : decide ((1024 : Int) < (m : Int)) = true := by rw [hm, List.length_take]; simp; omega
        have t2 : decide (1024 < m) = true := by rw [hm, List.length_take]; simp; omega
        clear hown hend h3 hat hm
        go_wp2
        go_ret2
        rw [HF.out]
        exact ⟨none, 0, rfl, World.ownsRow_nil _ _ _ _, hbel⟩
end Go.Proofs.Ytpkhgjdpgbkchaa.Point
