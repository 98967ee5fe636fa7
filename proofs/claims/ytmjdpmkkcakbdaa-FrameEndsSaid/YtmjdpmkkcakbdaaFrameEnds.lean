/- FrameEnds answers true, and changes nothing that was there. Conditions: the slices' cells are bytes. -/
import Derived.Test.YtmjdpmkkcakbdaaFrameNames
namespace Go.Proofs.Ytmjdpmkkcakbdaa.Frame
open Go.RowKit Num Crc

/-- What Open answers, told by a Bool. -/
theorem open_is {w : World} {v : Value} {f : List UInt8} (hr : Reads w v f) (q : Bool) (h1 : q = true → IsFrame f) (h0 : q = false → ¬ IsFrame f) :
    Calls Try.prog 10 #[v] w fun e w' => ∃ ao len cap c, e = .returned (.tuple #[.slice ao len cap, .int .i64 c]) ∧ (c == 0) = q ∧ Below w.heap.size w w' := by
  refine (open_any hr).mono ?_
  rintro e w' ⟨u, c, rfl, h | h, hb'⟩
  · obtain ⟨x, hx, he, rfl, own⟩ := h
    obtain ⟨ao, cap, rfl⟩ := own_shape own
    refine ⟨ao, _, cap, 0, rfl, ?_, hb'⟩
    cases q with
    | true => rfl
    | false => exact absurd ⟨x, hx, he⟩ (h0 rfl)
  · obtain ⟨hn, rfl, rfl⟩ := h
    refine ⟨none, 0, 0, 30, rfl, ?_, hb'⟩
    cases q with
    | true => exact absurd (h1 rfl) hn
    | false => rfl

set_option maxHeartbeats 1000000 in
theorem ends_out (ao : Option Addr) (cap : Nat) (xs : List UInt8) (m : Int) (bo : Option Addr) (cb : Nat) (ys : List UInt8) (w : World) (h : 10000 < xs.length ∨ 1000 < ys.length) :
    Calls Try.prog 7 #[.slice ao xs.length cap, .int .i64 m, .slice bo ys.length cb] w fun e w' => e = .returned (.bool true) ∧ Below w.heap.size w w' := by
  by_cases h1 : 10000 < xs.length
  · have t1 : decide ((10000 : Int) < (xs.length : Int)) = true := by simp; omega
    have t2 : decide (10000 < xs.length) = true := by simpa using h1
    clear h
    go_enter Try.func7, Try.ntmps7
    go_wp2_with fail
    refine (alive_any _).mono ?_
    rintro e w1 ⟨rfl, b1⟩
    go_wp2
    go_ret
    exact ⟨rfl, b1⟩
  · have t1 : decide ((10000 : Int) < (xs.length : Int)) = false := by simp; omega
    have t2 : decide (10000 < xs.length) = false := by simpa using h1
    have t3 : decide ((1000 : Int) < (ys.length : Int)) = true := by simp; omega
    have t4 : decide (1000 < ys.length) = true := by simp; omega
    clear h
    go_enter Try.func7, Try.ntmps7
    go_wp2_with fail
    refine (alive_any _).mono ?_
    rintro e w1 ⟨rfl, b1⟩
    go_wp2
    go_ret
    exact ⟨rfl, b1⟩

set_option maxHeartbeats 1000000 in
theorem ends_walk (ao : Option Addr) (cap : Nat) (xs : List UInt8) (m : Int) (bo : Option Addr) (cb : Nat) (ys : List UInt8) (w : World) (hr : Reads w (.slice ao xs.length cap) xs) (hs : Reads w (.slice bo ys.length cb) ys) :
    Calls Try.prog 7 #[.slice ao xs.length cap, .int .i64 m, .slice bo ys.length cb] w fun e w' => e = .returned (.bool true) ∧ Below w.heap.size w w' := by
  by_cases h : 10000 < xs.length ∨ 1000 < ys.length
  · exact ends_out ao cap xs m bo cb ys w h
  have h1 : ¬ 10000 < xs.length := fun h' => h (.inl h')
  have h2 : ¬ 1000 < ys.length := fun h' => h (.inr h')
  have t1 : decide ((10000 : Int) < (xs.length : Int)) = false := by simp; omega
  have t2 : decide (10000 < xs.length) = false := by simpa using h1
  have t3 : decide ((1000 : Int) < (ys.length : Int)) = false := by simp; omega
  have t4 : decide (1000 < ys.length) = false := by simpa using h2
  have HR := Lib.hid hr
  have HS := Lib.hid hs
  have hxl : xs.length ≤ 16384 := by omega
  have HXl := Lib.hid hxl
  clear hr hs h hxl
  by_cases h3 : m < 0
  · have t5 : decide (m < 0) = true := by simpa using h3
    go_enter Try.func7, Try.ntmps7
    go_wp2_with fail
    refine (alive_any _).mono ?_
    rintro e w1 ⟨rfl, b1⟩
    have HR1 := Lib.hid (HR.out.keeps b1)
    clear HR HS
    go_wp2_with fail
    refine (wrap_yes HR1.out HXl.out).mono ?_
    rintro e w2 ⟨ax, cx, rfl, own2, b2⟩
    have hb2 := bt b1 b2
    clear own2 b1 b2 HR1
    go_wp2
    go_ret
    exact ⟨rfl, hb2⟩
  have t5 : decide (m < 0) = false := by simpa using h3
  obtain ⟨m, rfl⟩ := Int.eq_ofNat_of_zero_le (by omega : 0 ≤ m)
  obtain ⟨FR, hFR⟩ : ∃ l, l = framed xs := ⟨_, rfl⟩
  obtain ⟨n, hn⟩ : ∃ n, n = FR.length := ⟨_, rfl⟩
  have hn20 : n ≤ 20000 := by
    have e1 := framed_len xs
    have e2 := enc_len xs.length
    rw [hn, hFR]; omega
  obtain ⟨k, hk⟩ : ∃ k, k = if n < m then n else m := ⟨_, rfl⟩
  have hkn : k ≤ n := by rw [hk]; split <;> omega
  have k1 : (if (n : Int) < (m : Int) then (n : Int) else (m : Int)) = (k : Int) := by rw [hk]; split <;> split <;> omega
  have k2 : (if n < m then (n : Int) else (m : Int)) = (k : Int) := by rw [hk]; split <;> rfl
  obtain ⟨qa, hqa⟩ : ∃ q, q = decide (n ≤ m) := ⟨_, rfl⟩
  have t6 : decide (n ≤ m) = qa := hqa.symm
  have t6' : decide ((n : Int) ≤ (m : Int)) = qa := by rw [hqa]; simp
  obtain ⟨qb, hqb⟩ : ∃ q, q = ((ys.length : Int) == 0) := ⟨_, rfl⟩
  have t7 : ((ys.length : Int) == 0) = qb := hqb.symm
  have A1 : Hid (qa = true → IsFrame (FR.take k)) := by
    intro hq
    have hm : n ≤ m := by rw [hqa] at hq; simpa using hq
    have hkk : k = n := by rw [hk]; split <;> omega
    rw [hkk, hn, List.take_length]; exact ⟨xs, HXl.out, hFR⟩
  have A0 : Hid (qa = false → ¬ IsFrame (FR.take k)) := by
    intro hq
    have hm : ¬ n ≤ m := by rw [hqa] at hq; simpa using hq
    have hkk : k < n := by rw [hk]; split <;> omega
    rw [hFR]; exact no_less HXl.out (by rw [← hFR, ← hn]; exact hkk)
  have B1 : Hid (qb = true → IsFrame (FR ++ ys)) := by
    intro hq
    have : ys = [] := by rw [hqb] at hq; simpa using hq
    rw [this, List.append_nil]; exact ⟨xs, HXl.out, hFR⟩
  have B0 : Hid (qb = false → ¬ IsFrame (FR ++ ys)) := by
    intro hq
    rw [hFR]
    refine no_more HXl.out ?_
    rintro rfl
    rw [hqb] at hq
    simp at hq
  have HW : Hid (∀ (W : World) (v : Value), Reads W v xs → Calls Try.prog 9 #[v] W fun e w' => ∃ ao cap, e = .returned (.tuple #[.slice ao n cap, .int .i64 0]) ∧ w'.ownsRow W.heap.size 5 1 (.slice ao n cap) n (bs FR) ∧ Below W.heap.size W w') := fun W v h => by
    rw [hn, hFR]; exact wrap_yes h HXl.out
  have HN := Lib.hid hn
  clear hFR hn hk hqa hqb
  go_enter Try.func7, Try.ntmps7
  go_wp2_with fail
  refine (alive_any _).mono ?_
  rintro e w1 ⟨rfl, b1⟩
  have HR1 := Lib.hid (HR.out.keeps b1)
  have HS1 := Lib.hid (HS.out.keeps b1)
  clear HR
  go_wp2_with fail
  refine (HW.out _ _ HR1.out).mono ?_
  rintro e w2 ⟨ax, cx, rfl, own2, b2⟩
  have hb2 := bt b1 b2
  have HS2 := Lib.hid (HS1.out.keeps b2)
  have RX : Hid (Reads w2 (.slice ax n cx) FR) := by
    have h := own2
    rw [HN.out] at h ⊢
    exact Reads.own h
  have hcx : n ≤ cx := by have := (Reads.cap RX.out).2.1; have := HN.out; omega
  have i1 : (k : Int) ≤ (cx : Int) := by omega
  have RK : Hid (Reads w2 (.slice ax k cx) (FR.take k)) := by
    have h := RX.out
    have e := HN.out
    rw [e] at h
    exact h.take (by omega)
  clear own2 b1 b2 HR1 HS1 HW
  go_wp2_with fail
  refine (open_is RK.out qa A1.out A0.out).mono ?_
  rintro e w3 ⟨a3, l3, c3, z3, rfl, hz3, b3⟩
  have hb3 := bt hb2 b3
  have HS3 := Lib.hid (HS2.out.keeps b3)
  have RX3 := Lib.hid (RX.out.keeps b3)
  clear b3 hb2 HS2 RX RK A1 A0
  have own0 := own_new w3 w.heap.size hb3.size
  have hb3' : Below w.heap.size w (w3.alloc (.cells #[] 5)) := hb3.alloc hb3.size _
  have RX4 := Lib.hid (RX3.out.keeps ((Below.refl w3.heap.size w3).alloc (Nat.le_refl _) (.cells #[] 5)))
  have hs3 := hb3.size
  have hFl : FR.length ≤ 20000 := by have := HN.out; omega
  have HFl := Lib.hid hFl
  clear hFl
  go_wp2_with (at_builtin; refine wpList_append_bytes rfl (.tmp 52) (.tmp 53) rfl w.heap.size _ [] rfl own0 _ FR rfl RX4.out ?k1 ?k2 ?_)
  case k1 => have := HFl.out; simp; omega
  case k2 => simp; omega
  intro v5 w5 own5 b5
  have hb5 := hb3'.trans b5
  have HS5 : Hid (Reads w5 (.slice bo ys.length cb) ys) := by
    have h3 : Below w3.heap.size w3 (w3.alloc (.cells #[] 5)) := (Below.refl _ _).alloc (Nat.le_refl _) _
    exact HS.out.keeps hb5
  have hs5 := hb5.size
  clear own0 b5 hb3' RX4 hb3
  go_wp2_with (at_builtin; refine wpList_append_bytes rfl (.tmp 54) (.tmp 55) rfl w.heap.size _ _ rfl own5 _ ys rfl HS5.out ?k1 ?k2 ?_)
  case k1 => have := HFl.out; omega
  case k2 => omega
  intro v6 w6 own6 b6
  have hb6 := hb5.trans b6
  have RQ : Hid (Reads w6 v6 (FR ++ ys)) := Reads.own (by rw [List.length_append]; first | exact own6 | simpa using own6)
  clear own5 own6 b6 hb5
  go_wp2_with fail
  refine (open_is RQ.out qb B1.out B0.out).mono ?_
  rintro e w7 ⟨a7, l7, c7, z7, rfl, hz7, b7⟩
  have hb7 := bt hb6 b7
  clear b7 hb6 RQ
  go_wp2
  go_ret
  exact ⟨rfl, hb7⟩
end Go.Proofs.Ytmjdpmkkcakbdaa.Frame
