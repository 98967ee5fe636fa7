/- FrameBack answers true, and changes nothing that was there. Conditions: the slice's cells are bytes. -/
import Derived.Test.YtmjdpmkkcakbdaaFrameNames
namespace Go.Proofs.Ytmjdpmkkcakbdaa.Frame
open Go.RowKit Num Crc

theorem str_self (xs : List UInt8) : ((str xs).toList == (str xs).toList) = true := by simp

set_option maxHeartbeats 1000000 in
theorem back_walk (ao : Option Addr) (cap : Nat) (xs : List UInt8) (w : World) (hr : Reads w (.slice ao xs.length cap) xs) :
    Calls Try.prog 5 #[.slice ao xs.length cap] w fun e w' => e = .returned (.bool true) ∧ Below w.heap.size w w' := by
  by_cases h2 : 20000 < xs.length
  · have t1 : decide ((20000 : Int) < (xs.length : Int)) = true := by simp; omega
    have t2 : decide (20000 < xs.length) = true := by simpa using h2
    clear hr
    go_enter Try.func5, Try.ntmps5
    go_wp2_with fail
    refine (alive_any _).mono ?_
    rintro e w1 ⟨rfl, b1⟩
    go_wp2
    go_ret
    exact ⟨rfl, b1⟩
  have t1 : decide ((20000 : Int) < (xs.length : Int)) = false := by simp; omega
  have t2 : decide (20000 < xs.length) = false := by simpa using h2
  have HR := Lib.hid hr
  have hE := str_self xs
  clear hr
  by_cases h1 : xs.length ≤ 16384
  · have t3 : decide ((xs.length : Int) ≤ 16384) = true := by simp; omega
    have t4 : decide (xs.length ≤ 16384) = true := by simpa using h1
    go_enter Try.func5, Try.ntmps5
    go_wp2_with fail
    refine (alive_any _).mono ?_
    rintro e w1 ⟨rfl, b1⟩
    have HR1 := Lib.hid (HR.out.keeps b1)
    clear HR
    go_wp2_with fail
    refine (wrap_yes HR1.out h1).mono ?_
    rintro e w2 ⟨ax, cx, rfl, own2, b2⟩
    have hb2 := bt b1 b2
    have HR2 := Lib.hid (HR1.out.keeps b2)
    have RX := Lib.hid (Reads.own own2)
    clear own2 b1 b2 HR1
    go_wp2_with fail
    refine (open_yes RX.out h1).mono ?_
    rintro e w3 ⟨ay, cy, rfl, own3, b3⟩
    have hb3 := bt hb2 b3
    have HR3 := Lib.hid (HR2.out.keeps b3)
    have q1 := run_string (Reads.own own3)
    have q2 := run_string HR3.out
    clear own3 hb2 b3 HR2 RX
    go_wp2_with fail
    refine (open_any HR3.out).mono ?_
    rintro e w4 ⟨u, c, rfl, hO, b4⟩
    have hb4 := bt hb3 b4
    have HR4 := Lib.hid (HR3.out.keeps b4)
    clear hb3 b4 HR3 q1 q2
    rcases hO with ⟨z, hz, he, rfl, own4⟩ | ⟨_, rfl, rfl⟩
    · obtain ⟨az, cz, rfl⟩ := own_shape own4
      have RZ := Lib.hid (Reads.own own4)
      have HE := Lib.hid he
      clear own4 he
      go_wp2_with fail
      refine (wrap_yes RZ.out hz).mono ?_
      rintro e w5 ⟨aw, cw, rfl, own5, b5⟩
      have hb5 := bt hb4 b5
      have RW := Reads.own own5
      rw [← HE.out] at RW
      rw [← HE.out]
      have q1 := run_string RW
      have q2 := run_string (HR4.out.keeps b5)
      clear own5 hb4 b5 RZ HR4 RW
      go_wp2
      go_ret
      exact ⟨rfl, hb5⟩
    · go_wp2
      go_ret
      exact ⟨rfl, hb4⟩
  · have t3 : decide ((xs.length : Int) ≤ 16384) = false := by simp; omega
    have t4 : decide (xs.length ≤ 16384) = false := by simpa using h1
    go_enter Try.func5, Try.ntmps5
    go_wp2_with fail
    refine (alive_any _).mono ?_
    rintro e w1 ⟨rfl, b1⟩
    have HR1 := Lib.hid (HR.out.keeps b1)
    clear HR
    go_wp2_with fail
    refine (wrap_no HR1.out h1).mono ?_
    rintro e w2 ⟨rfl, b2⟩
    have hb2 := bt b1 b2
    have HR2 := Lib.hid (HR1.out.keeps b2)
    clear b1 b2 HR1
    go_wp2_with fail
    refine (open_any HR2.out).mono ?_
    rintro e w4 ⟨u, c, rfl, hO, b4⟩
    have hb4 := bt hb2 b4
    have HR4 := Lib.hid (HR2.out.keeps b4)
    clear hb2 b4 HR2
    rcases hO with ⟨z, hz, he, rfl, own4⟩ | ⟨_, rfl, rfl⟩
    · obtain ⟨az, cz, rfl⟩ := own_shape own4
      have RZ := Lib.hid (Reads.own own4)
      have HE := Lib.hid he
      clear own4 he
      go_wp2_with fail
      refine (wrap_yes RZ.out hz).mono ?_
      rintro e w5 ⟨aw, cw, rfl, own5, b5⟩
      have hb5 := bt hb4 b5
      have RW := Reads.own own5
      rw [← HE.out] at RW
      rw [← HE.out]
      have q1 := run_string RW
      have q2 := run_string (HR4.out.keeps b5)
      clear own5 hb4 b5 RZ HR4 RW
      go_wp2
      go_ret
      exact ⟨rfl, hb5⟩
    · go_wp2
      go_ret
      exact ⟨rfl, hb4⟩
end Go.Proofs.Ytmjdpmkkcakbdaa.Frame
