/- CrcSelf answers true, and changes nothing that was there. Conditions: the slice's cells are bytes. -/
import Derived.Test.YtmhjepdnagmkpaaCrcLaws
namespace Go.Proofs.Ytmhjepdnagmkpaa.Crc
open Go.RowKit

set_option maxHeartbeats 1000000 in
theorem self_walk (ao : Option Addr) (cap : Nat) (xs : List UInt8) (w : World) (hr : Reads w (.slice ao xs.length cap) xs) :
    Calls Try.prog 6 #[.slice ao xs.length cap] w fun e w' => e = .returned (.bool true) ∧ Below w.heap.size w w' := by
  have HR := Lib.hid hr
  clear hr
  by_cases hlen : 10000 < xs.length
  · have t1 : decide ((10000 : Int) < (xs.length : Int)) = true := by simp; omega
    have t2 : decide (10000 < xs.length) = true := by simp; omega
    go_enter Try.func6, Try.ntmps6
    go_wp2_with fail
    refine (alive_any w).mono ?_
    rintro e w1 ⟨rfl, b1⟩
    go_wp2
    go_ret
    exact ⟨rfl, b1⟩
  · have t1 : decide ((10000 : Int) < (xs.length : Int)) = false := by simp; omega
    have t2 : decide (10000 < xs.length) = false := by simp; omega
    obtain ⟨s, hs⟩ : ∃ s, s = sumT entry xs := ⟨_, rfl⟩
    have hlt : s < 4294967296 := by rw [hs]; exact sumT_lt tab_lt xs
    have hfin := own_sum xs s hs
    have HS := Lib.hid hs
    clear hs
    obtain ⟨t, ht⟩ : ∃ t : List UInt8, t = [UInt8.ofNat (s % 256), UInt8.ofNat (s / 256 % 256), UInt8.ofNat (s / 65536 % 256), UInt8.ofNat (s / 16777216)] := ⟨_, rfl⟩
    rw [← ht] at hfin
    have htl : t.length = 4 := by rw [ht]; rfl
    have HF := Lib.hid hfin
    have htb : bs t = [.int .u8 ((s : Int) % 256), .int .u8 ((s : Int) / 256 % 256), .int .u8 ((s : Int) / 65536 % 256), .int .u8 ((s : Int) / 16777216)] := by
      rw [ht]; simp [bs]; omega
    have HT := Lib.hid htb
    have HL := Lib.hid htl
    clear hfin ht htb htl
    go_enter Try.func6, Try.ntmps6
    go_wp2_with fail
    refine (alive_any w).mono ?_
    rintro e w1 ⟨rfl, b1⟩
    have HR1 := Lib.hid (HR.out.below b1 (fun h => HR.out.lies h))
    go_wp2_with fail
    refine (sum_reads HR1.out).mono ?_
    rw [← HS.out]
    rintro e w2 ⟨rfl, b2⟩
    have hb2 := bt b1 b2
    have HR2 := Lib.hid (HR1.out.below b2 (fun h => HR1.out.lies h))
    clear b1 b2
    have own0 := own_new w2 w2.heap.size (Nat.le_refl _)
    have HR3 := Lib.hid (HR2.out.below ((Below.refl _ _).alloc (Nat.le_refl _) (.cells #[] 5)) (fun h => HR2.out.lies h))
    go_wp2_with (at_builtin; refine wpList_append_bytes rfl (.tmp 13) (.tmp 14) rfl w2.heap.size _ [] rfl own0 _ xs rfl HR3.out ?c1 ?c2 ?_)
    case c1 => simp; omega
    case c2 => simp
    intro v3 w3 own3 b3
    have hN : Reads (w3.alloc (.cells #[.int .u8 ((s : Int) % 256), .int .u8 ((s : Int) / 256 % 256), .int .u8 ((s : Int) / 65536 % 256), .int .u8 ((s : Int) / 16777216)] 5)) (.slice (some ⟨w3.heap.size, 0, none⟩) 4 4) t := by
      have h := reads_new w3 t (by rw [HL.out]; decide) (0, 0)
      rw [HT.out, HL.out] at h; exact h
    have HN := Lib.hid hN
    have hb3 : Below w.heap.size w w3 := (hb2.alloc hb2.size _).trans (b3.mono hb2.size)
    have hsz : w2.heap.size ≤ w3.heap.size := by have := b3.size; simp at this; omega
    have own4 := own3.alloc (.cells #[.int .u8 ((s : Int) % 256), .int .u8 ((s : Int) / 256 % 256), .int .u8 ((s : Int) / 65536 % 256), .int .u8 ((s : Int) / 16777216)] 5)
    clear own0 own3 b3 hN
    have c3 : xs.length + t.length ≤ 140737488355328 := by rw [HL.out]; omega
    have C3 := Lib.hid c3
    clear c3
    go_wp2_with (at_builtin; refine wpList_append_bytes rfl (.tmp 15) (.tmp 30) rfl w2.heap.size _ xs rfl own4 _ t rfl HN.out C3.out ?c4 ?_)
    case c4 => simp; omega
    intro v5 w5 own5 b5
    have hb5 : Below w.heap.size w w5 := (hb3.alloc hb3.size _).trans (b5.mono hb2.size)
    have HO := Lib.hid (Reads.own (xs := xs ++ t) (by rw [List.length_append]; exact own5))
    clear own5 b5 own4 hb3
    go_wp2_with fail
    refine (sum_reads HO.out).mono ?_
    rw [HF.out]
    rintro e w6 ⟨rfl, b6⟩
    have hb6 := bt hb5 b6
    clear b6 hb5
    go_wp2
    go_ret
    exact ⟨rfl, hb6⟩
end Go.Proofs.Ytmhjepdnagmkpaa.Crc
