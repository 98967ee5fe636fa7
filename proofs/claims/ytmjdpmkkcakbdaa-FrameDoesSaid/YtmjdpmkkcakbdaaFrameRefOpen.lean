/- What the reference's Open answers. Conditions: bytes that a slice can hold. -/
import Derived.Test.YtmjdpmkkcakbdaaFrameRef
import Derived.Test.YtmjdpmkkcakbdaaFrameOpen
namespace Go.Proofs.Ytmjdpmkkcakbdaa.Frame
open Go.RowKit Num Crc

theorem frame_long {f : List UInt8} (h : f.length < 6) : ¬ IsFrame f := by
  rintro ⟨b, hb, rfl⟩
  have := framed_len b
  have := enc_len b.length
  omega

set_option maxHeartbeats 1000000 in
theorem refOpen_any {w : World} {v : Value} {f : List UInt8} (hr : Reads w v f) (h47 : f.length ≤ 140737488355328) :
    Calls Try.prog 12 #[v] w fun e w' => ∃ u c, e = .returned (.tuple #[u, .int .i64 c]) ∧ Opened f u c w.heap.size w' ∧ Below w.heap.size w w' := by
  obtain ⟨ao, cap, rfl⟩ := hr.shape
  by_cases h6 : f.length < 6
  · have t0 : decide (f.length < 6) = true := by simpa using h6
    have t0' : decide ((f.length : Int) < 6) = true := by simp; omega
    have hno := Lib.hid (frame_long h6)
    clear hr
    go_enter Try.func12, Try.ntmps12
    go_wp2
    go_ret2
    exact ⟨_, _, rfl, .inr ⟨hno.out, rfl, rfl⟩, Below.refl _ _⟩
  have t0 : decide (f.length < 6) = false := by simpa using h6
  have t0' : decide ((f.length : Int) < 6) = false := by simp; omega
  obtain ⟨c, t, rfl⟩ : ∃ c t, f = c :: t := by
    cases f with
    | nil => simp at h6
    | cons c t => exact ⟨c, t, rfl⟩
  have hl : (c :: t).length = t.length + 1 := rfl
  obtain ⟨b, off, rfl, _, _⟩ := hr.at 0 (by simp)
  have hcp := (Reads.cap hr).2.1
  have hc1 : cap ≠ 1 := by omega
  have K := Lib.hid ((reads_tail hr).2 hc1)
  have hr1 := hr.1
  have HR := Lib.hid hr
  rcases get_cases t with hg | ⟨m, r, hg, hm, ht⟩
  · have HG := Lib.hid hg
    have hno := Lib.hid (not_read (c := c) hg)
    clear hr hg
    go_enter Try.func12, Try.ntmps12
    go_wp2_with fail
    refine (refGet_reads K.out HG.out).mono ?_
    rintro e w1 ⟨rfl, rfl⟩
    go_wp2
    go_ret2
    exact ⟨_, _, rfl, .inr ⟨hno.out, rfl, rfl⟩, Below.refl _ _⟩
  have hk := enc_len m
  have hm2 : m ≤ 1099511627776 := hm
  obtain ⟨k, hkk⟩ : ∃ k, k = (enc m).length := ⟨_, rfl⟩
  by_cases hbad : 16384 < m ∨ 1 + (enc m).length + m + 4 ≠ (c :: t).length
  · have hno : Hid (¬ IsFrame (c :: t)) := by
      by_cases hc : c = 70
      · subst hc; exact not_shaped hg hbad
      · exact not_first hc
    rw [← hkk] at hg hk hbad
    have HG := Lib.hid hg
    clear hr hg hkk ht
    by_cases hm1 : 16384 < m
    · have t1 : decide ((16384 : Int) < (m : Int)) = true := by simp; omega
      have t2 : decide (16384 < m) = true := by simpa using hm1
      clear hbad
      go_enter Try.func12, Try.ntmps12
      go_wp2_with fail
      refine (refGet_reads K.out HG.out).mono ?_
      rintro e w1 ⟨rfl, rfl⟩
      go_wp2
      go_ret2
      exact ⟨_, _, rfl, .inr ⟨hno.out, rfl, rfl⟩, Below.refl _ _⟩
    · have t1 : decide ((16384 : Int) < (m : Int)) = false := by simp; omega
      have t2 : decide (16384 < m) = false := by simpa using hm1
      have h' : 1 + k + m + 4 ≠ t.length + 1 := by
        rcases hbad with h | h
        · exact absurd h hm1
        · exact h
      have t3 : ((t.length : Int) + 1 != 1 + (k : Int) + (m : Int) + 4) = true := by rw [bne_iff_ne]; omega
      clear hbad h'
      go_enter Try.func12, Try.ntmps12
      go_wp2_with fail
      refine (refGet_reads K.out HG.out).mono ?_
      rintro e w1 ⟨rfl, rfl⟩
      go_wp2
      go_ret2
      exact ⟨_, _, rfl, .inr ⟨hno.out, rfl, rfl⟩, Below.refl _ _⟩
  · have hm1 : ¬ 16384 < m := fun h => hbad (.inl h)
    have heq : 1 + (enc m).length + m + 4 = (c :: t).length := Classical.not_not.1 fun h => hbad (.inr h)
    rw [← hkk] at heq
    have t1 : decide ((16384 : Int) < (m : Int)) = false := by simp; omega
    have t2 : decide (16384 < m) = false := by simpa using hm1
    have t3 : ((t.length : Int) + 1 != 1 + (k : Int) + (m : Int) + 4) = false := by rw [bne_eq_false_iff_eq]; omega
    have rx : Reads w (.slice (some ⟨b, off + (1 + k), none⟩) m (cap - (1 + k))) (((c :: t).take (1 + k + m)).drop (1 + k)) := by
      have h := reads_piece hr (1 + k) (1 + k + m) (by omega) (by omega)
      rw [show 1 + k + m - (1 + k) = m by omega] at h; exact h
    obtain ⟨x, hx⟩ : ∃ x, x = ((c :: t).take (1 + k + m)).drop (1 + k) := ⟨_, rfl⟩
    rw [← hx] at rx
    have hxl : x.length = m := by rw [hx]; simp; omega
    have hfr : Hid (IsFrame (c :: t) → c :: t = framed x) := by
      intro hf
      obtain ⟨hc, b', hb', e1, e2⟩ := frame_cons hf
      rw [hg] at e2
      have hb2 := (Prod.mk.inj e2).1
      have hsh : Shaped (c :: t) b' (le4 (sumT entry (pre b'))) := ⟨hb', rfl, e1⟩
      have h3 := shaped_body hsh
      rw [← hb2, ← hkk] at h3
      have h4 : x = b' := by
        rw [hx, List.drop_take, show 1 + k + m - (1 + k) = m by omega, h3]
      rw [h4]; exact e1
    have HG : Hid (get t = (m, k, 0)) := by rw [hkk]; exact hg
    have RX := Lib.hid rx
    have HX := Lib.hid hx
    have HXl := Lib.hid hxl
    have e2 : 1 + k + m - (1 + k) = m := by omega
    obtain ⟨q, hq⟩ : ∃ q, q = (framed x == c :: t) := ⟨_, rfl⟩
    have E1 : ((str (framed x)).toList == (str (c :: t)).toList) = q := by rw [hq, ByteArray.toList_eq, ByteArray.toList_eq]; simp [str]
    have HQ := Lib.hid hq
    obtain ⟨X, hX⟩ : ∃ X, X = framed x := ⟨_, rfl⟩
    have HF : Hid (∀ (W : World) (v : Value), Reads W v x → Calls Try.prog 19 #[v] W fun e w' => ∃ u, e = .returned u ∧ w'.ownsRow W.heap.size 5 1 u X.length (bs X) ∧ Below W.heap.size W w') := fun W v h => by rw [hX]; exact refFramed_any h (by omega)
    have HXX := Lib.hid hX
    obtain ⟨f, hf⟩ : ∃ f, f = c :: t := ⟨_, rfl⟩
    rw [← hX, ← hf] at E1
    have HF0 : Hid (Reads w (.slice (some ⟨b, off, none⟩) (t.length + 1) cap) f) := by rw [hf]; exact hr
    have s1 := run_string HF0.out
    have s0 : ∀ nq, (convert 23 9 (.slice (some ⟨b, off, none⟩) (t.length + 1) cap)).run Try.prog (w.drewN nq) = .ok (.string (str f)) (w.drewN nq) := fun nq => run_string (w := w.drewN nq) HF0.out
    have s00 : (convert 23 9 (.slice (some ⟨b, off, none⟩) (t.length + 1) cap)).run Try.prog w.drew = .ok (.string (str f)) w.drew := run_string (w := w.drew) HF0.out
    have i1 : (1 : Int) + (k : Int) ≤ 1 + (k : Int) + (m : Int) := by omega
    have i2 : (1 : Int) + (k : Int) + (m : Int) ≤ (cap : Int) := by omega
    have i3 : ¬ cap = 1 + k := by omega
    clear hr hg hkk ht hbad rx hx hxl hq hX hf
    go_enter Try.func12, Try.ntmps12
    go_wp2_with fail
    refine (refGet_reads K.out HG.out).mono ?_
    rintro e w1 ⟨rfl, rfl⟩
    go_upto_region 7 with fail
    rw [e2]
    go_cut [47] from 42 to 46 (fun p wx => p = .bool (!q) ∧ Below w.heap.size w wx)
    case first =>
      go_region_with (first | (go_at_call 19; refine (HF.out _ _ ?hbs).mono ?_; (case hbs => exact RX.out); rintro e w1 ⟨u, rfl, own1, b1⟩; have s2 := run_string (Reads.own own1); have s3 := run_string (HF0.out.keeps (Below.trans ((Below.refl w.heap.size w).drew) b1))))
      all_goals (go_wp2_with fail; go_meet)
      all_goals exact ⟨rfl, Below.trans ((Below.refl w.heap.size w).drew) b1⟩
    case rest =>
      obtain ⟨rfl, hbc⟩ := hcut
      have RX2 := Lib.hid (RX.out.keeps hbc)
      cases q with
      | false =>
        go_wp2_with fail
        go_ret2
        refine ⟨_, _, rfl, .inr ⟨?_, rfl, rfl⟩, hbc⟩
        intro hf
        have h2 := HQ.out
        rw [hfr.out hf] at h2
        simp at h2
      | true =>
        have hb1 : Below w.heap.size w (wc.alloc (.cells #[] 5)) := hbc.alloc hbc.size _
        have RX3 := Lib.hid (RX.out.keeps hb1)
        have own0 := own_new wc w.heap.size hbc.size
        have hs0 := hbc.size
        go_wp2_with (at_builtin; refine wpList_append_bytes rfl (.tmp 48) (.tmp 49) rfl w.heap.size _ [] rfl own0 _ x rfl RX3.out ?k1 ?k2 ?_)
        case k1 => have := HXl.out; simp; omega
        case k2 => simp; omega
        intro v2 w2 own2 b2
        have hb := hb1.trans b2
        have HO := Lib.hid own2
        clear own2 b2 own0
        go_wp2
        go_ret2
        refine ⟨_, _, rfl, .inl ⟨x, by have := HXl.out; omega, ?_, rfl, HO.out⟩, hb⟩
        have h2 := HQ.out
        have h3 : framed x = c :: t := by simpa using h2
        exact h3.symm
end Go.Proofs.Ytmjdpmkkcakbdaa.Frame
