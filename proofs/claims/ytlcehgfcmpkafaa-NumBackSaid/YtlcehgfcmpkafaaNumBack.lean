/- NumBack answers true, and changes nothing that was there. Conditions: the slice's cells are bytes. -/
import Derived.Test.YtlcehgfcmpkafaaNumLaws2
import Derived.Laws.AppendOwnNone
import Derived.BigQuiet
import Derived.Deep.QuietTactic
namespace Go.Proofs.Ytlcehgfcmpkafaa.Num
open Go.RowKit Go.WideShapes

theorem Reads.news {w : World} {a : Addr} {cap : Nat} {xs : List UInt8} (h : Reads w (.slice (some a) xs.length cap) xs) : ∀ j u, (bs xs)[j]? = some u → w.cell? (a.add j) = some u := by
  obtain ⟨h1, ao', cap', he, h2, h3, h4, h5⟩ := h
  simp only [Value.slice.injEq, true_and] at he
  obtain ⟨he, rfl⟩ := he
  intro j u hj
  have hjl : j < xs.length := by
    rcases Nat.lt_or_ge j (bs xs).length with h | h
    · rw [bs_len] at h; exact h
    · rw [List.getElem?_eq_none h] at hj; cases hj
  rcases h5 with rfl | ⟨b, off, hb, hlt, hc⟩
  · simp at hjl
  · rw [hb] at he
    simp only [Option.some.injEq] at he
    subst he
    rw [add_plain, hc j hjl]
    rw [bs_get xs j hjl] at hj
    exact hj

theorem back_walk (n : Int) (ao : Option Addr) (cap : Nat) (xs : List UInt8) (w : World) (hr : Reads w (.slice ao xs.length cap) xs) :
    Calls Try.prog 5 #[.int .i64 n, .slice ao xs.length cap] w fun e w' => e = .returned (.bool true) ∧ Below w.heap.size w w' := by
  go_enter Try.func5, Try.ntmps5
  go_wp2_with fail
  refine (alive_any w).mono ?_
  rintro e w1 ⟨rfl, b1⟩
  by_cases hlen : 10000 < xs.length
  · have t2 : decide (10000 < xs.length) = true := by simp; omega
    have t1 : decide ((10000 : Int) < (xs.length : Int)) = true := by simp; omega
    go_wp2
    go_ret
    exact ⟨rfl, b1⟩
  · have t1 : decide ((10000 : Int) < (xs.length : Int)) = false := by simp; omega
    have t2 : decide (10000 < xs.length) = false := by simp; omega
    have HR1 := Lib.hid (hr.below b1 (fun h => hr.lies h))
    have HL1 : Hid (xs ≠ [] → Lies w1.heap.size (.slice ao xs.length cap)) := fun h => HR1.out.lies h
    go_wp2_with fail
    refine (put_any n w1).mono ?_
    rintro e w2 ⟨ax, lx, cx, x, rfl, hx, b2⟩
    obtain ⟨L, hL, hl, hLc⟩ := hx.reads
    have hb2 := bt b1 b2
    have HR2 := Lib.hid (HR1.out.below b2 HL1.out)
    have HL2 : Hid (xs ≠ [] → Lies w2.heap.size (.slice ao xs.length cap)) := fun h => HR2.out.lies h
    clear hx
    rcases hLc with ⟨h1, h2, rfl, h4, rfl⟩ | ⟨h1, rfl, h3, h5⟩
    · obtain ⟨N, rfl⟩ := Int.eq_ofNat_of_zero_le h1
      have hLe : L = enc N := by simpa using h4
      have hLn := encF_len 5 N
      have hL1 : 1 ≤ L.length := by rw [hLe]; exact hLn.1
      have hL6 : L.length ≤ 6 := by rw [hLe]; exact hLn.2
      have hg0 : get (L ++ xs) = (N, L.length, 0) := by rw [hLe]; exact get_enc N (by unfold most; omega) xs
      have HG0 := Lib.hid hg0
      clear h4 hLe hLn hg0
      obtain ⟨i0, hi, hz0, hz1, hz2⟩ := info_parts info_u8
      have hLne : L ≠ [] := by rintro rfl; simp at hL1
      obtain ⟨a1, rfl⟩ : ∃ a, ax = some a := by
        obtain ⟨_, _, _, he, _, _, h0, hcs⟩ := hL
        simp only [Value.slice.injEq, true_and] at he
        rcases hcs with hcs | ⟨b, off, hb, _⟩
        · exact absurd hcs hLne
        · exact ⟨_, he.1.trans hb⟩
      have own0 := World.ownsRow_made (base := w2.heap.size) (e := 5) (size := 1) w2 #[] 0 (Nat.le_refl _) (by decide) rfl
      have news1 := Reads.news (hL.below (Below.refl w2.heap.size w2 |>.alloc (Nat.le_refl _) (.cells #[] 5)) hl)
      have HL := Lib.hid hl
      clear hL hl hLne
      go_wp2_with (at_builtin; refine wpList_append_own _ rfl (.tmp 33) (.tmp 34) 25 rfl w2.heap.size 5 i0 (.int .u8 0) 1 1 Try.underlying25 hi hz0 hz1 hz2 rfl (by decide) _ _ _ rfl own0 a1 L.length cx (bs L) rfl ?c0 news1 (bs_oneCell L) ?c3 ?c4 ?c5 ?_)
      case c0 => rw [bs_len, Nat.mul_one]
      case c3 => unfold maxLen; omega
      case c4 => omega
      case c5 => simp
      intro v3 w3 hown30 hgrow3 _
      have hown3 : w3.ownsRow w2.heap.size 5 1 v3 L.length (bs L) := by simpa using hown30
      clear hown30
      have b3 : Below w2.heap.size w2 w3 := ((Below.refl _ _).alloc (Nat.le_refl _) _).grown hgrow3 (by simp) (fun j hj => (own0.lt j hj).1)
      have hb3 := bt hb2 b3
      have HR3 := Lib.hid (HR2.out.below b3 HL2.out)
      have hx10 : xs.length ≤ 10000 := by omega
      have hw3 : w2.heap.size ≤ w3.heap.size := b3.size
      clear hgrow3 news1 own0 b3 t1 t2
      cases ao with
      | none =>
        obtain ⟨rfl, rfl⟩ : xs = [] ∧ cap = 0 := by
          obtain ⟨_, _, _, he, hc, _, h0, hcs⟩ := HR3.out
          simp only [Value.slice.injEq, true_and] at he
          have := h0 he.1.symm
          exact ⟨List.length_eq_zero_iff.1 (by omega), by omega⟩
        go_wp2_with (at_builtin; refine wpList_append_own_none rfl (.tmp 35) (.tmp 36) 25 rfl w2.heap.size 5 i0 1 Try.underlying25 hi v3 L.length (bs L) rfl hown3 rfl ?_)
        have HRl : Hid (Reads w3 v3 (L ++ [])) := by rw [List.append_nil]; exact Reads.own hown3
        have HRW := HR3
        have hbW := hb3
        clear hown3
        go_wp2_with fail
        refine (get_reads HRl.out HG0.out).mono ?_
        rintro e w4 ⟨rfl, rfl⟩
        have hgn : get ([] : List UInt8) = (0, 0, 8) := rfl
        have HG := Lib.hid hgn
        clear hgn
        go_wp2_with fail
        refine (get_reads HRW.out HG.out).mono ?_
        rintro e w5 ⟨rfl, rfl⟩
        go_wp2
        go_ret
        exact ⟨rfl, hbW⟩
      | some a2 =>
        have news2 := Reads.news HR3.out
        go_wp2_with (at_builtin; refine wpList_append_own _ rfl (.tmp 35) (.tmp 36) 25 rfl w2.heap.size 5 i0 (.int .u8 0) 1 1 Try.underlying25 hi hz0 hz1 hz2 rfl (by decide) _ _ _ rfl hown3 a2 xs.length cap (bs xs) rfl ?d0 news2 (bs_oneCell xs) ?d3 ?d4 ?d5 ?_)
        case d0 => rw [bs_len, Nat.mul_one]
        case d3 => unfold maxLen; omega
        case d4 => omega
        case d5 => omega
        intro v4 w4 hown4 hgrow4 _
        have b4 : Below w2.heap.size w3 w4 := (Below.refl _ _).grown hgrow4 hw3 (fun j hj => (hown3.lt j hj).1)
        have hbW := hb3.trans (b4.mono hb2.size)
        have HRW := Lib.hid (HR3.out.below b4 (by intro h k hk; exact HL2.out h k hk))
        have HRl : Hid (Reads w4 v4 (L ++ xs)) := Reads.own (by rw [bs_append, List.length_append]; exact hown4)
        clear hown4 hgrow4 hown3 news2 b4
        go_wp2_with fail
        refine (get_reads HRl.out HG0.out).mono ?_
        rintro e w5 ⟨rfl, rfl⟩
        rcases get_cases xs with hg | ⟨m, t, hg, hm, hxs⟩
        · have HG := Lib.hid hg
          clear hg
          go_wp2_with fail
          refine (get_reads HRW.out HG.out).mono ?_
          rintro e w5 ⟨rfl, rfl⟩
          go_wp2
          go_ret
          exact ⟨rfl, hbW⟩
        · obtain ⟨E, hE⟩ : ∃ E, E = enc m := ⟨_, rfl⟩
          rw [← hE] at hg hxs
          have hEl : E.length ≤ xs.length := by rw [hxs]; simp
          have hEt : xs.take E.length = E := by rw [hxs]; simp
          have hcap : xs.length ≤ cap := by
            obtain ⟨_, _, _, he, hc, _⟩ := HRW.out
            simp only [Value.slice.injEq, true_and] at he
            rw [he.2]; exact hc
          have hEc : E.length ≤ cap := by omega
          have HG := Lib.hid hg
          have HE := Lib.hid hE
          have HEt := Lib.hid hEt
          have HM := Lib.hid hm
          clear hg hE hEt hxs hm
          go_wp2_with fail
          refine (get_reads HRW.out HG.out).mono ?_
          rintro e w5 ⟨rfl, rfl⟩
          go_wp2_with fail
          refine (put_yes m HM.out w4).mono ?_
          rintro e w6 ⟨y, rfl, hy, b6⟩
          have HR6 := HRW.out.below b6 (fun h => HRW.out.lies h)
          have hy' : Reads w6 y E := Reads.own (by rw [HE.out]; exact hy)
          have s1 : ∀ nq, (convert 25 9 y).run Try.prog (w6.drewN nq) = .ok (.string (str E)) (w6.drewN nq) := fun nq => run_string (w := w6.drewN nq) hy'
          have s2 : ∀ nq, (convert 25 9 (.slice (some a2) E.length cap)).run Try.prog (w6.drewN nq) = .ok (.string (str E)) (w6.drewN nq) := fun nq => run_string (w := w6.drewN nq) (by have h := HR6.take hEl; rw [HEt.out] at h; exact h)
          have t5 : decide (E.length ≤ xs.length) = true := decide_eq_true hEl
          have t6 : decide ((E.length : Int) ≤ (xs.length : Int)) = true := decide_eq_true (by omega)
          have hbF := bt hbW b6
          clear hy hy' HR6 b6
          go_wp2
          go_quiet (fail)
          go_wp2
          go_ret
          exact ⟨rfl, hbF.trans ⟨rfl, rfl, rfl, Nat.le_refl _, fun _ _ => rfl⟩⟩
    · have HRW := HR2
      have hbW := hb2
      clear hL hl
      rcases get_cases xs with hg | ⟨m, t, hg, hm, hxs⟩
      · have HG := Lib.hid hg
        clear hg
        go_wp2_with fail
        refine (get_reads HRW.out HG.out).mono ?_
        rintro e w5 ⟨rfl, rfl⟩
        go_wp2
        go_ret
        exact ⟨rfl, hbW⟩
      · obtain ⟨E, hE⟩ : ∃ E, E = enc m := ⟨_, rfl⟩
        rw [← hE] at hg hxs
        have hEl : E.length ≤ xs.length := by rw [hxs]; simp
        have hEt : xs.take E.length = E := by rw [hxs]; simp
        have hcap : xs.length ≤ cap := by
          obtain ⟨_, _, _, he, hc, _⟩ := HRW.out
          simp only [Value.slice.injEq, true_and] at he
          rw [he.2]; exact hc
        have hEc : E.length ≤ cap := by omega
        have HG := Lib.hid hg
        have HE := Lib.hid hE
        have HEt := Lib.hid hEt
        have HM := Lib.hid hm
        clear hg hE hEt hxs hm
        go_wp2_with fail
        refine (get_reads HRW.out HG.out).mono ?_
        rintro e w5 ⟨rfl, rfl⟩
        go_wp2_with fail
        refine (put_yes m HM.out w2).mono ?_
        rintro e w6 ⟨y, rfl, hy, b6⟩
        have HR6 := HRW.out.below b6 (fun h => HRW.out.lies h)
        have hy' : Reads w6 y E := Reads.own (by rw [HE.out]; exact hy)
        have s1 : ∀ nq, (convert 25 9 y).run Try.prog (w6.drewN nq) = .ok (.string (str E)) (w6.drewN nq) := fun nq => run_string (w := w6.drewN nq) hy'
        have s2 : ∀ nq, (convert 25 9 (.slice ao E.length cap)).run Try.prog (w6.drewN nq) = .ok (.string (str E)) (w6.drewN nq) := fun nq => run_string (w := w6.drewN nq) (by have h := HR6.take hEl; rw [HEt.out] at h; exact h)
        have t5 : decide (E.length ≤ xs.length) = true := decide_eq_true hEl
        have t6 : decide ((E.length : Int) ≤ (xs.length : Int)) = true := decide_eq_true (by omega)
        have hbF := bt hbW b6
        clear hy hy' HR6 b6
        go_wp2
        go_quiet (fail)
        go_wp2
        go_ret
        exact ⟨rfl, hbF.trans ⟨rfl, rfl, rfl, Nat.le_refl _, fun _ _ => rfl⟩⟩
end Go.Proofs.Ytlcehgfcmpkafaa.Num
