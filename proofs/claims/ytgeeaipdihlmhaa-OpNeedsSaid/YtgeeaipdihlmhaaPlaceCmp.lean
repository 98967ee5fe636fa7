/- octavo/place: Compare, Begins: what each answers. Conditions: the slices' cells are runs. -/
import Derived.Test.YtgeeaipdihlmhaaPlaceApart
import Derived.Test.YtgeeaipdihlmhaaPlaceCheck
import Derived.Test.YtgeeaipdihlmhaaPlaceFirst
namespace Go.Proofs.Ytgeeaipdihlmhaa.Place
open Go.RowKit Stamp
attribute [local go_sem ↓] Go.wp_at_zero Go.wp_at_succ

set_option maxRecDepth 100000 in
set_option maxHeartbeats 4000000 in
theorem pBegins_any {a b : Value} {p q : List Run} {w : World} (ha : Runs w a p) (hb : Runs w b q) :
    Calls Try.prog 24 #[a, b] w fun e w' => e = .returned (.bool (beg p q)) ∧ Below w.heap.size w w' := by
  have HA := Lib.hid ha
  have HB := Lib.hid hb
  obtain ⟨pb, hpb⟩ : ∃ pb, anyB p = pb := ⟨_, rfl⟩
  obtain ⟨qb, hqb⟩ : ∃ qb, anyB q = qb := ⟨_, rfl⟩
  have A1 : Hid (∀ W : World, Below w.heap.size w W → Calls Try.prog 40 #[a] W fun e w' => e = .returned (.bool pb) ∧ Below W.heap.size W w') := fun W hW => stands_is (HA.out.keeps hW) hpb
  have A2 : Hid (∀ W : World, Below w.heap.size w W → Calls Try.prog 40 #[b] W fun e w' => e = .returned (.bool qb) ∧ Below W.heap.size W w') := fun W hW => stands_is (HB.out.keeps hW) hqb
  have HPB := Lib.hid hpb
  have HQB := Lib.hid hqb
  clear ha hb hpb hqb
  cases pb
  · have hz : beg p q = false := by unfold beg; rw [HPB.out]; rfl
    rw [hz]
    clear hz
    go_enter Try.func24, Try.ntmps24
    go_wp2_with fail
    refine (A1.out _ (Below.refl _ _)).mono ?_
    rintro e w1 ⟨rfl, b1⟩
    go_wp2
    go_ret
    exact ⟨rfl, b1⟩
  cases qb
  · have hz : beg p q = false := by unfold beg; rw [HPB.out, HQB.out]; rfl
    rw [hz]
    clear hz
    go_enter Try.func24, Try.ntmps24
    go_wp2_with fail
    refine (A1.out _ (Below.refl _ _)).mono ?_
    rintro e w1 ⟨rfl, b1⟩
    have B1 := Lib.hid b1
    clear b1
    go_wp2_with fail
    refine (A2.out _ B1.out).mono ?_
    rintro e w2 ⟨rfl, b2⟩
    have B2 := Lib.hid (bt B1.out b2)
    clear b2
    go_wp2
    go_ret
    exact ⟨rfl, B2.out⟩
  have hz : beg p q = first (all p) (all q) := by unfold beg; rw [HPB.out, HQB.out]; rfl
  have AP : Hid (∀ W : World, Below w.heap.size w W → Calls Try.prog 42 #[a, b] W (Parted (hold (all p) (all q)) (first (all p) (all q)) W)) := fun W hW => apart_any (HA.out.keeps hW) (HB.out.keeps hW) ((anyB_iff p).1 HPB.out).chain ((anyB_iff q).1 HQB.out).chain
  rw [hz]
  obtain ⟨h0, hh0⟩ : ∃ h0, h0 = hold (all p) (all q) := ⟨_, rfl⟩
  obtain ⟨f0, hf0⟩ : ∃ f0, f0 = first (all p) (all q) := ⟨_, rfl⟩
  rw [← hh0, ← hf0] at AP
  rw [← hf0]
  clear hz hh0 hf0
  go_enter Try.func24, Try.ntmps24
  go_wp2_with fail
  refine (A1.out _ (Below.refl _ _)).mono ?_
  rintro e w1 ⟨rfl, b1⟩
  have B1 := Lib.hid b1
  clear b1
  go_wp2_with fail
  refine (A2.out _ B1.out).mono ?_
  rintro e w2 ⟨rfl, b2⟩
  have B2 := Lib.hid (bt B1.out b2)
  clear b2
  go_wp2_with fail
  refine (AP.out _ B2.out).mono ?_
  rintro e w3 ⟨x, y, rfl, he, hf, b3⟩
  have B3 := Lib.hid (bt B2.out b3)
  clear b3 AP he A1 A2 B1 B2
  obtain ⟨t1, r1, m1, ht1, hr1, hm1⟩ := x
  obtain ⟨t2, r2, m2, ht2, hr2, hm2⟩ := y
  unfold ends at hf
  simp only at hf ⊢
  by_cases hm1z : m1 = 0
  · have hf2 : f0 = true := by rw [hf, if_pos hm1z]; split <;> rfl
    subst hm1z hf2
    clear hf
    go_wp2
    go_ret
    exact ⟨rfl, (B3.out.alloc B3.out.size _).alloc (Nat.le_trans B3.out.size (by simp)) _⟩
  · have hf2 : f0 = false := by rw [hf, if_neg hm1z]; split <;> rfl
    have u1 : (m1 == 0) = false := by simpa using hm1z
    subst hf2
    clear hf
    go_wp2
    go_ret
    exact ⟨rfl, (B3.out.alloc B3.out.size _).alloc (Nat.le_trans B3.out.size (by simp)) _⟩
end Go.Proofs.Ytgeeaipdihlmhaa.Place
