/- Slices of elements of any kind, whose cells may hold slices themselves: what such a slice value holds. Conditions: none. Slices whose elements hold slices of an elder world; append of a whole part to a row of one's own; what is left behind a cut. Conditions: none. -/
import Derived.Test.YtgjbnbojjgbmcaaGreatChecked
import Derived.WalkKit
import Derived.WalkSpells
import Derived.WalkLawsBesides
import Derived.Laws.BytesArg
import Derived.Lib.Hide
import Derived.Deep.LoopGhost
import Derived.Laws.AppendOwnNone
import Derived.Laws.OwnMore
import Derived.WideShapes
import Derived.Maps.AppendAt
import Derived.RegionTactic
import Derived.Deep.RegionHeld3
import Derived.Deep.DrawnRows
import Derived.Deep.QuietTactic
import Derived.BigQuiet
import Derived.IntWalk
import Derived.Deep.DeepCutAuto
import Derived.ScopeJumps
import Derived.Test.YtgjbnbojjgbmcaaGreatProg
import Derived.LoopTactic
import Derived.Laws.EntriesVeiled
import Derived.RowKit
import Derived.Test.YtgjbnbojjgbmcaaGreatPk04
import Derived.Test.YtgjbnbojjgbmcaaGreatPk15
import Derived.Test.YtgjbnbojjgbmcaaGreatPk01
import Derived.Test.YtgjbnbojjgbmcaaGreatPk03
import Derived.Test.YtgjbnbojjgbmcaaGreatPk02

namespace Go.Proofs.YtgjbnbojjgbmcaaGreat
open Go.RowKit Go.WideShapes
theorem Enc.rows_take {α : Type} {E : Enc α} {w : World} : ∀ {cs : List Value} {l : List α} (k : Nat), E.rows w cs l → E.rows w (cs.take (k * E.sz)) (l.take k)
  | cs, [], k, h => by rw [show cs = [] from h]; simp [Enc.rows]
  | cs, a :: l, 0, _ => by simp [Enc.rows]
  | cs, a :: l, k + 1, ⟨c, d, h1, h2, h3⟩ => by
    refine ⟨c, d.take (k * E.sz), ?_, h2, Enc.rows_take k h3⟩
    rw [h1, List.take_append, E.len h2, List.take_of_length_le (by rw [E.len h2, Nat.succ_mul]; omega), show (k + 1) * E.sz - E.sz = k * E.sz by rw [Nat.succ_mul]; omega]
theorem Enc.rows_drop {α : Type} {E : Enc α} {w : World} : ∀ {cs : List Value} {l : List α} (k : Nat), E.rows w cs l → E.rows w (cs.drop (k * E.sz)) (l.drop k)
  | cs, [], k, h => by rw [show cs = [] from h]; simp [Enc.rows]
  | cs, a :: l, 0, h => by simpa using h
  | cs, a :: l, k + 1, ⟨c, d, h1, h2, h3⟩ => by
    have := Enc.rows_drop k h3
    rw [h1, List.drop_append, E.len h2, List.drop_eq_nil_of_le (by rw [E.len h2, Nat.succ_mul]; omega), List.nil_append, show (k + 1) * E.sz - E.sz = k * E.sz by rw [Nat.succ_mul]; omega]
    exact this
theorem Seq.take {α : Type} {E : Enc α} {w : World} {ao : Option Addr} {n cap : Nat} {l : List α} (h : Seq E w (.slice ao n cap) l) {m : Nat} (hm : m ≤ l.length) : Seq E w (.slice ao m cap) (l.take m) := by
  obtain ⟨cs, ⟨h1, ao', cap', he, h2, h3, h4, h5⟩, h6⟩ := h
  obtain ⟨rfl, rfl, rfl⟩ := Value.slice.inj he
  have hl : (l.take m).length = m := by rw [List.length_take]; omega
  refine ⟨cs.take (m * E.sz), ⟨?_, ao, cap, by rw [hl], by omega, h3, h4, ?_⟩, Enc.rows_take m h6⟩
  · rw [List.length_take, h1, hl]
    exact Nat.min_eq_left (Nat.mul_le_mul_right _ hm)
  · rcases h5 with h5 | ⟨b, off, rfl, hb, hc⟩
    · left; rw [h5]; simp
    · right
      refine ⟨b, off, rfl, hb, fun j u hj => hc j u ?_⟩
      rw [List.getElem?_take] at hj
      split at hj
      · exact hj
      · cases hj
end Go.Proofs.YtgjbnbojjgbmcaaGreat

namespace Go.Proofs.YtgjbnbojjgbmcaaGreat
open Go.RowKit Go.WideShapes
theorem part_drop {α : Type} {E : Enc α} {w : World} {ao : Option Addr} {n cap m : Nat} {l : List α} (h : Seq E w (.slice ao n cap) l) (hm : m ≤ n) (hl : l ≠ []) :
    ∃ b off o', ao = some ⟨b, off, none⟩ ∧ (if cap = m then (some ⟨b, off, none⟩ : Option Addr) else some ⟨b, off + m * E.sz, none⟩) = some ⟨b, o', none⟩ ∧ Seq E w (.slice (some ⟨b, o', none⟩) (n - m) (cap - m)) (l.drop m) := by
  obtain ⟨cs, ⟨h1, ao', cap', he, h2, h3, h4, h5⟩, h6⟩ := h
  obtain ⟨rfl, rfl, rfl⟩ := Value.slice.inj he
  have hp := E.pos
  have hd := Enc.rows_drop m h6
  have hll : (l.drop m).length = l.length - m := by rw [List.length_drop]
  have hcl : (cs.drop (m * E.sz)).length = (l.length - m) * E.sz := by rw [List.length_drop, h1, Nat.sub_mul]
  rcases h5 with h5 | ⟨b, off, rfl, hb, hc⟩
  · exfalso
    rw [h5] at h1
    have h7 : l.length * E.sz = 0 := by simpa using h1.symm
    rcases Nat.mul_eq_zero.1 h7 with h8 | h8
    · exact hl (List.length_eq_zero_iff.1 h8)
    · omega
  · by_cases hcm : cap = m
    · refine ⟨b, off, off, rfl, by rw [if_pos hcm], cs.drop (m * E.sz), ⟨by rw [hcl, hll], some ⟨b, off, none⟩, cap - m, by rw [hll], by rw [hll]; omega, by omega, by simp, ?_⟩, hd⟩
      left
      exact List.length_eq_zero_iff.1 (by rw [hcl, show l.length - m = 0 by omega, Nat.zero_mul])
    · refine ⟨b, off, off + m * E.sz, rfl, by rw [if_neg hcm], cs.drop (m * E.sz), ⟨by rw [hcl, hll], some ⟨b, off + m * E.sz, none⟩, cap - m, by rw [hll], by rw [hll]; omega, by omega, by simp, ?_⟩, hd⟩
      right
      refine ⟨b, off + m * E.sz, rfl, hb, fun j u hj => ?_⟩
      rw [List.getElem?_drop] at hj
      rw [Nat.add_assoc]
      exact hc _ u hj
open Go.Proofs.YtgjbnbojjgbmcaaGreat.Place Ops Codes Bags
end Go.Proofs.YtgjbnbojjgbmcaaGreat
