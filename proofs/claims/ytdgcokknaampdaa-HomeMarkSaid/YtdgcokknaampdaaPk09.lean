/- Slices of a replica and its spans: what a slice value holds, a slice of spans in each element. Conditions: none. -/
import Derived.WalkKit
import Derived.WalkSpells
import Derived.WalkLawsBesides
import Derived.RegionTactic
import Derived.Deep.DrawnRows
import Derived.Deep.QuietTactic
import Derived.BigQuiet
import Derived.IntWalk
import Derived.Deep.RegionHeld3
import Derived.Deep.DeepCutAuto
import Derived.Test.YtdgcokknaampdaaPk07
import Derived.Test.YtdgcokknaampdaaPk08
import Derived.Test.YtdgcokknaampdaaPk06
import Derived.Test.YtdgcokknaampdaaPk05
import Derived.Test.YtdgcokknaampdaaPk04
import Derived.Test.YtdgcokknaampdaaPk02

namespace Go.Proofs.Ytdgcokknaampdaa
open Go.RowKit Go.WideShapes Spans Clocks

/-- The cells hold the clock: a replica, and what reads as its spans. -/
def Hold (w : World) : List Value → List Tm → Prop
  | [], [] => True
  | a :: b :: cs, x :: c => a = .int .u8 (x.1 : Int) ∧ x.1 < 256 ∧ Sps w b x.2 ∧ Hold w cs c
  | _, _ => False
theorem Hold.len : ∀ {w : World} {cs : List Value} {c : List Tm}, Hold w cs c → cs.length = c.length * 2
  | _, [], [], _ => rfl
  | w, a :: b :: cs, x :: c, h => by have := Hold.len h.2.2.2; simp; omega
theorem Hold.keeps : ∀ {w w' : World} {cs : List Value} {c : List Tm}, Hold w cs c → Below w.heap.size w w' → Hold w' cs c
  | _, _, [], [], _, _ => trivial
  | _, _, _ :: _ :: _, _ :: _, h, hb => ⟨h.1, h.2.1, h.2.2.1.keeps hb, Hold.keeps h.2.2.2 hb⟩
theorem Hold.append : ∀ {w : World} {cs ds : List Value} {c d : List Tm}, Hold w cs c → Hold w ds d → Hold w (cs ++ ds) (c ++ d)
  | _, [], _, [], _, _, h => h
  | _, _ :: _ :: _, _, _ :: _, _, h, h2 => ⟨h.1, h.2.1, h.2.2.1, Hold.append h.2.2.2 h2⟩
theorem Hold.one {w : World} {u : Value} {x : Tm} (hr : x.1 < 256) (hu : Sps w u x.2) : Hold w [.int .u8 (x.1 : Int), u] [x] := ⟨rfl, hr, hu, trivial⟩
theorem Hold.get : ∀ {w : World} {cs : List Value} {c : List Tm} (k : Nat), Hold w cs c → k < c.length →
    cs[k * 2]? = some (.int .u8 ((c.getD k (0, [])).1 : Int)) ∧ (c.getD k (0, [])).1 < 256 ∧ ∃ u, cs[k * 2 + 1]? = some u ∧ Sps w u (c.getD k (0, [])).2
  | _, _, [], _, _, hk => by simp at hk
  | _, [], _ :: _, _, h, _ => by simp [Hold] at h
  | _, [_], _ :: _, _, h, _ => by simp [Hold] at h
  | w, a :: b :: cs, x :: c, 0, h, _ => by
    obtain ⟨rfl, h1, h2, _⟩ := h
    exact ⟨by simp, by simpa using h1, b, by simp, by simpa using h2⟩
  | w, a :: b :: cs, x :: c, k + 1, h, hk => by
    have := Hold.get k h.2.2.2 (by simpa using hk)
    rw [show (k + 1) * 2 = k * 2 + 1 + 1 by omega]
    simpa using this
/-- A slice of replicas' spans. -/
def Tms (w : World) (v : Value) (c : List Tm) : Prop := ∃ cs, Sees w v 2 c.length cs ∧ Hold w cs c
theorem Tms.keeps {w w' : World} {v : Value} {c : List Tm} (h : Tms w v c) (hb : Below w.heap.size w w') : Tms w' v c := by
  obtain ⟨cs, h1, h2⟩ := h
  exact ⟨cs, h1.keeps hb, h2.keeps hb⟩
theorem Tms.nil (w : World) : Tms w (.slice none 0 0) [] := ⟨[], Sees.nil w 2, trivial⟩
theorem Tms.shape {w : World} {v : Value} {c : List Tm} (h : Tms w v c) : ∃ ao cap, v = .slice ao c.length cap := by
  obtain ⟨cs, h1, _⟩ := h
  exact Sees.shape h1
theorem Tms.max {w : World} {v : Value} {c : List Tm} (h : Tms w v c) : c.length ≤ 9223372036854775807 := by
  obtain ⟨cs, h1, _⟩ := h
  exact Sees.max h1
theorem Tms.at {w : World} {ao : Option Addr} {m cap : Nat} {c : List Tm} (h : Tms w (.slice ao m cap) c) (k : Nat) (hk : k < c.length) :
    ∃ b off u, ao = some ⟨b, off, none⟩ ∧ b < w.heap.size ∧ w.cell? ⟨b, off + k * 2, none⟩ = some (.int .u8 ((c.getD k (0, [])).1 : Int)) ∧ w.cell? ⟨b, off + k * 2 + 1, none⟩ = some u ∧
      (c.getD k (0, [])).1 < 256 ∧ Sps w u (c.getD k (0, [])).2 := by
  obtain ⟨cs, h1, h2⟩ := h
  have hl := h2.len
  obtain ⟨b, off, e1, e2, e3⟩ := Sees.at h1 (k * 2) (by omega)
  obtain ⟨g1, g2, u, g3, g4⟩ := h2.get k hk
  exact ⟨b, off, u, e1, e2, (e3 (k * 2) (by omega)).trans g1, (e3 (k * 2 + 1) (by omega)).trans g3, g2, g4⟩

end Go.Proofs.Ytdgcokknaampdaa

/- octavoref07: Twin, Same, In, Many, May, Check, Has, Count: what each answers. Conditions: the slices' cells are spans. -/
namespace Go.Proofs.Ytdgcokknaampdaa.Spans
open Go.RowKit
attribute [local go_sem ↓] Go.wp_at_zero Go.wp_at_succ

end Go.Proofs.Ytdgcokknaampdaa.Spans

/- octavoref07: Many, May, Check, Has, Count, told: what each answers. Conditions: the slices' cells are spans. -/
namespace Go.Proofs.Ytdgcokknaampdaa.Spans
open Go.RowKit
attribute [local go_sem ↓] Go.wp_at_zero Go.wp_at_succ

def chk (l : List Sp) : Int := if mayB l = true then 0 else 8
def has (l : List Sp) (t : Nat) : Bool := mayB l && inB l t
def count (l : List Sp) : Nat := if mayB l = true then many l else 0
end Go.Proofs.Ytdgcokknaampdaa.Spans

/- octavoref08: May, Check, Spans, In, Has, Many, Count, Top: what each answers. Conditions: the slices' cells are replicas' spans. -/
namespace Go.Proofs.Ytdgcokknaampdaa.Clocks
open Go.RowKit Go.Proofs.Ytdgcokknaampdaa.Spans
attribute [local go_sem ↓] Go.wp_at_zero Go.wp_at_succ

theorem Tms.drawn {w : World} {v : Value} {c : List Tm} (h : Tms w v c) (n : Nat) : Tms (w.drewN n) v c := h.keeps (below_draw (Below.refl _ _) n)

end Go.Proofs.Ytdgcokknaampdaa.Clocks

/- octavoref08: Check, Spans, In, Has, Many, Count, Top: what each answers. Conditions: the slices' cells are replicas' spans. -/
namespace Go.Proofs.Ytdgcokknaampdaa.Clocks
open Go.RowKit Go.Proofs.Ytdgcokknaampdaa.Spans
attribute [local go_sem ↓] Go.wp_at_zero Go.wp_at_succ

end Go.Proofs.Ytdgcokknaampdaa.Clocks

/- octavoref07.Without: what it answers. Conditions: the slice's cells are spans that may be. -/
namespace Go.Proofs.Ytdgcokknaampdaa.Spans
open Go.RowKit
attribute [local go_sem ↓] Go.wp_at_zero Go.wp_at_succ

theorem own_base {w : World} {b b' : Nat} {e : TypeId} {v : Value} {sz n : Nat} {cs : List Value} (h : w.ownsRow b e sz v n cs) (hb : b' ≤ b) : w.ownsRow b' e sz v n cs :=
  ⟨h.1, h.2.imp_right fun ⟨g, c, cur, h1, h2, h3⟩ => ⟨g, c, cur, h1, Nat.le_trans hb h2, h3⟩⟩

end Go.Proofs.Ytdgcokknaampdaa.Spans

/- octavoref07.With: what it answers. Conditions: the slice's cells are spans that may be. -/
namespace Go.Proofs.Ytdgcokknaampdaa.Spans
open Go.RowKit
attribute [local go_sem ↓] Go.wp_at_zero Go.wp_at_succ

end Go.Proofs.Ytdgcokknaampdaa.Spans

/- octavoref07: Both, Left, Add, Join, Less: what each answers. Conditions: the slices' cells are spans. -/
namespace Go.Proofs.Ytdgcokknaampdaa.Spans
open Go.RowKit
attribute [local go_sem ↓] Go.wp_at_zero Go.wp_at_succ

end Go.Proofs.Ytdgcokknaampdaa.Spans

/- octavoref08: Many, Count, Great, put, told, Both, Left, Join, Less: what each answers. Conditions: the slices' cells are replicas' spans. -/
namespace Go.Proofs.Ytdgcokknaampdaa.Clocks
open Go.RowKit Go.Proofs.Ytdgcokknaampdaa.Spans
attribute [local go_sem ↓] Go.wp_at_zero Go.wp_at_succ

/-- Some replica has more spans than any machine can hold. -/
def Huge (c : List Tm) : Prop := ∃ x ∈ c, 9000000000000000000 < x.2.length
/-- What Great answers. -/
def Grt (c : List Tm) (e : Ending) : Prop := ∃ g, e = .returned (.bool g) ∧ (g = false → c.length ≤ 300 ∧ (tot c ≤ 300 ∨ Huge c))
theorem Grt.yes {c : List Tm} : Grt c (.returned (.bool true)) := ⟨true, rfl, fun h => by cases h⟩
theorem Grt.no {c : List Tm} (h1 : c.length ≤ 300) (h2 : tot c ≤ 300 ∨ Huge c) : Grt c (.returned (.bool false)) := ⟨false, rfl, fun _ => ⟨h1, h2⟩⟩

/-! ### Two together -/
end Go.Proofs.Ytdgcokknaampdaa.Clocks

/- octavoref08: put, told, Both, Left, Join, Less, One, Add: what each answers. Conditions: the slices' cells are replicas' spans. -/
namespace Go.Proofs.Ytdgcokknaampdaa.Clocks
open Go.RowKit Go.Proofs.Ytdgcokknaampdaa.Spans
attribute [local go_sem ↓] Go.wp_at_zero Go.wp_at_succ

end Go.Proofs.Ytdgcokknaampdaa.Clocks

/- octavoref08: One, Add, Among, Of, Top: what each answers. Conditions: the slices' cells are replicas' spans, stamps. -/
namespace Go.Proofs.Ytdgcokknaampdaa.Clocks
open Go.RowKit Go.Proofs.Ytdgcokknaampdaa.Spans
attribute [local go_sem ↓] Go.wp_at_zero Go.wp_at_succ

end Go.Proofs.Ytdgcokknaampdaa.Clocks

/- octavoref08: Among, Of, Top, Same: what each answers. Conditions: the slices' cells are replicas' spans, stamps. -/
namespace Go.Proofs.Ytdgcokknaampdaa.Clocks
open Go.RowKit Go.Proofs.Ytdgcokknaampdaa.Spans
attribute [local go_sem ↓] Go.wp_at_zero Go.wp_at_succ

end Go.Proofs.Ytdgcokknaampdaa.Clocks

/- octavoref08: Top, Same: what each answers. Conditions: the slices' cells are replicas' spans. -/
namespace Go.Proofs.Ytdgcokknaampdaa.Clocks
open Go.RowKit Go.Proofs.Ytdgcokknaampdaa.Spans
attribute [local go_sem ↓] Go.wp_at_zero Go.wp_at_succ

end Go.Proofs.Ytdgcokknaampdaa.Clocks

/- octavoref08: Top, All, Ids: what each answers. Conditions: the slices' cells are replicas' spans. -/
namespace Go.Proofs.Ytdgcokknaampdaa.Clocks
open Go.RowKit Go.Proofs.Ytdgcokknaampdaa.Spans
attribute [local go_sem ↓] Go.wp_at_zero Go.wp_at_succ

end Go.Proofs.Ytdgcokknaampdaa.Clocks

/- octavoref08: All, Ids: what each answers. Conditions: the slices' cells are replicas' spans. -/
namespace Go.Proofs.Ytdgcokknaampdaa.Clocks
open Go.RowKit Go.Proofs.Ytdgcokknaampdaa.Spans
attribute [local go_sem ↓] Go.wp_at_zero Go.wp_at_succ

/-- A row of stamps of the call's own. -/
def OwnI (w : World) (base : Nat) (v : Value) (L : List Id) : Prop := w.ownsRow base 24 2 v L.length (ids L)
theorem OwnI.nil (w : World) (base : Nat) : OwnI w base (.slice none 0 0) [] := World.ownsRow_nil _ _ _ _

end Go.Proofs.Ytdgcokknaampdaa.Clocks

/- octavoref08.Ids; the laws' helper of layer 8 that writes over what was answered. Conditions: the rows are the call's own. -/
namespace Go.Proofs.Ytdgcokknaampdaa.Clocks
open Go.RowKit Go.Proofs.Ytdgcokknaampdaa.Spans
attribute [local go_sem ↓] Go.wp_at_zero Go.wp_at_succ

theorem OwnI.base {w : World} {b b' : Nat} {v : Value} {L : List Id} (h : OwnI w b v L) (hb : b' ≤ b) : OwnI w b' v L := own_base h hb
/-! ### Written over -/
/-- What was there stays so, but from base on, ahead of top. -/
def Sand (base top : Nat) (w w' : World) : Prop := Below base w w' ∧ ∀ j, top ≤ j → w'.heap[j]? = w.heap[j]?
theorem Sand.refl (base top : Nat) (w : World) : Sand base top w w := ⟨Below.refl _ _, fun _ _ => rfl⟩
theorem Sand.trans {base top : Nat} {a b c : World} (h : Sand base top a b) (k : Sand base top b c) : Sand base top a c := ⟨h.1.trans k.1, fun j hj => (k.2 j hj).trans (h.2 j hj)⟩
end Go.Proofs.Ytdgcokknaampdaa.Clocks

/- octavoref11.Left, Less, Stamps, Ids, Find: what each answers. Conditions: the slices' cells are operations, replicas' times; those of Left, Stamps not too many. -/
namespace Go.Proofs.Ytdgcokknaampdaa.Bags
open Go.RowKit Go.WideShapes Stamp Go.Proofs.Ytdgcokknaampdaa.Place Ops Codes
attribute [local go_sem ↓] Go.wp_at_zero Go.wp_at_succ
attribute [local go_sem] yielded_undef


def idE : Enc Id where
  sz := 2
  pos := by decide
  inn _ cs x := cs = [.int .u32 (x.t : Int), .int .u8 (x.r : Int)]
  len := by rintro w cs x rfl; rfl
  one := by
    rintro w cs x rfl u hu
    simp only [List.mem_cons, List.not_mem_nil, or_false] at hu
    rcases hu with rfl | rfl <;> rfl
  keep := by rintro w w' cs x _ h; exact h
theorem idE_rows {w : World} : ∀ {cs : List Value} {l : List Id}, idE.rows w cs l → cs = ids l
  | _, [], h => h
  | _, _ :: _, ⟨c, d, h1, h2, h3⟩ => by
    rw [h1, show c = _ from h2, idE_rows h3]
    rfl
end Go.Proofs.Ytdgcokknaampdaa.Bags

/- octavoref10.Great, Same, Twin: what each answers. Conditions: the slices' cells are operations; Twin's: they are not more than memory holds. -/
namespace Go.Proofs.Ytdgcokknaampdaa.Codes
open Go.RowKit Go.WideShapes Go.Proofs.Ytdgcokknaampdaa.Place Ops
attribute [local go_sem ↓] Go.wp_at_zero Go.wp_at_succ

/-- What Great answers: where it answers no, there are not more than so many. -/
def GrtO (l : List Opn) (m : Int) (e : Ending) : Prop := ∃ g, e = .returned (.bool g) ∧ (g = false → (l.length : Int) ≤ m ∧ ∀ k (h : k < l.length), k < 300 → (l[k]'h).pl.length ≤ 100)
theorem GrtO.yes {l : List Opn} {m : Int} : GrtO l m (.returned (.bool true)) := ⟨true, rfl, fun h => by cases h⟩

set_option maxRecDepth 100000 in
set_option maxHeartbeats 4000000 in
theorem greatO_any {v : Value} {l : List Opn} {many : Int} {w : World} (hv : OpL w v l) :
    Calls Try.prog 13 #[v, .int .i64 many] w fun e w' => GrtO l many e ∧ w = w' := by
  obtain ⟨ao, cap, rfl⟩ := hv.shape
  obtain ⟨n, hn⟩ : ∃ n, n = l.length := ⟨_, rfl⟩
  have hm : n ≤ 9223372036854775807 := by rw [hn]; exact hv.max
  have HV := Lib.hid hv
  have HN := Lib.hid hn
  rw [← hn]
  clear hv hn
  go_enter Try.func13, Try.ntmps13
  go_wp2
  go_loop [5, 6, 7] (fun s i c => ∃ (j : Nat) (m : Int), j ≤ n ∧ j ≤ 300 ∧ i = .int .i64 (j : Int) ∧ s = .int .i64 m ∧ Hid (∀ k (h : k < l.length), k < j → (l[k]'h).pl.length ≤ 100)) (fun _ i _ => n - (intOf i).toNat)
  case atStart => exact ⟨0, 0, by omega, by omega, rfl, rfl, fun k h hk => by omega⟩
  case round =>
    obtain ⟨j, m, hj, hj3, rfl, rfl, hall⟩ := hrel
    by_cases hjn : j < n
    · have q1 : decide (j < n) = true := by simpa using hjn
      by_cases hj4 : j < 300
      · have q4 : decide ((j : Int) < 300) = true := decide_eq_true (by omega)
        have q5 : decide (j < 300) = true := decide_eq_true hj4
        have q2 : (0 : Int) ≤ (j : Int) := by omega
        have q3 : (j : Int) < (n : Int) := by omega
        have hjl : j < l.length := by rw [← HN.out]; exact hjn
        obtain ⟨b1, o1, u, rfl, hb1, hru, -, -, -, ha3, -⟩ := opl_at HV.out j hjl
        have hsx := Sees.max hru
        have HRU := Lib.hid hru
        obtain ⟨so, sc, rfl⟩ := hru.shape
        obtain ⟨p, hp⟩ : ∃ p, p = (l[j]'hjl).pl := ⟨_, rfl⟩
        have HJA : Hid (p.length ≤ 100 → ∀ k (h : k < l.length), k < j + 1 → (l[k]'h).pl.length ≤ 100) := fun h1 k h hk => by
          by_cases e : k = j
          · subst e; rw [← hp]; exact h1
          · exact hall.out k h (by omega)
        rw [← hp] at ha3 hsx HRU
        obtain ⟨d, hd⟩ : ∃ d, d = p.length := ⟨_, rfl⟩
        have HD := Lib.hid hd
        rw [← hd] at ha3 hsx HRU
        clear hall hp hru hd
        by_cases h3 : 100 < d
        · have t1 : decide ((100 : Int) < (d : Int)) = true := decide_eq_true (by omega)
          have t2 : decide (100 < d) = true := decide_eq_true h3
          go_wp2
          go_ret
          exact ⟨GrtO.yes, rfl⟩
        · have t1 : decide ((100 : Int) < (d : Int)) = false := decide_eq_false (by omega)
          have t2 : decide (100 < d) = false := decide_eq_false h3
          have HJB := Lib.hid (HJA.out (by rw [← HD.out]; omega))
          clear HJA
          go_wp2
          go_loop [5, 7] (fun s c => ∃ (k : Nat) (m : Int), k ≤ d ∧ c = .int .i64 (k : Int) ∧ s = .int .i64 m) (fun _ c => d - (intOf c).toNat)
          case atStart => exact ⟨0, _, by omega, rfl, rfl⟩
          case round =>
            obtain ⟨k, m, hk, rfl, rfl⟩ := hrel
            by_cases hkd : k < d
            · have c1 : decide (k < d) = true := by simpa using hkd
              have c2 : (0 : Int) ≤ (k : Int) := by omega
              have c3 : (k : Int) < (d : Int) := by omega
              obtain ⟨b2, o2, rfl, hb2, -, -, g2⟩ := HRU.out.at k (by rw [← HD.out]; exact hkd)
              go_wp2
              go_round
              case rel => exact ⟨k + 1, _, by omega, by go_num, rfl⟩
              case measure => simp [intOf]; omega
            · have c1 : decide (k < d) = false := by simpa using hkd
              go_wp2
              go_round
              case rel => exact ⟨j + 1, _, by omega, by omega, by go_num, rfl, HJB⟩
              case measure => simp [intOf]; omega
      · obtain rfl : j = 300 := by omega
        obtain ⟨b, hb⟩ : ∃ b, decide (many < (n : Int)) = b := ⟨_, rfl⟩
        have HB : Hid (b = false → (n : Int) ≤ many) := fun h => by rw [h] at hb; have := of_decide_eq_false hb; omega
        obtain ⟨c, hc⟩ : ∃ b, decide (3000 < m) = b := ⟨_, rfl⟩
        clear q1
        cases b
        · go_wp2
          go_ret
          refine ⟨⟨_, rfl, fun _ => ⟨?_, fun k h hk => hall.out k h hk⟩⟩, rfl⟩
          rw [← HN.out]; exact HB.out trivial
        · go_wp2
          go_ret
          exact ⟨GrtO.yes, rfl⟩
    · have q1 : decide (j < n) = false := by simpa using hjn
      obtain rfl : j = n := by omega
      obtain ⟨b, hb⟩ : ∃ b, decide (many < (j : Int)) = b := ⟨_, rfl⟩
      have HB : Hid (b = false → (j : Int) ≤ many) := fun h => by rw [h] at hb; have := of_decide_eq_false hb; omega
      obtain ⟨c, hc⟩ : ∃ b, decide (3000 < m) = b := ⟨_, rfl⟩
      cases b
      · go_wp2
        go_ret
        refine ⟨⟨_, rfl, fun _ => ⟨?_, fun k h _ => hall.out k h (by have := HN.out; omega)⟩⟩, rfl⟩
        rw [← HN.out]; exact HB.out trivial
      · go_wp2
        go_ret
        exact ⟨GrtO.yes, rfl⟩

set_option maxRecDepth 100000 in
set_option maxHeartbeats 4000000 in
theorem sameL_any {u v : Value} {l m : List Opn} {w : World} (hu : OpL w u l) (hv : OpL w v m) :
    Calls Try.prog 45 #[u, v] w fun e w' => e = .returned (.bool (decide (l = m))) ∧ Below w.heap.size w w' := by
  obtain ⟨ao, cap, rfl⟩ := hu.shape
  obtain ⟨bo, cab, rfl⟩ := hv.shape
  obtain ⟨n, hn⟩ : ∃ n, n = l.length := ⟨_, rfl⟩
  obtain ⟨n', hn'⟩ : ∃ n, n = m.length := ⟨_, rfl⟩
  have hm : n ≤ 9223372036854775807 := by rw [hn]; exact hu.max
  have hm' : n' ≤ 9223372036854775807 := by rw [hn']; exact hv.max
  have HU : Hid (∀ W : World, Below w.heap.size w W → OpL W (.slice ao l.length cap) l) := fun W h => hu.keeps h
  have HV : Hid (∀ W : World, Below w.heap.size w W → OpL W (.slice bo m.length cab) m) := fun W h => hv.keeps h
  have HN := Lib.hid hn
  have HN' := Lib.hid hn'
  obtain ⟨q, hq⟩ : ∃ q, decide (l = m) = q := ⟨_, rfl⟩
  have HQ := Lib.hid hq
  rw [hq, ← hn, ← hn']
  clear hu hv hn hn' hq
  go_enter Try.func45, Try.ntmps45
  by_cases he : n = n'
  rotate_left
  · have t1 : ((n : Int) != (n' : Int)) = true := by simp; omega
    have t2 : (n == n') = false := by simpa using he
    obtain rfl : q = false := by rw [← HQ.out]; exact decide_eq_false (fun h => he (by rw [HN.out, HN'.out, h]))
    go_wp2
    go_ret
    exact ⟨rfl, Below.refl _ _⟩
  subst he
  have t1 : ((n : Int) != (n : Int)) = false := by simp
  go_wp2
  go_loopw [5] (fun i wr => ∃ j : Nat, j ≤ n ∧ i = .int .i64 (j : Int) ∧ Hid (∀ k (h : k < l.length) (h' : k < m.length), k < j → l[k]'h = m[k]'h') ∧ Hid (Below w.heap.size w wr)) (fun i _ => n - (intOf i).toNat)
  case atStart => exact ⟨0, by omega, rfl, fun k h h' hk => by omega, Below.refl _ _⟩
  case round =>
    obtain ⟨j, hj, rfl, hall, hbel⟩ := hrel
    by_cases hjn : j < n
    · have q3 : decide (j < n) = true := by simpa using hjn
      have q4 : (0 : Int) ≤ (j : Int) := by omega
      have q5 : (j : Int) < (n : Int) := by omega
      have hjl : j < l.length := by rw [← HN.out]; exact hjn
      have hjm : j < m.length := by rw [← HN'.out]; exact hjn
      obtain ⟨bb, oo, u, rfl, hbb, hru, h0, h1, h2, h3, h4⟩ := opl_at (HU.out wr hbel.out) j hjl
      obtain ⟨bb', oo', u', rfl, hbb', hru', h0', h1', h2', h3', h4'⟩ := opl_at (HV.out wr hbel.out) j hjm
      obtain ⟨x, hx⟩ : ∃ x, x = l[j]'hjl := ⟨_, rfl⟩
      obtain ⟨y, hy⟩ : ∃ x, x = m[j]'hjm := ⟨_, rfl⟩
      rw [← hx] at hru h0 h1 h2 h4
      rw [← hy] at hru' h0' h1' h2' h4'
      have SM : Hid (∀ W : World, Below wr.heap.size wr W → Calls Try.prog 69 #[opv x u, opv y u'] W fun e w' => e = .returned (.bool (sameB x y)) ∧ Below W.heap.size W w') := fun W h => Ops.refSame_any (hru.keeps h) (hru'.keeps h)
      have HO : Hid (∀ v : Value, opv x v = .agg #[.int .u8 (x.k : Int), .int .u32 (x.t : Int), .int .u8 (x.r : Int), v, .int .i64 x.p]) := fun v => rfl
      have HO' : Hid (∀ v : Value, opv y v = .agg #[.int .u8 (y.k : Int), .int .u32 (y.t : Int), .int .u8 (y.r : Int), v, .int .i64 y.p]) := fun v => rfl
      have HNO : Hid (sameB x y = false → q = false) := fun h => by
        rw [← HQ.out]
        refine decide_eq_false (fun e => ?_)
        have : x = y := by rw [hx, hy]; subst e; rfl
        rw [(sameB_iff x y).2 this] at h; cases h
      have HYES : Hid (sameB x y = true → ∀ k (h : k < l.length) (h' : k < m.length), k < j + 1 → l[k]'h = m[k]'h') := fun e k h h' hk => by
        by_cases ek : k = j
        · subst ek; rw [← hx, ← hy]; exact (sameB_iff x y).1 e
        · exact hall.out k h h' (by omega)
      obtain ⟨k, hk⟩ : ∃ k, x.k = k := ⟨_, rfl⟩
      obtain ⟨t, ht⟩ : ∃ k, x.t = k := ⟨_, rfl⟩
      obtain ⟨r, hr⟩ : ∃ k, x.r = k := ⟨_, rfl⟩
      obtain ⟨p, hp⟩ : ∃ k, x.p = k := ⟨_, rfl⟩
      rw [hk, ht, hr, hp] at HO
      rw [hk] at h0
      rw [ht] at h1
      rw [hr] at h2
      rw [hp] at h4
      obtain ⟨k', hk'⟩ : ∃ k, y.k = k := ⟨_, rfl⟩
      obtain ⟨t', ht'⟩ : ∃ k, y.t = k := ⟨_, rfl⟩
      obtain ⟨r', hr'⟩ : ∃ k, y.r = k := ⟨_, rfl⟩
      obtain ⟨p', hp'⟩ : ∃ k, y.p = k := ⟨_, rfl⟩
      rw [hk', ht', hr', hp'] at HO'
      rw [hk'] at h0'
      rw [ht'] at h1'
      rw [hr'] at h2'
      rw [hp'] at h4'
      simp only [HO.out, HO'.out] at SM
      obtain ⟨my, hmy⟩ : ∃ b, sameB x y = b := ⟨_, rfl⟩
      rw [hmy] at SM HNO HYES
      have F1 : Hid (FiveAt wr bb (oo + j * 5) (.int .u8 (k : Int)) (.int .u32 (t : Int)) (.int .u8 (r : Int)) u (.int .i64 p)) := ⟨hbb, h0, h1, h2, h3, h4⟩
      have F2 : Hid (FiveAt wr bb' (oo' + j * 5) (.int .u8 (k' : Int)) (.int .u32 (t' : Int)) (.int .u8 (r' : Int)) u' (.int .i64 p')) := ⟨hbb', h0', h1', h2', h3', h4'⟩
      have SK : Hid (∀ w' : World, Below wr.heap.size wr w' → Below wr.heap.size wr w' ∧ w'.cell? ⟨bb, oo + j * 5, none⟩ = some (.int .u8 (k : Int)) ∧ w'.cell? ⟨bb, oo + j * 5 + 1, none⟩ = some (.int .u32 (t : Int)) ∧ w'.cell? ⟨bb, oo + j * 5 + 2, none⟩ = some (.int .u8 (r : Int)) ∧ w'.cell? ⟨bb, oo + j * 5 + 3, none⟩ = some (u) ∧ w'.cell? ⟨bb, oo + j * 5 + 4, none⟩ = some (.int .i64 p) ∧ w'.cell? ⟨bb', oo' + j * 5, none⟩ = some (.int .u8 (k' : Int)) ∧ w'.cell? ⟨bb', oo' + j * 5 + 1, none⟩ = some (.int .u32 (t' : Int)) ∧ w'.cell? ⟨bb', oo' + j * 5 + 2, none⟩ = some (.int .u8 (r' : Int)) ∧ w'.cell? ⟨bb', oo' + j * 5 + 3, none⟩ = some (u') ∧ w'.cell? ⟨bb', oo' + j * 5 + 4, none⟩ = some (.int .i64 p')) := fun W h => by
        have a1 := (F1.out.keeps h).2
        have a2 := (F2.out.keeps h).2
        exact ⟨h, a1.1, a1.2.1, a1.2.2.1, a1.2.2.2.1, a1.2.2.2.2, a2.1, a2.2.1, a2.2.2.1, a2.2.2.2.1, a2.2.2.2.2⟩
      clear hru hru' hx hy hk ht hr hp hk' ht' hr' hp' hmy hall HO HO' h0 h1 h2 h3 h4 h0' h1' h2' h3' h4' F1 F2
      cases my
      · obtain rfl := HNO.out rfl
        go_wp2
        go_region_held3 (fun w' => Below wr.heap.size wr w' ∧ w'.cell? ⟨bb, oo + j * 5, none⟩ = some (.int .u8 (k : Int)) ∧ w'.cell? ⟨bb, oo + j * 5 + 1, none⟩ = some (.int .u32 (t : Int)) ∧ w'.cell? ⟨bb, oo + j * 5 + 2, none⟩ = some (.int .u8 (r : Int)) ∧ w'.cell? ⟨bb, oo + j * 5 + 3, none⟩ = some (u) ∧ w'.cell? ⟨bb, oo + j * 5 + 4, none⟩ = some (.int .i64 p) ∧ w'.cell? ⟨bb', oo' + j * 5, none⟩ = some (.int .u8 (k' : Int)) ∧ w'.cell? ⟨bb', oo' + j * 5 + 1, none⟩ = some (.int .u32 (t' : Int)) ∧ w'.cell? ⟨bb', oo' + j * 5 + 2, none⟩ = some (.int .u8 (r' : Int)) ∧ w'.cell? ⟨bb', oo' + j * 5 + 3, none⟩ = some (u') ∧ w'.cell? ⟨bb', oo' + j * 5 + 4, none⟩ = some (.int .i64 p'))
          (first | exact SK.out _ (drew1 _) | (go_split_ands; exact SK.out _ (bt (by assumption) (by assumption))) | (go_split_ands; refine SK.out _ (bt ?_ ?_) <;> assumption))
          ((go_at_call 69; go_split_ands; (with_reducible refine (SM.out _ (by assumption)).mono ?_); rintro e w9 ⟨rfl, b9⟩))
        go_wp2
        go_ret
        go_split_ands
        exact ⟨rfl, bt hbel.out (by assumption)⟩
      · have HY := Lib.hid (HYES.out rfl)
        clear HYES HNO
        go_wp2
        go_region_held3 (fun w' => Below wr.heap.size wr w' ∧ w'.cell? ⟨bb, oo + j * 5, none⟩ = some (.int .u8 (k : Int)) ∧ w'.cell? ⟨bb, oo + j * 5 + 1, none⟩ = some (.int .u32 (t : Int)) ∧ w'.cell? ⟨bb, oo + j * 5 + 2, none⟩ = some (.int .u8 (r : Int)) ∧ w'.cell? ⟨bb, oo + j * 5 + 3, none⟩ = some (u) ∧ w'.cell? ⟨bb, oo + j * 5 + 4, none⟩ = some (.int .i64 p) ∧ w'.cell? ⟨bb', oo' + j * 5, none⟩ = some (.int .u8 (k' : Int)) ∧ w'.cell? ⟨bb', oo' + j * 5 + 1, none⟩ = some (.int .u32 (t' : Int)) ∧ w'.cell? ⟨bb', oo' + j * 5 + 2, none⟩ = some (.int .u8 (r' : Int)) ∧ w'.cell? ⟨bb', oo' + j * 5 + 3, none⟩ = some (u') ∧ w'.cell? ⟨bb', oo' + j * 5 + 4, none⟩ = some (.int .i64 p'))
          (first | exact SK.out _ (drew1 _) | (go_split_ands; exact SK.out _ (bt (by assumption) (by assumption))) | (go_split_ands; refine SK.out _ (bt ?_ ?_) <;> assumption))
          ((go_at_call 69; go_split_ands; (with_reducible refine (SM.out _ (by assumption)).mono ?_); rintro e w9 ⟨rfl, b9⟩))
        go_wp2
        go_split_ands
        go_roundw
        case rel => exact ⟨j + 1, by omega, by go_num, HY, Lib.hid (bt hbel.out (by assumption))⟩
        case measure => simp [intOf]; omega
    · have q3 : decide (j < n) = false := by simpa using hjn
      obtain rfl : q = true := by
        rw [← HQ.out]
        refine decide_eq_true (List.ext_getElem (by rw [← HN.out, ← HN'.out]) (fun k h h' => hall.out k h h' (by have := HN.out; omega)))
      go_wp2
      go_ret
      exact ⟨rfl, hbel.out⟩
end Go.Proofs.Ytdgcokknaampdaa.Codes

/- octavoref10.Twin: what it answers. Conditions: the slice's cells are operations, not more than memory holds. -/
namespace Go.Proofs.Ytdgcokknaampdaa.Codes
open Go.RowKit Go.WideShapes Go.Proofs.Ytdgcokknaampdaa.Place Ops
attribute [local go_sem ↓] Go.wp_at_zero Go.wp_at_succ

set_option maxRecDepth 100000 in
set_option maxHeartbeats 4000000 in
theorem twinL_any {v : Value} {l : List Opn} {w : World} (hv : OpL w v l) (hl : l.length ≤ 1000000000) (hp : ∀ o ∈ l, o.pl.length ≤ 8796093022208) :
    Calls Try.prog 37 #[v] w fun e w' => ∃ v', e = .returned v' ∧ OwnL w' w.heap.size v' l ∧ Below w.heap.size w w' := by
  obtain ⟨ao, cap, rfl⟩ := hv.shape
  obtain ⟨n, hn⟩ : ∃ n, n = l.length := ⟨_, rfl⟩
  have HV : Hid (∀ W : World, Below w.heap.size w W → OpL W (.slice ao l.length cap) l) := fun W h => hv.keeps h
  have HN := Lib.hid hn
  have HP := Lib.hid hp
  rw [← hn] at hl ⊢
  have L0 : Hid (OwnL w w.heap.size (.slice none 0 0) (l.take 0)) := OwnL.nil _ _
  have B0 : Hid (Below w.heap.size w w) := Below.refl _ _
  clear hv hn hp
  go_enter Try.func37, Try.ntmps37
  go_wp2
  go_loopw [3, 4] (fun v i wr => ∃ j : Nat, j ≤ n ∧ i = .int .i64 (j : Int) ∧ (∃ ao cap, v = .slice ao j cap) ∧ Hid (OwnL wr w.heap.size v (l.take j)) ∧ Hid (Below w.heap.size w wr)) (fun _ i _ => n - (intOf i).toNat)
  case atStart => exact ⟨0, by omega, rfl, ⟨none, 0, rfl⟩, L0, B0⟩
  case round =>
    clear L0 B0
    obtain ⟨j, hj, rfl, ⟨aoL, capL, rfl⟩, hown, hbel⟩ := hrel
    by_cases hjn : j < n
    · have q3 : decide (j < n) = true := by simpa using hjn
      have q4 : (0 : Int) ≤ (j : Int) := by omega
      have q5 : (j : Int) < (n : Int) := by omega
      have hjl : j < l.length := by rw [← HN.out]; exact hjn
      obtain ⟨bb, oo, u, rfl, hbb, hru, h0, h1, h2, h3, h4⟩ := opl_at (HV.out wr hbel.out) j hjl
      obtain ⟨x, hx⟩ : ∃ x, x = l[j]'hjl := ⟨_, rfl⟩
      have hst : l.take (j + 1) = l.take j ++ [x] := by rw [List.take_succ_eq_append_getElem hjl, hx]
      have hpx : x.pl.length ≤ 8796093022208 := HP.out x (by rw [hx]; exact List.getElem_mem hjl)
      rw [← hx] at hru h0 h1 h2 h4
      have HST := Lib.hid hst
      have TW : Hid (Calls Try.prog 63 #[opv x u] wr fun e w' => ∃ ao cap, e = .returned (opv x (.slice ao x.pl.length cap)) ∧ w'.ownsRow wr.heap.size 35 3 (.slice ao x.pl.length cap) x.pl.length (runs x.pl) ∧ Below wr.heap.size wr w') := by
        refine (refTwin_any hru hpx).mono ?_
        rintro e w' ⟨v', rfl, ho, hb⟩
        obtain ⟨ao', cap', rfl⟩ : ∃ ao cap, v' = .slice ao x.pl.length cap := Sees.shape (Sees.own ho)
        exact ⟨ao', cap', rfl, ho, hb⟩
      have HO : Hid (∀ v : Value, opv x v = .agg #[.int .u8 (x.k : Int), .int .u32 (x.t : Int), .int .u8 (x.r : Int), v, .int .i64 x.p]) := fun v => rfl
      obtain ⟨k, hk⟩ : ∃ k, x.k = k := ⟨_, rfl⟩
      obtain ⟨t, ht⟩ : ∃ k, x.t = k := ⟨_, rfl⟩
      obtain ⟨r, hr⟩ : ∃ k, x.r = k := ⟨_, rfl⟩
      obtain ⟨p, hp⟩ : ∃ k, x.p = k := ⟨_, rfl⟩
      have HFV : Hid (∀ v : Value, [.int .u8 (k : Int), .int .u32 (t : Int), .int .u8 (r : Int), v, .int .i64 p] = [Value.int .u8 (x.k : Int), .int .u32 (x.t : Int), .int .u8 (x.r : Int), v, .int .i64 x.p]) := fun v => by rw [hk, ht, hr, hp]
      rw [hk, ht, hr, hp] at HO
      rw [hk] at h0
      rw [ht] at h1
      rw [hr] at h2
      rw [hp] at h4
      obtain ⟨no, hno⟩ : ∃ n, n = x.pl.length := ⟨_, rfl⟩
      have HNO := Lib.hid hno
      rw [← hno] at TW
      simp only [HO.out] at TW
      have HLT : Hid ((l.take j).length = j) := by unfold Hid; rw [List.length_take, ← HN.out]; omega
      have hsz : w.heap.size ≤ wr.heap.size := hbel.out.size
      have HSZ := Lib.hid hsz
      clear hru hx hk ht hr hp hno hst hpx hsz
      go_wp2_with fail
      refine TW.out.mono ?_
      rintro e w5 ⟨aoO, capO, rfl, o5, b5⟩
      have L5 := Lib.hid (hown.out.keeps b5)
      have B5 := Lib.hid (bt hbel.out b5)
      obtain ⟨cs, lo, lh⟩ := L5.out
      rw [HLT.out] at lo
      have LO := Lib.hid lo
      have LH := Lib.hid lh
      have PO : Hid (w5.ownsRow w.heap.size 35 3 (.slice aoO no capO) no (runs x.pl)) := op_base o5 HSZ.out
      have SE : Hid (Sees (w5.alloc (.cells #[.int .u8 (k : Int), .int .u32 (t : Int), .int .u8 (r : Int), .slice aoO no capO, .int .i64 p] 39)) (.slice (some ⟨w5.heap.size, 0, none⟩) 1 1) 5 1 [.int .u8 (k : Int), .int .u32 (t : Int), .int .u8 (r : Int), .slice aoO no capO, .int .i64 p]) := sees_new w5 [.int .u8 (k : Int), .int .u32 (t : Int), .int .u8 (r : Int), .slice aoO no capO, .int .i64 p] 5 1 rfl (by omega) 39 (0, 0)
      have OA : Hid ((w5.alloc (.cells #[.int .u8 (k : Int), .int .u32 (t : Int), .int .u8 (r : Int), .slice aoO no capO, .int .i64 p] 39)).ownsRow w.heap.size 39 5 (.slice aoL j capL) j cs) := own_stays LO.out ((Below.refl _ _).alloc (Nat.le_refl _) _)
      have FO : ∀ z ∈ [Value.int .u8 (k : Int), .int .u32 (t : Int), .int .u8 (r : Int), .slice aoO no capO, .int .i64 p], z.oneCell' = true := by rw [HFV.out]; exact five_one x _ ⟨_, _, _, rfl⟩
      have FO2 := Lib.hid FO
      have bz : w.heap.size ≤ (w5.alloc (.cells #[.int .u8 (k : Int), .int .u32 (t : Int), .int .u8 (r : Int), .slice aoO no capO, .int .i64 p] 39)).heap.size := by have := B5.out.size; simp; omega
      clear o5 b5 lo lh FO hown hbel L5
      go_wp2_with (at_builtin; refine wpList_append_sees rfl (.tmp 11) (.tmp 17) 28 39 rfl Try.underlying28 op_info rfl (by decide) w.heap.size _ j cs rfl OA.out _ 1 [.int .u8 (k : Int), .int .u32 (t : Int), .int .u8 (r : Int), .slice aoO no capO, .int .i64 p] rfl SE.out FO2.out ?k1 ?k2 ?k3 ?_)
      case k1 => omega
      case k2 => omega
      case k3 => exact bz
      rintro v6 w6 o6 g6 b6
      have L6 : Hid (OwnL w6 w.heap.size v6 (l.take (j + 1))) := by
        have lo2 := LO.out
        have o7 := o6
        rw [HFV.out] at o7
        have po := own_stays (PO.out) ((Below.refl _ _).alloc (Nat.le_refl _) (.cells #[.int .u8 (k : Int), .int .u32 (t : Int), .int .u8 (r : Int), .slice aoO no capO, .int .i64 p] 39))
        have gx := g6
        unfold Hid
        rw [HST.out]
        rw [← HLT.out] at lo2 gx
        rw [HNO.out] at po o7
        refine OwnL.snoc (W := w5) (W8 := w5.alloc (.cells #[.int .u8 (k : Int), .int .u32 (t : Int), .int .u8 (r : Int), .slice aoO no capO, .int .i64 p] 39)) (m := j + 1) lo2 LH.out ((Below.refl _ _).alloc (Nat.le_refl _) _) ?_ gx o7 (by rw [HLT.out])
        rw [HNO.out]
        exact po
      have B6 : Hid (Below w.heap.size w w6) := (B5.out.alloc B5.out.size _).trans b6
      obtain ⟨va, vc, rfl⟩ : ∃ ao cap, v6 = .slice ao (j + 1) cap := Sees.shape (Sees.own o6)
      clear o6 g6 b6 OA SE LO LH PO B5 bz
      go_wp2
      go_roundw
      case rel => exact ⟨j + 1, by omega, by go_num, ⟨va, vc, rfl⟩, L6, B6⟩
      case measure => simp [intOf]; omega
    · have q3 : decide (j < n) = false := by simpa using hjn
      have hkk : l.take j = l := List.take_of_length_le (by have := HN.out; omega)
      rw [hkk] at hown
      clear hkk
      go_wp2
      go_ret
      exact ⟨_, rfl, hown.out, hbel.out⟩
end Go.Proofs.Ytdgcokknaampdaa.Codes

/- octavoref11.Find, Same, Twin: what each answers. Conditions: the slices' cells are operations; Twin's: not more than memory holds. -/
namespace Go.Proofs.Ytdgcokknaampdaa.Bags
open Go.RowKit Go.WideShapes Stamp Go.Proofs.Ytdgcokknaampdaa.Place Ops Codes
attribute [local go_sem ↓] Go.wp_at_zero Go.wp_at_succ
attribute [local go_sem] yielded_undef

def findL (l : List Opn) (a : Id) : Option Opn := if bagB l = true then findO l a else none

theorem refSameL_any {u v : Value} {l m : List Opn} {w : World} (hu : OpL w u l) (hv : OpL w v m) :
    Calls Try.prog 22 #[u, v] w fun e w' => e = .returned (.bool (decide (l = m))) ∧ Below w.heap.size w w' := by
  have C := Lib.hid (sameL_any hu hv)
  obtain ⟨q, hq⟩ : ∃ q, decide (l = m) = q := ⟨_, rfl⟩
  rw [hq] at C ⊢
  clear hu hv hq
  go_enter Try.func22, Try.ntmps22
  go_wp2_with fail
  refine C.out.mono ?_
  rintro e w1 ⟨rfl, b1⟩
  have B1 := Lib.hid b1
  clear b1
  go_wp2
  go_ret
  exact ⟨rfl, B1.out⟩
theorem refTwinL_any {v : Value} {l : List Opn} {w : World} (hv : OpL w v l) (hl : l.length ≤ 1000000000) (hp : ∀ o ∈ l, o.pl.length ≤ 8796093022208) :
    Calls Try.prog 14 #[v] w fun e w' => ∃ v', e = .returned v' ∧ OwnL w' w.heap.size v' l ∧ Below w.heap.size w w' := by
  have C := Lib.hid (twinL_any hv hl hp)
  clear hv hl hp
  go_enter Try.func14, Try.ntmps14
  go_wp2_with fail
  refine C.out.mono ?_
  rintro e w1 ⟨v1, rfl, o1, b1⟩
  have B1 := Lib.hid b1
  have O1 := Lib.hid o1
  clear b1 o1
  go_wp2
  go_ret
  exact ⟨_, rfl, O1.out, B1.out⟩
end Go.Proofs.Ytdgcokknaampdaa.Bags

/- What calls of bag answer, in shape: lists of the call's own; how long they can be. Conditions: none. -/
namespace Go.Proofs.Ytdgcokknaampdaa.Bags
open Go.RowKit Go.WideShapes Stamp Go.Proofs.Ytdgcokknaampdaa.Place Ops Codes

/-- Operations of the call's own, and an error. -/
def DoneN (L : List Opn) (x : Int) (w : World) (e : Ending) (w' : World) : Prop := ∃ v, e = .returned (.tuple #[v, .int .i64 x]) ∧ OwnL w' w.heap.size v L ∧ Below w.heap.size w w'
/-- An operation of the call's own, if it is there. -/
def FoundN (q : Option Opn) (w : World) (e : Ending) (w' : World) : Prop := ∃ v, e = .returned (.tuple #[opv (q.getD zop) v, .bool q.isSome]) ∧ w'.ownsRow w.heap.size 35 3 v (q.getD zop).pl.length (runs (q.getD zop).pl) ∧ Below w.heap.size w w'
theorem mayO_fits {o : Opn} (h : mayO o = true) : o.pl.length ≤ 64 := ((mayB_iff o.pl).1 (mayO_parts h).2.1).2.1
theorem bag_fits {l : List Opn} (h : Bag l) : l.length ≤ 1024 ∧ ∀ o ∈ l, o.pl.length ≤ 8796093022208 := ⟨h.1, fun o ho => by have := mayO_fits (h.2.1 o ho); omega⟩
end Go.Proofs.Ytdgcokknaampdaa.Bags

/- Live marks in plain words. Conditions: none. -/
namespace Go.Proofs.Ytdgcokknaampdaa.Marks
open Ops Stamp Bags Go.Proofs.Ytdgcokknaampdaa.Place

/-- The last stamp of its place. -/
def tgt (o : Opn) : Id := ⟨(lastV o.pl).1.toNat % 4294967296, (lastV o.pl).2.toNat % 256, Nat.mod_lt _ (by decide), Nat.mod_lt _ (by decide)⟩
theorem last_bounds {l : List Run} (h : mayB l = true) : 1 ≤ (lastV l).1 ∧ (lastV l).1 ≤ 1073741824 ∧ 0 ≤ (lastV l).2 ∧ (lastV l).2 < 8 := by
  have hm := (mayB_iff l).1 h
  obtain ⟨h1, _, hc, _⟩ := hm
  have ho := chain_one hc (k := l.length - 1) (by omega)
  unfold lastV
  rw [if_pos h]
  unfold Place.One at ho
  simp only
  omega
theorem tgt_cells {o : Opn} (h : mayO o = true) : ((tgt o).t : Int) = (lastV o.pl).1 ∧ ((tgt o).r : Int) = (lastV o.pl).2 := by
  have hb := last_bounds (mayO_parts h).2.1
  unfold tgt
  simp only
  omega
/-- A mark's place ends with its own stamp. -/
theorem mark_tgt {o : Opn} (h : mayO o = true) (hk : o.k = 2) : tgt o = idO o := by
  have h3 := (mayO_parts h).2.2
  have hc := tgt_cells h
  unfold kindB kindF at h3
  rw [hk] at h3
  simp only [show ¬ (2 : Nat) = 1 by decide, if_false, if_true, Bool.and_eq_true, decide_eq_true_eq, Prod.mk.injEq] at h3
  refine Id.ext' ?_ ?_
  · show (tgt o).t = o.t; omega
  · show (tgt o).r = o.r; omega
/-- Is a stamp joined? -/
def ended (l : List Opn) (a : Id) : Bool := l.any (fun o => decide (o.k = 4) && decide (tgt o = a))
theorem ended_iff {l : List Opn} {a : Id} : ended l a = true ↔ ∃ o ∈ l, o.k = 4 ∧ tgt o = a := by simp [ended]
theorem ended_no {l : List Opn} {a : Id} : ended l a = false ↔ ∀ o ∈ l, o.k = 4 → tgt o ≠ a := by
  rw [← Bool.not_eq_true, ended_iff]
  exact ⟨fun h o ho hk he => h ⟨o, ho, hk, he⟩, fun h ⟨o, ho, hk, he⟩ => h o ho hk he⟩
def joinedM (l : List Opn) (a : Id) : Bool := bagB l && ended l a
/-- One goes ahead of another one. -/
def ahead (a b : Opn) : Bool := decide (cmp a.pl b.pl < 0)
/-- How many go ahead of one, at the beginning. -/
def atM (out : List Opn) (x : Opn) : Nat := (out.takeWhile (fun y => ahead y x)).length
def insM (out : List Opn) (x : Opn) : List Opn := out.take (atM out x) ++ [x] ++ out.drop (atM out x)
theorem atM_le (out : List Opn) (x : Opn) : atM out x ≤ out.length := (List.takeWhile_sublist _).length_le
theorem insM_len (out : List Opn) (x : Opn) : (insM out x).length = out.length + 1 := by
  have := atM_le out x
  unfold insM
  simp only [List.length_append, List.length_take, List.length_drop, List.length_cons, List.length_nil]
  omega
theorem atM_is {out : List Opn} {x : Opn} {k : Nat} (hk : k ≤ out.length) (h1 : ∀ i (h : i < out.length), i < k → ahead (out[i]'h) x = true) (h2 : ∀ h : k < out.length, ahead (out[k]'h) x = false) : atM out x = k := by
  unfold atM
  induction out generalizing k with
  | nil => simp at hk; subst hk; rfl
  | cons y out ih =>
    cases k with
    | zero =>
      have := h2 (by simp)
      rw [List.takeWhile_cons_of_neg (by simpa using this)]
      rfl
    | succ k =>
      have := h1 0 (by simp) (by omega)
      rw [List.takeWhile_cons_of_pos (by simpa using this), List.length_cons, ih (k := k) (by simpa using hk) (fun i h hi => h1 (i + 1) (by simpa using h) (by omega)) (fun h => h2 (by simpa using h))]
def stepM (L : List Opn) (out : List Opn) (x : Opn) : List Opn := if x.k = 2 ∧ ended L (idO x) = false then insM out x else out
def livesM (L l : List Opn) : List Opn := l.foldl (stepM L) []
theorem livesM_snoc (L l : List Opn) (x : Opn) : livesM L (l ++ [x]) = stepM L (livesM L l) x := by unfold livesM; rw [List.foldl_append]; rfl
theorem livesM_le (L : List Opn) : ∀ l : List Opn, (livesM L l).length ≤ l.length := by
  intro l
  induction l using Clocks.list_snoc_ind with
  | h0 => simp [livesM]
  | h1 l x ih =>
    rw [livesM_snoc, List.length_append]
    unfold stepM
    split
    · rw [insM_len]; simp; omega
    · simp; omega
theorem mem_insM {out : List Opn} {x y : Opn} : y ∈ insM out x ↔ y ∈ out ∨ y = x := by
  unfold insM
  simp only [List.mem_append, List.mem_singleton]
  conv => rhs; rw [← List.take_append_drop (atM out x) out]
  rw [List.mem_append]
  constructor
  · rintro ((h | h) | h)
    · exact .inl (.inl h)
    · exact .inr h
    · exact .inl (.inr h)
  · rintro ((h | h) | h)
    · exact .inl (.inl h)
    · exact .inr h
    · exact .inl (.inr h)
theorem mem_livesM {L l : List Opn} {y : Opn} : y ∈ livesM L l ↔ y ∈ l ∧ y.k = 2 ∧ ended L (idO y) = false := by
  induction l using Clocks.list_snoc_ind with
  | h0 => simp [livesM]
  | h1 l x ih =>
    rw [livesM_snoc, List.mem_append, List.mem_singleton]
    unfold stepM
    split
    · rename_i h
      rw [mem_insM, ih]
      constructor
      · rintro (⟨h1, h2⟩ | rfl)
        · exact ⟨.inl h1, h2⟩
        · exact ⟨.inr rfl, h⟩
      · rintro ⟨h1 | rfl, h2⟩
        · exact .inl ⟨h1, h2⟩
        · exact .inr rfl
    · rename_i h
      rw [ih]
      constructor
      · rintro ⟨h1, h2⟩; exact ⟨.inl h1, h2⟩
      · rintro ⟨h1 | rfl, h2⟩
        · exact ⟨h1, h2⟩
        · exact absurd h2 h
def liveL (l : List Opn) : List Opn := if bagB l = true then livesM l l else []
end Go.Proofs.Ytdgcokknaampdaa.Marks

/- Places: a child in the order, as lists of stamps. Conditions: none. -/
namespace Go.Proofs.Ytdgcokknaampdaa.Place
open Go.RowKit Stamp

theorem anyB_may {l : List Run} (h : mayB l = true) : anyB l = true := by unfold anyB; rw [h]; simp
end Go.Proofs.Ytdgcokknaampdaa.Place

/- octavo/place: Compare, Begins: what each answers. Conditions: the slices' cells are runs. -/
namespace Go.Proofs.Ytdgcokknaampdaa.Place
open Go.RowKit Stamp
attribute [local go_sem ↓] Go.wp_at_zero Go.wp_at_succ

set_option maxRecDepth 100000 in
set_option maxHeartbeats 4000000 in
theorem pCompare_any {a b : Value} {p q : List Run} {w : World} (ha : Runs w a p) (hb : Runs w b q) :
    Calls Try.prog 23 #[a, b] w fun e w' => e = .returned (.int .i64 (cmp p q)) ∧ Below w.heap.size w w' := by
  have HA := Lib.hid ha
  have HB := Lib.hid hb
  obtain ⟨pb, hpb⟩ : ∃ pb, anyB p = pb := ⟨_, rfl⟩
  obtain ⟨qb, hqb⟩ : ∃ qb, anyB q = qb := ⟨_, rfl⟩
  have A1 : Hid (∀ W : World, Below w.heap.size w W → Calls Try.prog 46 #[a] W fun e w' => e = .returned (.bool pb) ∧ Below W.heap.size W w') := fun W hW => stands_is (HA.out.keeps hW) hpb
  have A2 : Hid (∀ W : World, Below w.heap.size w W → Calls Try.prog 46 #[b] W fun e w' => e = .returned (.bool qb) ∧ Below W.heap.size W w') := fun W hW => stands_is (HB.out.keeps hW) hqb
  have HPB := Lib.hid hpb
  have HQB := Lib.hid hqb
  clear ha hb hpb hqb
  cases pb
  · have hz : cmp p q = 0 := by unfold cmp; rw [if_neg (by rw [HPB.out]; simp)]
    rw [hz]
    clear hz
    go_enter Try.func23, Try.ntmps23
    go_wp2_with fail
    refine (A1.out _ (Below.refl _ _)).mono ?_
    rintro e w1 ⟨rfl, b1⟩
    go_wp2
    go_ret
    exact ⟨rfl, b1⟩
  cases qb
  · have hz : cmp p q = 0 := by unfold cmp; rw [if_neg (by rw [HQB.out]; simp)]
    rw [hz]
    clear hz
    go_enter Try.func23, Try.ntmps23
    go_wp2_with fail
    refine (A1.out _ (Below.refl _ _)).mono ?_
    rintro e w1 ⟨rfl, b1⟩
    have B1 := Lib.hid b1
    clear b1
    go_wp2_with fail
    refine (A2.out _ B1.out).mono ?_
    rintro e w2 ⟨rfl, b2⟩
    have B2 := Lib.hid (bt B1.out b2)
    clear b2
    go_wp2
    go_ret
    exact ⟨rfl, B2.out⟩
  have hz : cmp p q = hold (all p) (all q) := by unfold cmp; rw [if_pos ⟨HPB.out, HQB.out⟩]
  have AP : Hid (∀ W : World, Below w.heap.size w W → Calls Try.prog 47 #[a, b] W (Parted (hold (all p) (all q)) (first (all p) (all q)) W)) := fun W hW => apart_any (HA.out.keeps hW) (HB.out.keeps hW) ((anyB_iff p).1 HPB.out).chain ((anyB_iff q).1 HQB.out).chain
  rw [hz]
  obtain ⟨h0, hh0⟩ : ∃ h0, h0 = hold (all p) (all q) := ⟨_, rfl⟩
  obtain ⟨f0, hf0⟩ : ∃ f0, f0 = first (all p) (all q) := ⟨_, rfl⟩
  rw [← hh0, ← hf0] at AP
  rw [← hh0]
  clear hz hh0 hf0
  go_enter Try.func23, Try.ntmps23
  go_wp2_with fail
  refine (A1.out _ (Below.refl _ _)).mono ?_
  rintro e w1 ⟨rfl, b1⟩
  have B1 := Lib.hid b1
  clear b1
  go_wp2_with fail
  refine (A2.out _ B1.out).mono ?_
  rintro e w2 ⟨rfl, b2⟩
  have B2 := Lib.hid (bt B1.out b2)
  clear b2
  go_wp2_with fail
  refine (AP.out _ B2.out).mono ?_
  rintro e w3 ⟨x, y, rfl, he, hf, b3⟩
  have B3 := Lib.hid (bt B2.out b3)
  clear b3 AP hf A1 A2 B1 B2
  obtain ⟨t1, r1, m1, ht1, hr1, hm1⟩ := x
  obtain ⟨t2, r2, m2, ht2, hr2, hm2⟩ := y
  unfold ends at he
  simp only at he ⊢
  obtain ⟨wl, hwl⟩ : ∃ wl, wl = (w3.alloc (.cells #[.int .u32 (t1 : Int), .int .u8 (r1 : Int), .int .i64 m1] 35)).alloc (.cells #[.int .u32 (t2 : Int), .int .u8 (r2 : Int), .int .i64 m2] 35) := ⟨_, rfl⟩
  have PA : Hid (Tri wl w3.heap.size (.int .u32 (t1 : Int)) (.int .u8 (r1 : Int)) (.int .i64 m1)) := by
    rw [hwl]
    exact (tri_new w3 (.int .u32 (t1 : Int)) (.int .u8 (r1 : Int)) (.int .i64 m1) 35).keeps ((Below.refl _ _).alloc (Nat.le_refl _) _)
  have PB : Hid (Tri wl (w3.heap.size + 1) (.int .u32 (t2 : Int)) (.int .u8 (r2 : Int)) (.int .i64 m2)) := by
    have := tri_new (w3.alloc (.cells #[.int .u32 (t1 : Int), .int .u8 (r1 : Int), .int .i64 m1] 35)) (.int .u32 (t2 : Int)) (.int .u8 (r2 : Int)) (.int .i64 m2) 35
    rw [hwl]
    unfold Hid
    simpa using this
  have BL : Hid (Below w.heap.size w wl) := by rw [hwl]; exact (B3.out.alloc B3.out.size _).alloc (Nat.le_trans B3.out.size (by simp)) _
  by_cases hm1z : m1 = 0
  · rw [if_pos hm1z] at he
    by_cases hm2z : m2 = 0
    · rw [if_pos hm2z] at he
      simp only at he
      subst hm1z hm2z he
      go_wp2
      rw [← hwl]
      go_ret
      exact ⟨rfl, BL.out⟩
    · rw [if_neg hm2z] at he
      simp only at he
      have u1 : (m2 == 0) = false := by simpa using hm2z
      subst hm1z he
      go_wp2
      rw [← hwl]
      go_ret
      exact ⟨rfl, BL.out⟩
  · rw [if_neg hm1z] at he
    have u1 : (m1 == 0) = false := by simpa using hm1z
    by_cases hm2z : m2 = 0
    · rw [if_pos hm2z] at he
      simp only at he
      subst hm2z he
      go_wp2
      rw [← hwl]
      go_ret
      exact ⟨rfl, BL.out⟩
    · rw [if_neg hm2z] at he
      have u2 : (m2 == 0) = false := by simpa using hm2z
      have LS := Lib.hid (less_any t2 r2 t1 r1 ht2 hr2 ht1 hr1)
      have F1 := Lib.hid (firstOf_any t1 r1 m1)
      have F2 := Lib.hid (firstOf_any t2 r2 m2)
      obtain ⟨lb, hlb⟩ : ∃ lb, less t2 r2 t1 r1 = lb := ⟨_, rfl⟩
      rw [hlb] at LS he
      clear hlb hm1z hm2z
      cases lb
      all_goals
        simp only [Bool.false_eq_true, if_false, if_true] at he
        subst he
        go_wp2
        rw [← hwl]
        clear hwl
        go_region_held3 (fun w' => Below wl.heap.size wl w' ∧ w'.cell? ⟨w3.heap.size, 0, none⟩ = some (.int .u32 (t1 : Int)) ∧ w'.cell? ⟨w3.heap.size, 1, none⟩ = some (.int .u8 (r1 : Int)) ∧ w'.cell? ⟨w3.heap.size, 2, none⟩ = some (.int .i64 m1) ∧ w'.cell? ⟨w3.heap.size + 1, 0, none⟩ = some (.int .u32 (t2 : Int)) ∧ w'.cell? ⟨w3.heap.size + 1, 1, none⟩ = some (.int .u8 (r2 : Int)) ∧ w'.cell? ⟨w3.heap.size + 1, 2, none⟩ = some (.int .i64 m2))
          (first | exact keepT2 PA.out PB.out (drew1 _) (Below.refl _ _) | (go_split_ands; exact keepT2 PA.out PB.out (drew1 _) (by assumption)) | (go_split_ands; exact keepT2 PA.out PB.out (by assumption) (by assumption)))
          ((first | (go_at_call 49; (with_reducible refine (firstOf_any _ _ _ _).mono ?_); rintro e w4 ⟨rfl, b4⟩) | (go_at_call 48; (with_reducible refine (LS.out _).mono ?_); rintro e w6 ⟨rfl, b6⟩)))
      all_goals
        go_wp2
        go_ret
        go_split_ands
        exact ⟨rfl, BL.out.trans (Below.mono (by assumption) BL.out.size)⟩

end Go.Proofs.Ytdgcokknaampdaa.Place

/- octavoref06.Under: what it answers. Conditions: the slice's cells are runs. -/
namespace Go.Proofs.Ytdgcokknaampdaa.Place
open Go.RowKit Stamp
attribute [local go_sem ↓] Go.wp_at_zero Go.wp_at_succ
attribute [local go_sem] yielded_undef

end Go.Proofs.Ytdgcokknaampdaa.Place

/- octavo/place.Under: what it answers. Conditions: the slice's cells are runs. -/
namespace Go.Proofs.Ytdgcokknaampdaa.Place
open Go.RowKit Stamp
attribute [local go_sem ↓] Go.wp_at_zero Go.wp_at_succ
attribute [local go_sem] yielded_undef

end Go.Proofs.Ytdgcokknaampdaa.Place

/- The laws' helpers of layer 6: run, of, alive, may; places written out. Conditions: none. -/
namespace Go.Proofs.Ytdgcokknaampdaa.Place
open Go.RowKit Stamp
attribute [local go_sem ↓] Go.wp_at_zero Go.wp_at_succ

/-- A run written out. -/
def lr (t r m : Nat) (h : t < 4294967296 ∧ r < 256 ∧ m < 10000) : Run := ⟨t, r, m, h.1, h.2.1, by omega⟩
theorem Runs.alloc {W : World} {v : Value} {l : List Run} (h : Runs W v l) (o : Obj) : Runs (W.alloc o) v l := h.keeps ((Below.refl _ _).alloc (Nat.le_refl _) o)

end Go.Proofs.Ytdgcokknaampdaa.Place

/- The law PlaceOrder: its walk. Conditions: the slices' cells are runs. -/
namespace Go.Proofs.Ytdgcokknaampdaa.Place
open Go.RowKit Stamp
attribute [local go_sem ↓] Go.wp_at_zero Go.wp_at_succ

end Go.Proofs.Ytdgcokknaampdaa.Place

/- octavoref09: Check, Many, Stands, Needs: what each answers. Conditions: the places' cells are runs. -/
namespace Go.Proofs.Ytdgcokknaampdaa.Ops
open Go.RowKit Stamp Go.Proofs.Ytdgcokknaampdaa.Place
attribute [local go_sem ↓] Go.wp_at_zero Go.wp_at_succ

end Go.Proofs.Ytdgcokknaampdaa.Ops

/- The laws' helpers of layer 9: by, three, needs, bad, alive. Conditions: none. -/
namespace Go.Proofs.Ytdgcokknaampdaa.Ops
open Go.RowKit Stamp Go.Proofs.Ytdgcokknaampdaa.Place
attribute [local go_sem ↓] Go.wp_at_zero Go.wp_at_succ

/-- What blocks of five cells hold, over calls that write nothing that was there. -/
def Five (w : World) (g : Nat) (c0 c1 c2 c3 c4 : Value) : Prop := g < w.heap.size ∧ w.cell? ⟨g, 0, none⟩ = some c0 ∧ w.cell? ⟨g, 1, none⟩ = some c1 ∧ w.cell? ⟨g, 2, none⟩ = some c2 ∧ w.cell? ⟨g, 3, none⟩ = some c3 ∧ w.cell? ⟨g, 4, none⟩ = some c4
theorem Five.keeps {w w' : World} {g : Nat} {c0 c1 c2 c3 c4 : Value} (p : Five w g c0 c1 c2 c3 c4) (hb : Below w.heap.size w w') : Five w' g c0 c1 c2 c3 c4 :=
  ⟨Nat.lt_of_lt_of_le p.1 hb.size, (hb.cell (p := ⟨g, 0, none⟩) p.1).trans p.2.1, (hb.cell (p := ⟨g, 1, none⟩) p.1).trans p.2.2.1, (hb.cell (p := ⟨g, 2, none⟩) p.1).trans p.2.2.2.1, (hb.cell (p := ⟨g, 3, none⟩) p.1).trans p.2.2.2.2.1, (hb.cell (p := ⟨g, 4, none⟩) p.1).trans p.2.2.2.2.2⟩
end Go.Proofs.Ytdgcokknaampdaa.Ops

/- OpNeeds answers true, and changes nothing that was there. Conditions: none. -/
namespace Go.Proofs.Ytdgcokknaampdaa.Ops
open Go.RowKit Stamp Go.Proofs.Ytdgcokknaampdaa.Place
attribute [local go_sem ↓] Go.wp_at_zero Go.wp_at_succ
attribute [local go_sem] yielded_undef

end Go.Proofs.Ytdgcokknaampdaa.Ops
