/- Slices of spans: what a slice value holds. Conditions: none. -/
import Derived.WalkKit
import Derived.WalkSpells
import Derived.WalkLawsBesides
import Derived.RegionTactic
import Derived.Deep.DrawnRows
import Derived.Deep.QuietTactic
import Derived.BigQuiet
import Derived.IntWalk
import Derived.Deep.RegionHeld3
import Derived.Deep.DeepCutAuto
import Derived.Test.YtdackenaknieaaaPk05
import Derived.Test.YtdackenaknieaaaPk01
import Derived.Test.YtdackenaknieaaaPk03
import Derived.Test.YtdackenaknieaaaPk04
import Derived.Test.YtdackenaknieaaaPk02

namespace Go.Proofs.Ytdackenaknieaaa
open Go.RowKit Go.WideShapes Spans

/-- Spans as cells. -/
def sps : List Sp → List Value
  | [] => []
  | a :: l => .int .u32 (a.f : Int) :: .int .u32 (a.t : Int) :: sps l
theorem sps_len : ∀ l : List Sp, (sps l).length = l.length * 2
  | [] => rfl
  | a :: l => by simp [sps, sps_len l]; omega
theorem sps_get : ∀ (l : List Sp) (j : Nat), j < l.length → (sps l)[j * 2]? = some (.int .u32 ((l.getD j zsp).f : Int)) ∧ (sps l)[j * 2 + 1]? = some (.int .u32 ((l.getD j zsp).t : Int))
  | [], j, h => by simp at h
  | a :: l, 0, _ => by simp [sps]
  | a :: l, j + 1, h => by
    have := sps_get l j (by simpa using h)
    rw [show (j + 1) * 2 = j * 2 + 1 + 1 by omega]
    simpa [sps] using this
/-- A slice of spans. -/
def Sps (w : World) (v : Value) (l : List Sp) : Prop := Sees w v 2 l.length (sps l)
theorem Sps.keeps {w w' : World} {v : Value} {l : List Sp} (h : Sps w v l) (hb : Below w.heap.size w w') : Sps w' v l := Sees.keeps h hb
theorem Sps.nil (w : World) : Sps w (.slice none 0 0) [] := Sees.nil w 2
theorem Sps.shape {w : World} {v : Value} {l : List Sp} (h : Sps w v l) : ∃ ao cap, v = .slice ao l.length cap := Sees.shape h
theorem Sps.at {w : World} {ao : Option Addr} {m cap : Nat} {l : List Sp} (h : Sps w (.slice ao m cap) l) (k : Nat) (hk : k < l.length) :
    ∃ b off, ao = some ⟨b, off, none⟩ ∧ b < w.heap.size ∧ w.cell? ⟨b, off + k * 2, none⟩ = some (.int .u32 ((l.getD k zsp).f : Int)) ∧ w.cell? ⟨b, off + k * 2 + 1, none⟩ = some (.int .u32 ((l.getD k zsp).t : Int)) := by
  obtain ⟨b, off, h1, h2, h3⟩ := Sees.at h (k * 2) (by rw [sps_len]; omega)
  have e := sps_get l k hk
  exact ⟨b, off, h1, h2, (h3 (k * 2) (by rw [sps_len]; omega)).trans e.1, (h3 (k * 2 + 1) (by rw [sps_len]; omega)).trans e.2⟩
theorem Sps.own {w : World} {base : Nat} {e : TypeId} {v : Value} {n : Nat} {l : List Sp} (h : w.ownsRow base e 2 v n (sps l)) : Sps w v l := by
  have h1 := h.1
  rw [sps_len] at h1
  obtain rfl : l.length = n := by omega
  exact Sees.own h
end Go.Proofs.Ytdackenaknieaaa

/- Slices of a replica and its spans: what a slice value holds, a slice of spans in each element. Conditions: none. -/
namespace Go.Proofs.Ytdackenaknieaaa
open Go.RowKit Go.WideShapes Spans Clocks

/-- The cells hold the clock: a replica, and what reads as its spans. -/
def Hold (w : World) : List Value → List Tm → Prop
  | [], [] => True
  | a :: b :: cs, x :: c => a = .int .u8 (x.1 : Int) ∧ x.1 < 256 ∧ Sps w b x.2 ∧ Hold w cs c
  | _, _ => False
theorem Hold.len : ∀ {w : World} {cs : List Value} {c : List Tm}, Hold w cs c → cs.length = c.length * 2
  | _, [], [], _ => rfl
  | w, a :: b :: cs, x :: c, h => by have := Hold.len h.2.2.2; simp; omega
theorem Hold.keeps : ∀ {w w' : World} {cs : List Value} {c : List Tm}, Hold w cs c → Below w.heap.size w w' → Hold w' cs c
  | _, _, [], [], _, _ => trivial
  | _, _, _ :: _ :: _, _ :: _, h, hb => ⟨h.1, h.2.1, h.2.2.1.keeps hb, Hold.keeps h.2.2.2 hb⟩
theorem Hold.append : ∀ {w : World} {cs ds : List Value} {c d : List Tm}, Hold w cs c → Hold w ds d → Hold w (cs ++ ds) (c ++ d)
  | _, [], _, [], _, _, h => h
  | _, _ :: _ :: _, _, _ :: _, _, h, h2 => ⟨h.1, h.2.1, h.2.2.1, Hold.append h.2.2.2 h2⟩
theorem Hold.one {w : World} {u : Value} {x : Tm} (hr : x.1 < 256) (hu : Sps w u x.2) : Hold w [.int .u8 (x.1 : Int), u] [x] := ⟨rfl, hr, hu, trivial⟩
theorem Hold.get : ∀ {w : World} {cs : List Value} {c : List Tm} (k : Nat), Hold w cs c → k < c.length →
    cs[k * 2]? = some (.int .u8 ((c.getD k (0, [])).1 : Int)) ∧ (c.getD k (0, [])).1 < 256 ∧ ∃ u, cs[k * 2 + 1]? = some u ∧ Sps w u (c.getD k (0, [])).2
  | _, _, [], _, _, hk => by simp at hk
  | _, [], _ :: _, _, h, _ => by simp [Hold] at h
  | _, [_], _ :: _, _, h, _ => by simp [Hold] at h
  | w, a :: b :: cs, x :: c, 0, h, _ => by
    obtain ⟨rfl, h1, h2, _⟩ := h
    exact ⟨by simp, by simpa using h1, b, by simp, by simpa using h2⟩
  | w, a :: b :: cs, x :: c, k + 1, h, hk => by
    have := Hold.get k h.2.2.2 (by simpa using hk)
    rw [show (k + 1) * 2 = k * 2 + 1 + 1 by omega]
    simpa using this
/-- A slice of replicas' spans. -/
def Tms (w : World) (v : Value) (c : List Tm) : Prop := ∃ cs, Sees w v 2 c.length cs ∧ Hold w cs c
theorem Tms.keeps {w w' : World} {v : Value} {c : List Tm} (h : Tms w v c) (hb : Below w.heap.size w w') : Tms w' v c := by
  obtain ⟨cs, h1, h2⟩ := h
  exact ⟨cs, h1.keeps hb, h2.keeps hb⟩
theorem Tms.nil (w : World) : Tms w (.slice none 0 0) [] := ⟨[], Sees.nil w 2, trivial⟩
theorem Tms.shape {w : World} {v : Value} {c : List Tm} (h : Tms w v c) : ∃ ao cap, v = .slice ao c.length cap := by
  obtain ⟨cs, h1, _⟩ := h
  exact Sees.shape h1
theorem Tms.max {w : World} {v : Value} {c : List Tm} (h : Tms w v c) : c.length ≤ 9223372036854775807 := by
  obtain ⟨cs, h1, _⟩ := h
  exact Sees.max h1
theorem Tms.at {w : World} {ao : Option Addr} {m cap : Nat} {c : List Tm} (h : Tms w (.slice ao m cap) c) (k : Nat) (hk : k < c.length) :
    ∃ b off u, ao = some ⟨b, off, none⟩ ∧ b < w.heap.size ∧ w.cell? ⟨b, off + k * 2, none⟩ = some (.int .u8 ((c.getD k (0, [])).1 : Int)) ∧ w.cell? ⟨b, off + k * 2 + 1, none⟩ = some u ∧
      (c.getD k (0, [])).1 < 256 ∧ Sps w u (c.getD k (0, [])).2 := by
  obtain ⟨cs, h1, h2⟩ := h
  have hl := h2.len
  obtain ⟨b, off, e1, e2, e3⟩ := Sees.at h1 (k * 2) (by omega)
  obtain ⟨g1, g2, u, g3, g4⟩ := h2.get k hk
  exact ⟨b, off, u, e1, e2, (e3 (k * 2) (by omega)).trans g1, (e3 (k * 2 + 1) (by omega)).trans g3, g2, g4⟩

end Go.Proofs.Ytdackenaknieaaa

/- octavoref07: Twin, Same, In, Many, May, Check, Has, Count: what each answers. Conditions: the slices' cells are spans. -/
namespace Go.Proofs.Ytdackenaknieaaa.Spans
open Go.RowKit
attribute [local go_sem ↓] Go.wp_at_zero Go.wp_at_succ

end Go.Proofs.Ytdackenaknieaaa.Spans

/- octavoref07: Many, May, Check, Has, Count, told: what each answers. Conditions: the slices' cells are spans. -/
namespace Go.Proofs.Ytdackenaknieaaa.Spans
open Go.RowKit
attribute [local go_sem ↓] Go.wp_at_zero Go.wp_at_succ

def chk (l : List Sp) : Int := if mayB l = true then 0 else 8
def has (l : List Sp) (t : Nat) : Bool := mayB l && inB l t
def count (l : List Sp) : Nat := if mayB l = true then many l else 0
end Go.Proofs.Ytdackenaknieaaa.Spans

/- octavoref08: May, Check, Spans, In, Has, Many, Count, Top: what each answers. Conditions: the slices' cells are replicas' spans. -/
namespace Go.Proofs.Ytdackenaknieaaa.Clocks
open Go.RowKit Go.Proofs.Ytdackenaknieaaa.Spans
attribute [local go_sem ↓] Go.wp_at_zero Go.wp_at_succ

theorem Tms.drawn {w : World} {v : Value} {c : List Tm} (h : Tms w v c) (n : Nat) : Tms (w.drewN n) v c := h.keeps (below_draw (Below.refl _ _) n)

end Go.Proofs.Ytdackenaknieaaa.Clocks

/- octavoref08: Check, Spans, In, Has, Many, Count, Top: what each answers. Conditions: the slices' cells are replicas' spans. -/
namespace Go.Proofs.Ytdackenaknieaaa.Clocks
open Go.RowKit Go.Proofs.Ytdackenaknieaaa.Spans
attribute [local go_sem ↓] Go.wp_at_zero Go.wp_at_succ

end Go.Proofs.Ytdackenaknieaaa.Clocks

/- octavoref07.Without: what it answers. Conditions: the slice's cells are spans that may be. -/
namespace Go.Proofs.Ytdackenaknieaaa.Spans
open Go.RowKit
attribute [local go_sem ↓] Go.wp_at_zero Go.wp_at_succ

theorem own_base {w : World} {b b' : Nat} {e : TypeId} {v : Value} {sz n : Nat} {cs : List Value} (h : w.ownsRow b e sz v n cs) (hb : b' ≤ b) : w.ownsRow b' e sz v n cs :=
  ⟨h.1, h.2.imp_right fun ⟨g, c, cur, h1, h2, h3⟩ => ⟨g, c, cur, h1, Nat.le_trans hb h2, h3⟩⟩

end Go.Proofs.Ytdackenaknieaaa.Spans

/- octavoref07.With: what it answers. Conditions: the slice's cells are spans that may be. -/
namespace Go.Proofs.Ytdackenaknieaaa.Spans
open Go.RowKit
attribute [local go_sem ↓] Go.wp_at_zero Go.wp_at_succ

end Go.Proofs.Ytdackenaknieaaa.Spans

/- octavoref07: Both, Left, Add, Join, Less: what each answers. Conditions: the slices' cells are spans. -/
namespace Go.Proofs.Ytdackenaknieaaa.Spans
open Go.RowKit
attribute [local go_sem ↓] Go.wp_at_zero Go.wp_at_succ

end Go.Proofs.Ytdackenaknieaaa.Spans

/- octavoref08: Many, Count, Great, put, told, Both, Left, Join, Less: what each answers. Conditions: the slices' cells are replicas' spans. -/
namespace Go.Proofs.Ytdackenaknieaaa.Clocks
open Go.RowKit Go.Proofs.Ytdackenaknieaaa.Spans
attribute [local go_sem ↓] Go.wp_at_zero Go.wp_at_succ

/-- Some replica has more spans than any machine can hold. -/
def Huge (c : List Tm) : Prop := ∃ x ∈ c, 9000000000000000000 < x.2.length
/-- What Great answers. -/
def Grt (c : List Tm) (e : Ending) : Prop := ∃ g, e = .returned (.bool g) ∧ (g = false → c.length ≤ 300 ∧ (tot c ≤ 300 ∨ Huge c))
theorem Grt.yes {c : List Tm} : Grt c (.returned (.bool true)) := ⟨true, rfl, fun h => by cases h⟩
/-! ### Two together -/
end Go.Proofs.Ytdackenaknieaaa.Clocks

/- octavoref08: put, told, Both, Left, Join, Less, One, Add: what each answers. Conditions: the slices' cells are replicas' spans. -/
namespace Go.Proofs.Ytdackenaknieaaa.Clocks
open Go.RowKit Go.Proofs.Ytdackenaknieaaa.Spans
attribute [local go_sem ↓] Go.wp_at_zero Go.wp_at_succ

end Go.Proofs.Ytdackenaknieaaa.Clocks

/- octavoref08: One, Add, Among, Of, Top: what each answers. Conditions: the slices' cells are replicas' spans, stamps. -/
namespace Go.Proofs.Ytdackenaknieaaa.Clocks
open Go.RowKit Go.Proofs.Ytdackenaknieaaa.Spans
attribute [local go_sem ↓] Go.wp_at_zero Go.wp_at_succ

end Go.Proofs.Ytdackenaknieaaa.Clocks

/- octavoref08: Among, Of, Top, Same: what each answers. Conditions: the slices' cells are replicas' spans, stamps. -/
namespace Go.Proofs.Ytdackenaknieaaa.Clocks
open Go.RowKit Go.Proofs.Ytdackenaknieaaa.Spans
attribute [local go_sem ↓] Go.wp_at_zero Go.wp_at_succ

end Go.Proofs.Ytdackenaknieaaa.Clocks

/- octavoref08: Top, Same: what each answers. Conditions: the slices' cells are replicas' spans. -/
namespace Go.Proofs.Ytdackenaknieaaa.Clocks
open Go.RowKit Go.Proofs.Ytdackenaknieaaa.Spans
attribute [local go_sem ↓] Go.wp_at_zero Go.wp_at_succ

end Go.Proofs.Ytdackenaknieaaa.Clocks

/- octavoref08: Top, All, Ids: what each answers. Conditions: the slices' cells are replicas' spans. -/
namespace Go.Proofs.Ytdackenaknieaaa.Clocks
open Go.RowKit Go.Proofs.Ytdackenaknieaaa.Spans
attribute [local go_sem ↓] Go.wp_at_zero Go.wp_at_succ

end Go.Proofs.Ytdackenaknieaaa.Clocks

/- octavoref08: All, Ids: what each answers. Conditions: the slices' cells are replicas' spans. -/
namespace Go.Proofs.Ytdackenaknieaaa.Clocks
open Go.RowKit Go.Proofs.Ytdackenaknieaaa.Spans
attribute [local go_sem ↓] Go.wp_at_zero Go.wp_at_succ

/-- A row of stamps of the call's own. -/
def OwnI (w : World) (base : Nat) (v : Value) (L : List Id) : Prop := w.ownsRow base 32 2 v L.length (ids L)
theorem OwnI.nil (w : World) (base : Nat) : OwnI w base (.slice none 0 0) [] := World.ownsRow_nil _ _ _ _

end Go.Proofs.Ytdackenaknieaaa.Clocks

/- octavoref08.Ids; the laws' helper of layer 8 that writes over what was answered. Conditions: the rows are the call's own. -/
namespace Go.Proofs.Ytdackenaknieaaa.Clocks
open Go.RowKit Go.Proofs.Ytdackenaknieaaa.Spans
attribute [local go_sem ↓] Go.wp_at_zero Go.wp_at_succ

theorem OwnI.base {w : World} {b b' : Nat} {v : Value} {L : List Id} (h : OwnI w b v L) (hb : b' ≤ b) : OwnI w b' v L := own_base h hb
/-! ### Written over -/
/-- What was there stays so, but from base on, ahead of top. -/
def Sand (base top : Nat) (w w' : World) : Prop := Below base w w' ∧ ∀ j, top ≤ j → w'.heap[j]? = w.heap[j]?
theorem Sand.refl (base top : Nat) (w : World) : Sand base top w w := ⟨Below.refl _ _, fun _ _ => rfl⟩
theorem Sand.trans {base top : Nat} {a b c : World} (h : Sand base top a b) (k : Sand base top b c) : Sand base top a c := ⟨h.1.trans k.1, fun j hj => (k.2 j hj).trans (h.2 j hj)⟩
end Go.Proofs.Ytdackenaknieaaa.Clocks

/- octavoref11.Left, Less, Stamps, Ids, Find: what each answers. Conditions: the slices' cells are operations, replicas' times; those of Left, Stamps not too many. -/
namespace Go.Proofs.Ytdackenaknieaaa.Bags
open Go.RowKit Go.WideShapes Stamp Go.Proofs.Ytdackenaknieaaa.Place Ops Codes
attribute [local go_sem ↓] Go.wp_at_zero Go.wp_at_succ
attribute [local go_sem] yielded_undef


def idE : Enc Id where
  sz := 2
  pos := by decide
  inn _ cs x := cs = [.int .u32 (x.t : Int), .int .u8 (x.r : Int)]
  len := by rintro w cs x rfl; rfl
  one := by
    rintro w cs x rfl u hu
    simp only [List.mem_cons, List.not_mem_nil, or_false] at hu
    rcases hu with rfl | rfl <;> rfl
  keep := by rintro w w' cs x _ h; exact h
theorem idE_rows {w : World} : ∀ {cs : List Value} {l : List Id}, idE.rows w cs l → cs = ids l
  | _, [], h => h
  | _, _ :: _, ⟨c, d, h1, h2, h3⟩ => by
    rw [h1, show c = _ from h2, idE_rows h3]
    rfl
end Go.Proofs.Ytdackenaknieaaa.Bags

/- octavoref10.Great, Same, Twin: what each answers. Conditions: the slices' cells are operations; Twin's: they are not more than memory holds. -/
namespace Go.Proofs.Ytdackenaknieaaa.Codes
open Go.RowKit Go.WideShapes Go.Proofs.Ytdackenaknieaaa.Place Ops
attribute [local go_sem ↓] Go.wp_at_zero Go.wp_at_succ

/-- What Great answers: where it answers no, there are not more than so many. -/
def GrtO (l : List Opn) (m : Int) (e : Ending) : Prop := ∃ g, e = .returned (.bool g) ∧ (g = false → (l.length : Int) ≤ m ∧ ∀ k (h : k < l.length), k < 300 → (l[k]'h).pl.length ≤ 100)
theorem GrtO.yes {l : List Opn} {m : Int} : GrtO l m (.returned (.bool true)) := ⟨true, rfl, fun h => by cases h⟩

set_option maxRecDepth 100000 in
set_option maxHeartbeats 4000000 in
theorem greatO_any {v : Value} {l : List Opn} {many : Int} {w : World} (hv : OpL w v l) :
    Calls Try.prog 5 #[v, .int .i64 many] w fun e w' => GrtO l many e ∧ w = w' := by
  obtain ⟨ao, cap, rfl⟩ := hv.shape
  obtain ⟨n, hn⟩ : ∃ n, n = l.length := ⟨_, rfl⟩
  have hm : n ≤ 9223372036854775807 := by rw [hn]; exact hv.max
  have HV := Lib.hid hv
  have HN := Lib.hid hn
  rw [← hn]
  clear hv hn
  go_enter Try.func5, Try.ntmps5
  go_wp2
  go_loop [5, 6, 7] (fun s i c => ∃ (j : Nat) (m : Int), j ≤ n ∧ j ≤ 300 ∧ i = .int .i64 (j : Int) ∧ s = .int .i64 m ∧ Hid (∀ k (h : k < l.length), k < j → (l[k]'h).pl.length ≤ 100)) (fun _ i _ => n - (intOf i).toNat)
  case atStart => exact ⟨0, 0, by omega, by omega, rfl, rfl, fun k h hk => by omega⟩
  case round =>
    obtain ⟨j, m, hj, hj3, rfl, rfl, hall⟩ := hrel
    by_cases hjn : j < n
    · have q1 : decide (j < n) = true := by simpa using hjn
      by_cases hj4 : j < 300
      · have q4 : decide ((j : Int) < 300) = true := decide_eq_true (by omega)
        have q5 : decide (j < 300) = true := decide_eq_true hj4
        have q2 : (0 : Int) ≤ (j : Int) := by omega
        have q3 : (j : Int) < (n : Int) := by omega
        have hjl : j < l.length := by rw [← HN.out]; exact hjn
        obtain ⟨b1, o1, u, rfl, hb1, hru, -, -, -, ha3, -⟩ := opl_at HV.out j hjl
        have hsx := Sees.max hru
        have HRU := Lib.hid hru
        obtain ⟨so, sc, rfl⟩ := hru.shape
        obtain ⟨p, hp⟩ : ∃ p, p = (l[j]'hjl).pl := ⟨_, rfl⟩
        have HJA : Hid (p.length ≤ 100 → ∀ k (h : k < l.length), k < j + 1 → (l[k]'h).pl.length ≤ 100) := fun h1 k h hk => by
          by_cases e : k = j
          · subst e; rw [← hp]; exact h1
          · exact hall.out k h (by omega)
        rw [← hp] at ha3 hsx HRU
        obtain ⟨d, hd⟩ : ∃ d, d = p.length := ⟨_, rfl⟩
        have HD := Lib.hid hd
        rw [← hd] at ha3 hsx HRU
        clear hall hp hru hd
        by_cases h3 : 100 < d
        · have t1 : decide ((100 : Int) < (d : Int)) = true := decide_eq_true (by omega)
          have t2 : decide (100 < d) = true := decide_eq_true h3
          go_wp2
          go_ret
          exact ⟨GrtO.yes, rfl⟩
        · have t1 : decide ((100 : Int) < (d : Int)) = false := decide_eq_false (by omega)
          have t2 : decide (100 < d) = false := decide_eq_false h3
          have HJB := Lib.hid (HJA.out (by rw [← HD.out]; omega))
          clear HJA
          go_wp2
          go_loop [5, 7] (fun s c => ∃ (k : Nat) (m : Int), k ≤ d ∧ c = .int .i64 (k : Int) ∧ s = .int .i64 m) (fun _ c => d - (intOf c).toNat)
          case atStart => exact ⟨0, _, by omega, rfl, rfl⟩
          case round =>
            obtain ⟨k, m, hk, rfl, rfl⟩ := hrel
            by_cases hkd : k < d
            · have c1 : decide (k < d) = true := by simpa using hkd
              have c2 : (0 : Int) ≤ (k : Int) := by omega
              have c3 : (k : Int) < (d : Int) := by omega
              obtain ⟨b2, o2, rfl, hb2, -, -, g2⟩ := HRU.out.at k (by rw [← HD.out]; exact hkd)
              go_wp2
              go_round
              case rel => exact ⟨k + 1, _, by omega, by go_num, rfl⟩
              case measure => simp [intOf]; omega
            · have c1 : decide (k < d) = false := by simpa using hkd
              go_wp2
              go_round
              case rel => exact ⟨j + 1, _, by omega, by omega, by go_num, rfl, HJB⟩
              case measure => simp [intOf]; omega
      · obtain rfl : j = 300 := by omega
        obtain ⟨b, hb⟩ : ∃ b, decide (many < (n : Int)) = b := ⟨_, rfl⟩
        have HB : Hid (b = false → (n : Int) ≤ many) := fun h => by rw [h] at hb; have := of_decide_eq_false hb; omega
        obtain ⟨c, hc⟩ : ∃ b, decide (3000 < m) = b := ⟨_, rfl⟩
        clear q1
        cases b
        · go_wp2
          go_ret
          refine ⟨⟨_, rfl, fun _ => ⟨?_, fun k h hk => hall.out k h hk⟩⟩, rfl⟩
          rw [← HN.out]; exact HB.out trivial
        · go_wp2
          go_ret
          exact ⟨GrtO.yes, rfl⟩
    · have q1 : decide (j < n) = false := by simpa using hjn
      obtain rfl : j = n := by omega
      obtain ⟨b, hb⟩ : ∃ b, decide (many < (j : Int)) = b := ⟨_, rfl⟩
      have HB : Hid (b = false → (j : Int) ≤ many) := fun h => by rw [h] at hb; have := of_decide_eq_false hb; omega
      obtain ⟨c, hc⟩ : ∃ b, decide (3000 < m) = b := ⟨_, rfl⟩
      cases b
      · go_wp2
        go_ret
        refine ⟨⟨_, rfl, fun _ => ⟨?_, fun k h _ => hall.out k h (by have := HN.out; omega)⟩⟩, rfl⟩
        rw [← HN.out]; exact HB.out trivial
      · go_wp2
        go_ret
        exact ⟨GrtO.yes, rfl⟩

set_option maxRecDepth 100000 in
set_option maxHeartbeats 4000000 in
theorem sameL_any {u v : Value} {l m : List Opn} {w : World} (hu : OpL w u l) (hv : OpL w v m) :
    Calls Try.prog 16 #[u, v] w fun e w' => e = .returned (.bool (decide (l = m))) ∧ Below w.heap.size w w' := by
  obtain ⟨ao, cap, rfl⟩ := hu.shape
  obtain ⟨bo, cab, rfl⟩ := hv.shape
  obtain ⟨n, hn⟩ : ∃ n, n = l.length := ⟨_, rfl⟩
  obtain ⟨n', hn'⟩ : ∃ n, n = m.length := ⟨_, rfl⟩
  have hm : n ≤ 9223372036854775807 := by rw [hn]; exact hu.max
  have hm' : n' ≤ 9223372036854775807 := by rw [hn']; exact hv.max
  have HU : Hid (∀ W : World, Below w.heap.size w W → OpL W (.slice ao l.length cap) l) := fun W h => hu.keeps h
  have HV : Hid (∀ W : World, Below w.heap.size w W → OpL W (.slice bo m.length cab) m) := fun W h => hv.keeps h
  have HN := Lib.hid hn
  have HN' := Lib.hid hn'
  obtain ⟨q, hq⟩ : ∃ q, decide (l = m) = q := ⟨_, rfl⟩
  have HQ := Lib.hid hq
  rw [hq, ← hn, ← hn']
  clear hu hv hn hn' hq
  go_enter Try.func16, Try.ntmps16
  by_cases he : n = n'
  rotate_left
  · have t1 : ((n : Int) != (n' : Int)) = true := by simp; omega
    have t2 : (n == n') = false := by simpa using he
    obtain rfl : q = false := by rw [← HQ.out]; exact decide_eq_false (fun h => he (by rw [HN.out, HN'.out, h]))
    go_wp2
    go_ret
    exact ⟨rfl, Below.refl _ _⟩
  subst he
  have t1 : ((n : Int) != (n : Int)) = false := by simp
  go_wp2
  go_loopw [5] (fun i wr => ∃ j : Nat, j ≤ n ∧ i = .int .i64 (j : Int) ∧ Hid (∀ k (h : k < l.length) (h' : k < m.length), k < j → l[k]'h = m[k]'h') ∧ Hid (Below w.heap.size w wr)) (fun i _ => n - (intOf i).toNat)
  case atStart => exact ⟨0, by omega, rfl, fun k h h' hk => by omega, Below.refl _ _⟩
  case round =>
    obtain ⟨j, hj, rfl, hall, hbel⟩ := hrel
    by_cases hjn : j < n
    · have q3 : decide (j < n) = true := by simpa using hjn
      have q4 : (0 : Int) ≤ (j : Int) := by omega
      have q5 : (j : Int) < (n : Int) := by omega
      have hjl : j < l.length := by rw [← HN.out]; exact hjn
      have hjm : j < m.length := by rw [← HN'.out]; exact hjn
      obtain ⟨bb, oo, u, rfl, hbb, hru, h0, h1, h2, h3, h4⟩ := opl_at (HU.out wr hbel.out) j hjl
      obtain ⟨bb', oo', u', rfl, hbb', hru', h0', h1', h2', h3', h4'⟩ := opl_at (HV.out wr hbel.out) j hjm
      obtain ⟨x, hx⟩ : ∃ x, x = l[j]'hjl := ⟨_, rfl⟩
      obtain ⟨y, hy⟩ : ∃ x, x = m[j]'hjm := ⟨_, rfl⟩
      rw [← hx] at hru h0 h1 h2 h4
      rw [← hy] at hru' h0' h1' h2' h4'
      have SM : Hid (∀ W : World, Below wr.heap.size wr W → Calls Try.prog 30 #[opv x u, opv y u'] W fun e w' => e = .returned (.bool (sameB x y)) ∧ Below W.heap.size W w') := fun W h => Ops.refSame_any (hru.keeps h) (hru'.keeps h)
      have HO : Hid (∀ v : Value, opv x v = .agg #[.int .u8 (x.k : Int), .int .u32 (x.t : Int), .int .u8 (x.r : Int), v, .int .i64 x.p]) := fun v => rfl
      have HO' : Hid (∀ v : Value, opv y v = .agg #[.int .u8 (y.k : Int), .int .u32 (y.t : Int), .int .u8 (y.r : Int), v, .int .i64 y.p]) := fun v => rfl
      have HNO : Hid (sameB x y = false → q = false) := fun h => by
        rw [← HQ.out]
        refine decide_eq_false (fun e => ?_)
        have : x = y := by rw [hx, hy]; subst e; rfl
        rw [(sameB_iff x y).2 this] at h; cases h
      have HYES : Hid (sameB x y = true → ∀ k (h : k < l.length) (h' : k < m.length), k < j + 1 → l[k]'h = m[k]'h') := fun e k h h' hk => by
        by_cases ek : k = j
        · subst ek; rw [← hx, ← hy]; exact (sameB_iff x y).1 e
        · exact hall.out k h h' (by omega)
      obtain ⟨k, hk⟩ : ∃ k, x.k = k := ⟨_, rfl⟩
      obtain ⟨t, ht⟩ : ∃ k, x.t = k := ⟨_, rfl⟩
      obtain ⟨r, hr⟩ : ∃ k, x.r = k := ⟨_, rfl⟩
      obtain ⟨p, hp⟩ : ∃ k, x.p = k := ⟨_, rfl⟩
      rw [hk, ht, hr, hp] at HO
      rw [hk] at h0
      rw [ht] at h1
      rw [hr] at h2
      rw [hp] at h4
      obtain ⟨k', hk'⟩ : ∃ k, y.k = k := ⟨_, rfl⟩
      obtain ⟨t', ht'⟩ : ∃ k, y.t = k := ⟨_, rfl⟩
      obtain ⟨r', hr'⟩ : ∃ k, y.r = k := ⟨_, rfl⟩
      obtain ⟨p', hp'⟩ : ∃ k, y.p = k := ⟨_, rfl⟩
      rw [hk', ht', hr', hp'] at HO'
      rw [hk'] at h0'
      rw [ht'] at h1'
      rw [hr'] at h2'
      rw [hp'] at h4'
      simp only [HO.out, HO'.out] at SM
      obtain ⟨my, hmy⟩ : ∃ b, sameB x y = b := ⟨_, rfl⟩
      rw [hmy] at SM HNO HYES
      have F1 : Hid (FiveAt wr bb (oo + j * 5) (.int .u8 (k : Int)) (.int .u32 (t : Int)) (.int .u8 (r : Int)) u (.int .i64 p)) := ⟨hbb, h0, h1, h2, h3, h4⟩
      have F2 : Hid (FiveAt wr bb' (oo' + j * 5) (.int .u8 (k' : Int)) (.int .u32 (t' : Int)) (.int .u8 (r' : Int)) u' (.int .i64 p')) := ⟨hbb', h0', h1', h2', h3', h4'⟩
      have SK : Hid (∀ w' : World, Below wr.heap.size wr w' → Below wr.heap.size wr w' ∧ w'.cell? ⟨bb, oo + j * 5, none⟩ = some (.int .u8 (k : Int)) ∧ w'.cell? ⟨bb, oo + j * 5 + 1, none⟩ = some (.int .u32 (t : Int)) ∧ w'.cell? ⟨bb, oo + j * 5 + 2, none⟩ = some (.int .u8 (r : Int)) ∧ w'.cell? ⟨bb, oo + j * 5 + 3, none⟩ = some (u) ∧ w'.cell? ⟨bb, oo + j * 5 + 4, none⟩ = some (.int .i64 p) ∧ w'.cell? ⟨bb', oo' + j * 5, none⟩ = some (.int .u8 (k' : Int)) ∧ w'.cell? ⟨bb', oo' + j * 5 + 1, none⟩ = some (.int .u32 (t' : Int)) ∧ w'.cell? ⟨bb', oo' + j * 5 + 2, none⟩ = some (.int .u8 (r' : Int)) ∧ w'.cell? ⟨bb', oo' + j * 5 + 3, none⟩ = some (u') ∧ w'.cell? ⟨bb', oo' + j * 5 + 4, none⟩ = some (.int .i64 p')) := fun W h => by
        have a1 := (F1.out.keeps h).2
        have a2 := (F2.out.keeps h).2
        exact ⟨h, a1.1, a1.2.1, a1.2.2.1, a1.2.2.2.1, a1.2.2.2.2, a2.1, a2.2.1, a2.2.2.1, a2.2.2.2.1, a2.2.2.2.2⟩
      clear hru hru' hx hy hk ht hr hp hk' ht' hr' hp' hmy hall HO HO' h0 h1 h2 h3 h4 h0' h1' h2' h3' h4' F1 F2
      cases my
      · obtain rfl := HNO.out rfl
        go_wp2
        go_region_held3 (fun w' => Below wr.heap.size wr w' ∧ w'.cell? ⟨bb, oo + j * 5, none⟩ = some (.int .u8 (k : Int)) ∧ w'.cell? ⟨bb, oo + j * 5 + 1, none⟩ = some (.int .u32 (t : Int)) ∧ w'.cell? ⟨bb, oo + j * 5 + 2, none⟩ = some (.int .u8 (r : Int)) ∧ w'.cell? ⟨bb, oo + j * 5 + 3, none⟩ = some (u) ∧ w'.cell? ⟨bb, oo + j * 5 + 4, none⟩ = some (.int .i64 p) ∧ w'.cell? ⟨bb', oo' + j * 5, none⟩ = some (.int .u8 (k' : Int)) ∧ w'.cell? ⟨bb', oo' + j * 5 + 1, none⟩ = some (.int .u32 (t' : Int)) ∧ w'.cell? ⟨bb', oo' + j * 5 + 2, none⟩ = some (.int .u8 (r' : Int)) ∧ w'.cell? ⟨bb', oo' + j * 5 + 3, none⟩ = some (u') ∧ w'.cell? ⟨bb', oo' + j * 5 + 4, none⟩ = some (.int .i64 p'))
          (first | exact SK.out _ (drew1 _) | (go_split_ands; exact SK.out _ (bt (by assumption) (by assumption))) | (go_split_ands; refine SK.out _ (bt ?_ ?_) <;> assumption))
          ((go_at_call 30; go_split_ands; (with_reducible refine (SM.out _ (by assumption)).mono ?_); rintro e w9 ⟨rfl, b9⟩))
        go_wp2
        go_ret
        go_split_ands
        exact ⟨rfl, bt hbel.out (by assumption)⟩
      · have HY := Lib.hid (HYES.out rfl)
        clear HYES HNO
        go_wp2
        go_region_held3 (fun w' => Below wr.heap.size wr w' ∧ w'.cell? ⟨bb, oo + j * 5, none⟩ = some (.int .u8 (k : Int)) ∧ w'.cell? ⟨bb, oo + j * 5 + 1, none⟩ = some (.int .u32 (t : Int)) ∧ w'.cell? ⟨bb, oo + j * 5 + 2, none⟩ = some (.int .u8 (r : Int)) ∧ w'.cell? ⟨bb, oo + j * 5 + 3, none⟩ = some (u) ∧ w'.cell? ⟨bb, oo + j * 5 + 4, none⟩ = some (.int .i64 p) ∧ w'.cell? ⟨bb', oo' + j * 5, none⟩ = some (.int .u8 (k' : Int)) ∧ w'.cell? ⟨bb', oo' + j * 5 + 1, none⟩ = some (.int .u32 (t' : Int)) ∧ w'.cell? ⟨bb', oo' + j * 5 + 2, none⟩ = some (.int .u8 (r' : Int)) ∧ w'.cell? ⟨bb', oo' + j * 5 + 3, none⟩ = some (u') ∧ w'.cell? ⟨bb', oo' + j * 5 + 4, none⟩ = some (.int .i64 p'))
          (first | exact SK.out _ (drew1 _) | (go_split_ands; exact SK.out _ (bt (by assumption) (by assumption))) | (go_split_ands; refine SK.out _ (bt ?_ ?_) <;> assumption))
          ((go_at_call 30; go_split_ands; (with_reducible refine (SM.out _ (by assumption)).mono ?_); rintro e w9 ⟨rfl, b9⟩))
        go_wp2
        go_split_ands
        go_roundw
        case rel => exact ⟨j + 1, by omega, by go_num, HY, Lib.hid (bt hbel.out (by assumption))⟩
        case measure => simp [intOf]; omega
    · have q3 : decide (j < n) = false := by simpa using hjn
      obtain rfl : q = true := by
        rw [← HQ.out]
        refine decide_eq_true (List.ext_getElem (by rw [← HN.out, ← HN'.out]) (fun k h h' => hall.out k h h' (by have := HN.out; omega)))
      go_wp2
      go_ret
      exact ⟨rfl, hbel.out⟩
end Go.Proofs.Ytdackenaknieaaa.Codes

/- octavoref10.Twin: what it answers. Conditions: the slice's cells are operations, not more than memory holds. -/
namespace Go.Proofs.Ytdackenaknieaaa.Codes
open Go.RowKit Go.WideShapes Go.Proofs.Ytdackenaknieaaa.Place Ops
attribute [local go_sem ↓] Go.wp_at_zero Go.wp_at_succ

end Go.Proofs.Ytdackenaknieaaa.Codes

/- octavoref11.Find, Same, Twin: what each answers. Conditions: the slices' cells are operations; Twin's: not more than memory holds. -/
namespace Go.Proofs.Ytdackenaknieaaa.Bags
open Go.RowKit Go.WideShapes Stamp Go.Proofs.Ytdackenaknieaaa.Place Ops Codes
attribute [local go_sem ↓] Go.wp_at_zero Go.wp_at_succ
attribute [local go_sem] yielded_undef

def findL (l : List Opn) (a : Id) : Option Opn := if bagB l = true then findO l a else none

end Go.Proofs.Ytdackenaknieaaa.Bags

/- What calls of bag answer, in shape: lists of the call's own; how long they can be. Conditions: none. -/
namespace Go.Proofs.Ytdackenaknieaaa.Bags
open Go.RowKit Go.WideShapes Stamp Go.Proofs.Ytdackenaknieaaa.Place Ops Codes

/-- Operations of the call's own, and an error. -/
def DoneN (L : List Opn) (x : Int) (w : World) (e : Ending) (w' : World) : Prop := ∃ v, e = .returned (.tuple #[v, .int .i64 x]) ∧ OwnL w' w.heap.size v L ∧ Below w.heap.size w w'
/-- An operation of the call's own, if it is there. -/
def FoundN (q : Option Opn) (w : World) (e : Ending) (w' : World) : Prop := ∃ v, e = .returned (.tuple #[opv (q.getD zop) v, .bool q.isSome]) ∧ w'.ownsRow w.heap.size 48 3 v (q.getD zop).pl.length (runs (q.getD zop).pl) ∧ Below w.heap.size w w'
theorem mayO_fits {o : Opn} (h : mayO o = true) : o.pl.length ≤ 64 := ((mayB_iff o.pl).1 (mayO_parts h).2.1).2.1
theorem bag_fits {l : List Opn} (h : Bag l) : l.length ≤ 1024 ∧ ∀ o ∈ l, o.pl.length ≤ 8796093022208 := ⟨h.1, fun o ho => by have := mayO_fits (h.2.1 o ho); omega⟩
end Go.Proofs.Ytdackenaknieaaa.Bags

/- Live marks in plain words. Conditions: none. -/
namespace Go.Proofs.Ytdackenaknieaaa.Marks
open Ops Stamp Bags Go.Proofs.Ytdackenaknieaaa.Place

/-- The last stamp of its place. -/
def tgt (o : Opn) : Id := ⟨(lastV o.pl).1.toNat % 4294967296, (lastV o.pl).2.toNat % 256, Nat.mod_lt _ (by decide), Nat.mod_lt _ (by decide)⟩
theorem last_bounds {l : List Run} (h : mayB l = true) : 1 ≤ (lastV l).1 ∧ (lastV l).1 ≤ 1073741824 ∧ 0 ≤ (lastV l).2 ∧ (lastV l).2 < 8 := by
  have hm := (mayB_iff l).1 h
  obtain ⟨h1, _, hc, _⟩ := hm
  have ho := chain_one hc (k := l.length - 1) (by omega)
  unfold lastV
  rw [if_pos h]
  unfold Place.One at ho
  simp only
  omega
theorem tgt_cells {o : Opn} (h : mayO o = true) : ((tgt o).t : Int) = (lastV o.pl).1 ∧ ((tgt o).r : Int) = (lastV o.pl).2 := by
  have hb := last_bounds (mayO_parts h).2.1
  unfold tgt
  simp only
  omega
/-- A mark's place ends with its own stamp. -/
theorem mark_tgt {o : Opn} (h : mayO o = true) (hk : o.k = 2) : tgt o = idO o := by
  have h3 := (mayO_parts h).2.2
  have hc := tgt_cells h
  unfold kindB kindF at h3
  rw [hk] at h3
  simp only [show ¬ (2 : Nat) = 1 by decide, if_false, if_true, Bool.and_eq_true, decide_eq_true_eq, Prod.mk.injEq] at h3
  refine Id.ext' ?_ ?_
  · show (tgt o).t = o.t; omega
  · show (tgt o).r = o.r; omega
/-- Is a stamp joined? -/
def ended (l : List Opn) (a : Id) : Bool := l.any (fun o => decide (o.k = 4) && decide (tgt o = a))
/-- One goes ahead of another one. -/
def ahead (a b : Opn) : Bool := decide (cmp a.pl b.pl < 0)
/-- How many go ahead of one, at the beginning. -/
def atM (out : List Opn) (x : Opn) : Nat := (out.takeWhile (fun y => ahead y x)).length
def insM (out : List Opn) (x : Opn) : List Opn := out.take (atM out x) ++ [x] ++ out.drop (atM out x)
theorem atM_le (out : List Opn) (x : Opn) : atM out x ≤ out.length := (List.takeWhile_sublist _).length_le
theorem insM_len (out : List Opn) (x : Opn) : (insM out x).length = out.length + 1 := by
  have := atM_le out x
  unfold insM
  simp only [List.length_append, List.length_take, List.length_drop, List.length_cons, List.length_nil]
  omega
def stepM (L : List Opn) (out : List Opn) (x : Opn) : List Opn := if x.k = 2 ∧ ended L (idO x) = false then insM out x else out
def livesM (L l : List Opn) : List Opn := l.foldl (stepM L) []
theorem livesM_snoc (L l : List Opn) (x : Opn) : livesM L (l ++ [x]) = stepM L (livesM L l) x := by unfold livesM; rw [List.foldl_append]; rfl
theorem livesM_le (L : List Opn) : ∀ l : List Opn, (livesM L l).length ≤ l.length := by
  intro l
  induction l using Clocks.list_snoc_ind with
  | h0 => simp [livesM]
  | h1 l x ih =>
    rw [livesM_snoc, List.length_append]
    unfold stepM
    split
    · rw [insM_len]; simp; omega
    · simp; omega
theorem mem_insM {out : List Opn} {x y : Opn} : y ∈ insM out x ↔ y ∈ out ∨ y = x := by
  unfold insM
  simp only [List.mem_append, List.mem_singleton]
  conv => rhs; rw [← List.take_append_drop (atM out x) out]
  rw [List.mem_append]
  constructor
  · rintro ((h | h) | h)
    · exact .inl (.inl h)
    · exact .inr h
    · exact .inl (.inr h)
  · rintro ((h | h) | h)
    · exact .inl (.inl h)
    · exact .inr h
    · exact .inl (.inr h)
theorem mem_livesM {L l : List Opn} {y : Opn} : y ∈ livesM L l ↔ y ∈ l ∧ y.k = 2 ∧ ended L (idO y) = false := by
  induction l using Clocks.list_snoc_ind with
  | h0 => simp [livesM]
  | h1 l x ih =>
    rw [livesM_snoc, List.mem_append, List.mem_singleton]
    unfold stepM
    split
    · rename_i h
      rw [mem_insM, ih]
      constructor
      · rintro (⟨h1, h2⟩ | rfl)
        · exact ⟨.inl h1, h2⟩
        · exact ⟨.inr rfl, h⟩
      · rintro ⟨h1 | rfl, h2⟩
        · exact .inl ⟨h1, h2⟩
        · exact .inr rfl
    · rename_i h
      rw [ih]
      constructor
      · rintro ⟨h1, h2⟩; exact ⟨.inl h1, h2⟩
      · rintro ⟨h1 | rfl, h2⟩
        · exact ⟨h1, h2⟩
        · exact absurd h2 h
def liveL (l : List Opn) : List Opn := if bagB l = true then livesM l l else []
end Go.Proofs.Ytdackenaknieaaa.Marks

/- Places: a child in the order, as lists of stamps. Conditions: none. -/
namespace Go.Proofs.Ytdackenaknieaaa.Place
open Go.RowKit Stamp

theorem anyB_may {l : List Run} (h : mayB l = true) : anyB l = true := by unfold anyB; rw [h]; simp
theorem hold_front (P : List Id) (a : Id) (m : List Id) : hold P (P ++ a :: m) = -1 := by
  have := hold_app P [] (a :: m)
  rw [List.append_nil] at this
  rw [this]; rfl
/-- The last stamp, as Last tells it. -/
theorem lastV_of {L : List Run} {P : List Id} {a : Id} (hm : mayB L = true) (h : all L = P ++ [a]) : lastV L = ((a.t : Int), (a.r : Int)) := by
  have hM := (mayB_iff L).1 hm
  have hc := hM.2.2.1
  have hl := last_all hc (by have := hM.1; omega)
  rw [h, List.getLast?_append] at hl
  have hl : a = _ := Option.some.inj hl
  have ho := chain_one hc (k := L.length - 1) (by have := hM.1; omega)
  obtain ⟨n, hn, n1, n2, n3, n4⟩ := ho.nat
  unfold lastV
  rw [if_pos hm]
  have h1 := Id.eq_iff.1 hl
  rw [mk_t (by omega), mk_r (L.getD (L.length - 1) zrun).hr] at h1
  rw [h1.1, h1.2, n3, hn]
  congr 1
  omega
end Go.Proofs.Ytdackenaknieaaa.Place

/- octavo/place: Compare, Begins: what each answers. Conditions: the slices' cells are runs. -/
namespace Go.Proofs.Ytdackenaknieaaa.Place
open Go.RowKit Stamp
attribute [local go_sem ↓] Go.wp_at_zero Go.wp_at_succ

set_option maxRecDepth 100000 in
set_option maxHeartbeats 4000000 in
theorem pCompare_any {a b : Value} {p q : List Run} {w : World} (ha : Runs w a p) (hb : Runs w b q) :
    Calls Try.prog 25 #[a, b] w fun e w' => e = .returned (.int .i64 (cmp p q)) ∧ Below w.heap.size w w' := by
  have HA := Lib.hid ha
  have HB := Lib.hid hb
  obtain ⟨pb, hpb⟩ : ∃ pb, anyB p = pb := ⟨_, rfl⟩
  obtain ⟨qb, hqb⟩ : ∃ qb, anyB q = qb := ⟨_, rfl⟩
  have A1 : Hid (∀ W : World, Below w.heap.size w W → Calls Try.prog 42 #[a] W fun e w' => e = .returned (.bool pb) ∧ Below W.heap.size W w') := fun W hW => stands_is (HA.out.keeps hW) hpb
  have A2 : Hid (∀ W : World, Below w.heap.size w W → Calls Try.prog 42 #[b] W fun e w' => e = .returned (.bool qb) ∧ Below W.heap.size W w') := fun W hW => stands_is (HB.out.keeps hW) hqb
  have HPB := Lib.hid hpb
  have HQB := Lib.hid hqb
  clear ha hb hpb hqb
  cases pb
  · have hz : cmp p q = 0 := by unfold cmp; rw [if_neg (by rw [HPB.out]; simp)]
    rw [hz]
    clear hz
    go_enter Try.func25, Try.ntmps25
    go_wp2_with fail
    refine (A1.out _ (Below.refl _ _)).mono ?_
    rintro e w1 ⟨rfl, b1⟩
    go_wp2
    go_ret
    exact ⟨rfl, b1⟩
  cases qb
  · have hz : cmp p q = 0 := by unfold cmp; rw [if_neg (by rw [HQB.out]; simp)]
    rw [hz]
    clear hz
    go_enter Try.func25, Try.ntmps25
    go_wp2_with fail
    refine (A1.out _ (Below.refl _ _)).mono ?_
    rintro e w1 ⟨rfl, b1⟩
    have B1 := Lib.hid b1
    clear b1
    go_wp2_with fail
    refine (A2.out _ B1.out).mono ?_
    rintro e w2 ⟨rfl, b2⟩
    have B2 := Lib.hid (bt B1.out b2)
    clear b2
    go_wp2
    go_ret
    exact ⟨rfl, B2.out⟩
  have hz : cmp p q = hold (all p) (all q) := by unfold cmp; rw [if_pos ⟨HPB.out, HQB.out⟩]
  have AP : Hid (∀ W : World, Below w.heap.size w W → Calls Try.prog 43 #[a, b] W (Parted (hold (all p) (all q)) (first (all p) (all q)) W)) := fun W hW => apart_any (HA.out.keeps hW) (HB.out.keeps hW) ((anyB_iff p).1 HPB.out).chain ((anyB_iff q).1 HQB.out).chain
  rw [hz]
  obtain ⟨h0, hh0⟩ : ∃ h0, h0 = hold (all p) (all q) := ⟨_, rfl⟩
  obtain ⟨f0, hf0⟩ : ∃ f0, f0 = first (all p) (all q) := ⟨_, rfl⟩
  rw [← hh0, ← hf0] at AP
  rw [← hh0]
  clear hz hh0 hf0
  go_enter Try.func25, Try.ntmps25
  go_wp2_with fail
  refine (A1.out _ (Below.refl _ _)).mono ?_
  rintro e w1 ⟨rfl, b1⟩
  have B1 := Lib.hid b1
  clear b1
  go_wp2_with fail
  refine (A2.out _ B1.out).mono ?_
  rintro e w2 ⟨rfl, b2⟩
  have B2 := Lib.hid (bt B1.out b2)
  clear b2
  go_wp2_with fail
  refine (AP.out _ B2.out).mono ?_
  rintro e w3 ⟨x, y, rfl, he, hf, b3⟩
  have B3 := Lib.hid (bt B2.out b3)
  clear b3 AP hf A1 A2 B1 B2
  obtain ⟨t1, r1, m1, ht1, hr1, hm1⟩ := x
  obtain ⟨t2, r2, m2, ht2, hr2, hm2⟩ := y
  unfold ends at he
  simp only at he ⊢
  obtain ⟨wl, hwl⟩ : ∃ wl, wl = (w3.alloc (.cells #[.int .u32 (t1 : Int), .int .u8 (r1 : Int), .int .i64 m1] 48)).alloc (.cells #[.int .u32 (t2 : Int), .int .u8 (r2 : Int), .int .i64 m2] 48) := ⟨_, rfl⟩
  have PA : Hid (Tri wl w3.heap.size (.int .u32 (t1 : Int)) (.int .u8 (r1 : Int)) (.int .i64 m1)) := by
    rw [hwl]
    exact (tri_new w3 (.int .u32 (t1 : Int)) (.int .u8 (r1 : Int)) (.int .i64 m1) 48).keeps ((Below.refl _ _).alloc (Nat.le_refl _) _)
  have PB : Hid (Tri wl (w3.heap.size + 1) (.int .u32 (t2 : Int)) (.int .u8 (r2 : Int)) (.int .i64 m2)) := by
    have := tri_new (w3.alloc (.cells #[.int .u32 (t1 : Int), .int .u8 (r1 : Int), .int .i64 m1] 48)) (.int .u32 (t2 : Int)) (.int .u8 (r2 : Int)) (.int .i64 m2) 48
    rw [hwl]
    unfold Hid
    simpa using this
  have BL : Hid (Below w.heap.size w wl) := by rw [hwl]; exact (B3.out.alloc B3.out.size _).alloc (Nat.le_trans B3.out.size (by simp)) _
  by_cases hm1z : m1 = 0
  · rw [if_pos hm1z] at he
    by_cases hm2z : m2 = 0
    · rw [if_pos hm2z] at he
      simp only at he
      subst hm1z hm2z he
      go_wp2
      rw [← hwl]
      go_ret
      exact ⟨rfl, BL.out⟩
    · rw [if_neg hm2z] at he
      simp only at he
      have u1 : (m2 == 0) = false := by simpa using hm2z
      subst hm1z he
      go_wp2
      rw [← hwl]
      go_ret
      exact ⟨rfl, BL.out⟩
  · rw [if_neg hm1z] at he
    have u1 : (m1 == 0) = false := by simpa using hm1z
    by_cases hm2z : m2 = 0
    · rw [if_pos hm2z] at he
      simp only at he
      subst hm2z he
      go_wp2
      rw [← hwl]
      go_ret
      exact ⟨rfl, BL.out⟩
    · rw [if_neg hm2z] at he
      have u2 : (m2 == 0) = false := by simpa using hm2z
      have LS := Lib.hid (less_any t2 r2 t1 r1 ht2 hr2 ht1 hr1)
      have F1 := Lib.hid (firstOf_any t1 r1 m1)
      have F2 := Lib.hid (firstOf_any t2 r2 m2)
      obtain ⟨lb, hlb⟩ : ∃ lb, less t2 r2 t1 r1 = lb := ⟨_, rfl⟩
      rw [hlb] at LS he
      clear hlb hm1z hm2z
      cases lb
      all_goals
        simp only [Bool.false_eq_true, if_false, if_true] at he
        subst he
        go_wp2
        rw [← hwl]
        clear hwl
        go_region_held3 (fun w' => Below wl.heap.size wl w' ∧ w'.cell? ⟨w3.heap.size, 0, none⟩ = some (.int .u32 (t1 : Int)) ∧ w'.cell? ⟨w3.heap.size, 1, none⟩ = some (.int .u8 (r1 : Int)) ∧ w'.cell? ⟨w3.heap.size, 2, none⟩ = some (.int .i64 m1) ∧ w'.cell? ⟨w3.heap.size + 1, 0, none⟩ = some (.int .u32 (t2 : Int)) ∧ w'.cell? ⟨w3.heap.size + 1, 1, none⟩ = some (.int .u8 (r2 : Int)) ∧ w'.cell? ⟨w3.heap.size + 1, 2, none⟩ = some (.int .i64 m2))
          (first | exact keepT2 PA.out PB.out (drew1 _) (Below.refl _ _) | (go_split_ands; exact keepT2 PA.out PB.out (drew1 _) (by assumption)) | (go_split_ands; exact keepT2 PA.out PB.out (by assumption) (by assumption)))
          ((first | (go_at_call 45; (with_reducible refine (firstOf_any _ _ _ _).mono ?_); rintro e w4 ⟨rfl, b4⟩) | (go_at_call 44; (with_reducible refine (LS.out _).mono ?_); rintro e w6 ⟨rfl, b6⟩)))
      all_goals
        go_wp2
        go_ret
        go_split_ands
        exact ⟨rfl, BL.out.trans (Below.mono (by assumption) BL.out.size)⟩

end Go.Proofs.Ytdackenaknieaaa.Place

/- octavoref06.Under: what it answers. Conditions: the slice's cells are runs. -/
namespace Go.Proofs.Ytdackenaknieaaa.Place
open Go.RowKit Stamp
attribute [local go_sem ↓] Go.wp_at_zero Go.wp_at_succ
attribute [local go_sem] yielded_undef

end Go.Proofs.Ytdackenaknieaaa.Place

/- octavo/place.Under: what it answers. Conditions: the slice's cells are runs. -/
namespace Go.Proofs.Ytdackenaknieaaa.Place
open Go.RowKit Stamp
attribute [local go_sem ↓] Go.wp_at_zero Go.wp_at_succ
attribute [local go_sem] yielded_undef

end Go.Proofs.Ytdackenaknieaaa.Place

/- The laws' helpers of layer 6: run, of, alive, may; places written out. Conditions: none. -/
namespace Go.Proofs.Ytdackenaknieaaa.Place
open Go.RowKit Stamp
attribute [local go_sem ↓] Go.wp_at_zero Go.wp_at_succ

/-- A run written out. -/
def lr (t r m : Nat) (h : t < 4294967296 ∧ r < 256 ∧ m < 10000) : Run := ⟨t, r, m, h.1, h.2.1, by omega⟩
theorem Runs.alloc {W : World} {v : Value} {l : List Run} (h : Runs W v l) (o : Obj) : Runs (W.alloc o) v l := h.keeps ((Below.refl _ _).alloc (Nat.le_refl _) o)

end Go.Proofs.Ytdackenaknieaaa.Place

/- The law PlaceOrder: its walk. Conditions: the slices' cells are runs. -/
namespace Go.Proofs.Ytdackenaknieaaa.Place
open Go.RowKit Stamp
attribute [local go_sem ↓] Go.wp_at_zero Go.wp_at_succ

theorem cmp_any {p q : List Run} (hp : anyB p = true) (hq : anyB q = true) : cmp p q = hold (all p) (all q) := by
  unfold cmp; rw [if_pos ⟨hp, hq⟩]

end Go.Proofs.Ytdackenaknieaaa.Place

/- octavoref09: Check, Many, Stands, Needs: what each answers. Conditions: the places' cells are runs. -/
namespace Go.Proofs.Ytdackenaknieaaa.Ops
open Go.RowKit Stamp Go.Proofs.Ytdackenaknieaaa.Place
attribute [local go_sem ↓] Go.wp_at_zero Go.wp_at_succ

end Go.Proofs.Ytdackenaknieaaa.Ops

/- The laws' helpers of layer 9: by, three, needs, bad, alive. Conditions: none. -/
namespace Go.Proofs.Ytdackenaknieaaa.Ops
open Go.RowKit Stamp Go.Proofs.Ytdackenaknieaaa.Place
attribute [local go_sem ↓] Go.wp_at_zero Go.wp_at_succ

/-- What blocks of five cells hold, over calls that write nothing that was there. -/
def Five (w : World) (g : Nat) (c0 c1 c2 c3 c4 : Value) : Prop := g < w.heap.size ∧ w.cell? ⟨g, 0, none⟩ = some c0 ∧ w.cell? ⟨g, 1, none⟩ = some c1 ∧ w.cell? ⟨g, 2, none⟩ = some c2 ∧ w.cell? ⟨g, 3, none⟩ = some c3 ∧ w.cell? ⟨g, 4, none⟩ = some c4
theorem Five.keeps {w w' : World} {g : Nat} {c0 c1 c2 c3 c4 : Value} (p : Five w g c0 c1 c2 c3 c4) (hb : Below w.heap.size w w') : Five w' g c0 c1 c2 c3 c4 :=
  ⟨Nat.lt_of_lt_of_le p.1 hb.size, (hb.cell (p := ⟨g, 0, none⟩) p.1).trans p.2.1, (hb.cell (p := ⟨g, 1, none⟩) p.1).trans p.2.2.1, (hb.cell (p := ⟨g, 2, none⟩) p.1).trans p.2.2.2.1, (hb.cell (p := ⟨g, 3, none⟩) p.1).trans p.2.2.2.2.1, (hb.cell (p := ⟨g, 4, none⟩) p.1).trans p.2.2.2.2.2⟩
end Go.Proofs.Ytdackenaknieaaa.Ops

/- OpNeeds answers true, and changes nothing that was there. Conditions: none. -/
namespace Go.Proofs.Ytdackenaknieaaa.Ops
open Go.RowKit Stamp Go.Proofs.Ytdackenaknieaaa.Place
attribute [local go_sem ↓] Go.wp_at_zero Go.wp_at_succ
attribute [local go_sem] yielded_undef

/-- The last stamp of a place, by its list. -/
theorem lastV_all {l : List Run} (h : mayB l = true) : lastV l = ((((all l).getD ((all l).length - 1) zid).t : Int), (((all l).getD ((all l).length - 1) zid).r : Int)) := by
  have hp := all_pos h
  refine lastV_of (P := (all l).take ((all l).length - 1)) h ?_
  have := List.take_append_drop ((all l).length - 1) (all l)
  rw [List.drop_eq_getElem_cons (by omega), List.drop_eq_nil_iff.2 (by omega)] at this
  rw [List.getD, List.getElem?_eq_getElem (by omega)]
  exact this.symm
end Go.Proofs.Ytdackenaknieaaa.Ops

/- Live marks are sorted by their places, strictly; what one operation more makes of them. Conditions: none. -/
namespace Go.Proofs.Ytdackenaknieaaa.Marks
open Ops Stamp Bags Go.Proofs.Ytdackenaknieaaa.Place

def pre (a b : Opn) : Prop := cmp a.pl b.pl < 0
theorem cmp_may {a b : Opn} (ha : mayO a = true) (hb : mayO b = true) : cmp a.pl b.pl = Go.Proofs.Ytdackenaknieaaa.Place.hold (all a.pl) (all b.pl) := by
  unfold cmp; rw [if_pos ⟨anyB_may (mayO_parts ha).2.1, anyB_may (mayO_parts hb).2.1⟩]
theorem hold_val : ∀ l m : List Id, Go.Proofs.Ytdackenaknieaaa.Place.hold l m = -1 ∨ Go.Proofs.Ytdackenaknieaaa.Place.hold l m = 0 ∨ Go.Proofs.Ytdackenaknieaaa.Place.hold l m = 1 := hold_range
theorem pre_iff {a b : Opn} (ha : mayO a = true) (hb : mayO b = true) : pre a b ↔ Go.Proofs.Ytdackenaknieaaa.Place.hold (all a.pl) (all b.pl) = -1 := by
  unfold pre
  rw [cmp_may ha hb]
  have := hold_val (all a.pl) (all b.pl)
  omega
theorem pre_trans {a b c : Opn} (ha : mayO a = true) (hb : mayO b = true) (hc : mayO c = true) (h : pre a b) (k : pre b c) : pre a c := by
  rw [pre_iff ha hb] at h
  rw [pre_iff hb hc] at k
  rw [pre_iff ha hc]
  exact hold_trans _ _ _ h k
theorem pre_irrefl {a : Opn} (ha : mayO a = true) : ¬ pre a a := by
  rw [pre_iff ha ha, (hold_eq _ _).2 rfl]; decide
theorem pre_asymm {a b : Opn} (ha : mayO a = true) (hb : mayO b = true) (h : pre a b) : ¬ pre b a := fun k => pre_irrefl ha (pre_trans ha hb ha h k)
/-- Marks of unlike stamps have unlike places. -/
theorem mark_ne {a b : Opn} (ha : mayO a = true) (hb : mayO b = true) (ka : a.k = 2) (kb : b.k = 2) (h : idO a ≠ idO b) : pre a b ∨ pre b a := by
  rw [pre_iff ha hb, pre_iff hb ha, hold_neg (all a.pl) (all b.pl)]
  have h0 : Go.Proofs.Ytdackenaknieaaa.Place.hold (all a.pl) (all b.pl) ≠ 0 := fun e => by
    have ma := (mayB_iff _).1 (mayO_parts ha).2.1
    have mb := (mayB_iff _).1 (mayO_parts hb).2.1
    have e2 := (hold_same ma.2.2.1 mb.2.2.1).1 e
    apply h
    rw [← mark_tgt ha ka, ← mark_tgt hb kb]
    unfold tgt
    simp only [e2]
  have := hold_val (all a.pl) (all b.pl)
  omega

/-! ### Put in its place -/
theorem insM_nil (x : Opn) : insM [] x = [x] := rfl
theorem insM_cons (y : Opn) (out : List Opn) (x : Opn) : insM (y :: out) x = if ahead y x = true then y :: insM out x else x :: y :: out := by
  unfold insM atM
  by_cases h : ahead y x = true
  · rw [if_pos h, List.takeWhile_cons_of_pos (by simpa using h)]; simp
  · rw [if_neg h, List.takeWhile_cons_of_neg (by simpa using h)]; simp
theorem ahead_iff {a b : Opn} : ahead a b = true ↔ pre a b := by unfold ahead pre; exact decide_eq_true_iff
theorem ins_sorted {x : Opn} (hx : mayO x = true) (kx : x.k = 2) : ∀ {out : List Opn}, out.Pairwise pre → (∀ y ∈ out, mayO y = true ∧ y.k = 2) → (∀ y ∈ out, idO y ≠ idO x) → (insM out x).Pairwise pre
  | [], _, _, _ => by rw [insM_nil]; exact List.pairwise_singleton _ _
  | y :: out, hs, hm, hne => by
    have hs' := List.pairwise_cons.1 hs
    have hy := hm y (by simp)
    rw [insM_cons]
    by_cases h : ahead y x = true
    · rw [if_pos h]
      refine List.Pairwise.cons (fun z hz => ?_) (ins_sorted hx kx hs'.2 (fun z hz => hm z (by simp [hz])) (fun z hz => hne z (by simp [hz])))
      rcases mem_insM.1 hz with hz | rfl
      · exact hs'.1 z hz
      · exact ahead_iff.1 h
    · rw [if_neg h]
      have hxy : pre x y := by
        rcases mark_ne hy.1 hx hy.2 kx (hne y (by simp)) with h1 | h1
        · exact absurd (ahead_iff.2 h1) h
        · exact h1
      refine List.Pairwise.cons (fun z hz => ?_) hs
      rcases List.mem_cons.1 hz with rfl | hz
      · exact hxy
      · exact pre_trans hx hy.1 (hm z (by simp [hz])).1 hxy (hs'.1 z hz)
theorem lives_sorted {L : List Opn} : ∀ {l : List Opn}, (∀ o ∈ l, mayO o = true) → l.Pairwise lessO → (livesM L l).Pairwise pre := by
  intro l
  induction l using Clocks.list_snoc_ind with
  | h0 => intro _ _; exact .nil
  | h1 l x ih =>
    intro hm hp
    have hp' := List.pairwise_append.1 hp
    have ih' := ih (fun o ho => hm o (by simp [ho])) hp'.1
    rw [livesM_snoc]
    unfold stepM
    split
    · rename_i h
      refine ins_sorted (hm x (by simp)) h.1 ih' (fun y hy => ?_) (fun y hy => ?_)
      · have := mem_livesM.1 hy; exact ⟨hm y (by simp [this.1]), this.2.1⟩
      · have := mem_livesM.1 hy; exact lessO_ne (hp'.2.2 y this.1 x (by simp))
    · exact ih'
theorem sorted_ext : ∀ {l m : List Opn}, (∀ x ∈ l, mayO x = true) → (∀ x ∈ m, mayO x = true) → l.Pairwise pre → m.Pairwise pre → (∀ x, x ∈ l ↔ x ∈ m) → l = m
  | [], [], _, _, _, _, _ => rfl
  | [], y :: m, _, _, _, _, h => by have := (h y).2 (by simp); simp at this
  | x :: l, [], _, _, _, _, h => by have := (h x).1 (by simp); simp at this
  | x :: l, y :: m, al, am, hl, hm, h => by
    have hl' := List.pairwise_cons.1 hl
    have hm' := List.pairwise_cons.1 hm
    have e : x = y := by
      rcases List.mem_cons.1 ((h x).1 (by simp)) with e | hx
      · exact e
      · rcases List.mem_cons.1 ((h y).2 (by simp)) with e | hy
        · exact e.symm
        · exact absurd (hm'.1 x hx) (pre_asymm (al x (by simp)) (am y (by simp)) (hl'.1 y hy))
    subst e
    rw [sorted_ext (fun z hz => al z (by simp [hz])) (fun z hz => am z (by simp [hz])) hl'.2 hm'.2 (fun z => by
      constructor
      · intro hz
        rcases List.mem_cons.1 ((h z).1 (by simp [hz])) with rfl | hz'
        · exact absurd (hl'.1 z hz) (pre_irrefl (al z (by simp)))
        · exact hz'
      · intro hz
        rcases List.mem_cons.1 ((h z).2 (by simp [hz])) with rfl | hz'
        · exact absurd (hm'.1 z hz) (pre_irrefl (al z (by simp)))
        · exact hz')]
theorem lives_may {L l : List Opn} (hm : ∀ o ∈ l, mayO o = true) : ∀ x ∈ livesM L l, mayO x = true := fun x hx => hm x (mem_livesM.1 hx).1
/-- The live marks are known by which they are. -/
theorem lives_ext {l m : List Opn} (hl : Bag l) (ha : ∀ x ∈ m, mayO x = true) (hs : m.Pairwise pre) (h : ∀ y, y ∈ m ↔ y ∈ l ∧ y.k = 2 ∧ ended l (idO y) = false) : livesM l l = m :=
  sorted_ext (lives_may hl.2.1) ha (lives_sorted hl.2.1 hl.2.2) hs (fun y => mem_livesM.trans (h y).symm)

/-! ### One operation more -/
/-! ### Which are live -/
end Go.Proofs.Ytdackenaknieaaa.Marks

/- Homes of places in plain words. Conditions: none. -/
namespace Go.Proofs.Ytdackenaknieaaa.Homes
open Ops Stamp Bags Marks Go.Proofs.Ytdackenaknieaaa.Place

/-- One mark's place is not behind a place. -/
def notBehind (o : Opn) (p : List Run) : Bool := decide (Go.Proofs.Ytdackenaknieaaa.Place.hold (all o.pl) (all p) ≤ 0)
/-- The home of a place, by live marks in order. -/
def homeM (live : List Opn) (p : List Run) : Id := live.foldl (fun s o => if notBehind o p = true then idO o else s) zid
/-- All sections. -/
def sectsM (live : List Opn) : List Id := zid :: live.map idO
theorem sectsM_len (live : List Opn) : (sectsM live).length = live.length + 1 := by simp [sectsM]
/-- The place of a section among all, or how many there are. -/
def whereN (live : List Opn) (s : Id) : Nat := (sectsM live).findIdx (fun x => decide (x = s))
def whereM (live : List Opn) (s : Id) : Int := if whereN live s < live.length + 1 then (whereN live s : Int) else -1
/-- Where a section begins that is at a place among all. -/
def beginM (live : List Opn) (at' : Int) : List Run := if 1 ≤ at' ∧ at' ≤ live.length then (live.getD (at' - 1).toNat ⟨0, 0, 0, [], 0, by decide, by decide, by decide, by decide⟩).pl else []
/-! ### The calls -/
def homeL (l : List Opn) (p : List Run) : Id := if (bagB l && anyB p) = true then homeM (livesM l l) p else zid
def homeE (l : List Opn) (p : List Run) : Int := if (bagB l && anyB p) = true then 0 else 8
def allL (l : List Opn) : List Id := if bagB l = true then sectsM (livesM l l) else []
def fromL (l : List Opn) (s : Id) : List Run := if bagB l = true ∧ 0 ≤ whereM (livesM l l) s then beginM (livesM l l) (whereM (livesM l l) s) else []
def toL (l : List Opn) (s : Id) : List Run := if bagB l = true ∧ 0 ≤ whereM (livesM l l) s then beginM (livesM l l) (whereM (livesM l l) s + 1) else []
def spanE (l : List Opn) (s : Id) : Int := if bagB l = true then (if 0 ≤ whereM (livesM l l) s then 0 else 130) else 8
end Go.Proofs.Ytdackenaknieaaa.Homes
