/- Slices of a replica and its spans: what a slice value holds, a slice of spans in each element. Conditions: none. -/
import Derived.Test.YtinglfhndlklaaaClockMath
import Derived.Test.YtinglfhndlklaaaSpans
namespace Go.Proofs.Ytinglfhndlklaaa
open Go.RowKit Go.WideShapes Spans Clocks

/-- The cells hold the clock: a replica, and what reads as its spans. -/
def Hold (w : World) : List Value → List Tm → Prop
  | [], [] => True
  | a :: b :: cs, x :: c => a = .int .u8 (x.1 : Int) ∧ x.1 < 256 ∧ Sps w b x.2 ∧ Hold w cs c
  | _, _ => False
theorem Hold.len : ∀ {w : World} {cs : List Value} {c : List Tm}, Hold w cs c → cs.length = c.length * 2
  | _, [], [], _ => rfl
  | w, a :: b :: cs, x :: c, h => by have := Hold.len h.2.2.2; simp; omega
theorem Hold.keeps : ∀ {w w' : World} {cs : List Value} {c : List Tm}, Hold w cs c → Below w.heap.size w w' → Hold w' cs c
  | _, _, [], [], _, _ => trivial
  | _, _, _ :: _ :: _, _ :: _, h, hb => ⟨h.1, h.2.1, h.2.2.1.keeps hb, Hold.keeps h.2.2.2 hb⟩
theorem Hold.append : ∀ {w : World} {cs ds : List Value} {c d : List Tm}, Hold w cs c → Hold w ds d → Hold w (cs ++ ds) (c ++ d)
  | _, [], _, [], _, _, h => h
  | _, _ :: _ :: _, _, _ :: _, _, h, h2 => ⟨h.1, h.2.1, h.2.2.1, Hold.append h.2.2.2 h2⟩
theorem Hold.one {w : World} {u : Value} {x : Tm} (hr : x.1 < 256) (hu : Sps w u x.2) : Hold w [.int .u8 (x.1 : Int), u] [x] := ⟨rfl, hr, hu, trivial⟩
theorem Hold.get : ∀ {w : World} {cs : List Value} {c : List Tm} (k : Nat), Hold w cs c → k < c.length →
    cs[k * 2]? = some (.int .u8 ((c.getD k (0, [])).1 : Int)) ∧ (c.getD k (0, [])).1 < 256 ∧ ∃ u, cs[k * 2 + 1]? = some u ∧ Sps w u (c.getD k (0, [])).2
  | _, _, [], _, _, hk => by simp at hk
  | _, [], _ :: _, _, h, _ => by simp [Hold] at h
  | _, [_], _ :: _, _, h, _ => by simp [Hold] at h
  | w, a :: b :: cs, x :: c, 0, h, _ => by
    obtain ⟨rfl, h1, h2, _⟩ := h
    exact ⟨by simp, by simpa using h1, b, by simp, by simpa using h2⟩
  | w, a :: b :: cs, x :: c, k + 1, h, hk => by
    have := Hold.get k h.2.2.2 (by simpa using hk)
    rw [show (k + 1) * 2 = k * 2 + 1 + 1 by omega]
    simpa using this
theorem sps_slice {w : World} {u : Value} {l : List Sp} (h : Sps w u l) : u.oneCell' = true := by
  obtain ⟨ao, cap, rfl⟩ := h.shape
  rfl
theorem Hold.oneCell : ∀ {w : World} {cs : List Value} {c : List Tm}, Hold w cs c → ∀ u ∈ cs, u.oneCell' = true
  | _, [], [], _, u, h => by simp at h
  | w, a :: b :: cs, x :: c, h, u, hu => by
    simp only [List.mem_cons] at hu
    rcases hu with rfl | rfl | hu
    · rw [h.1]; rfl
    · exact sps_slice h.2.2.1
    · exact Hold.oneCell h.2.2.2 u hu

/-- A slice of replicas' spans. -/
def Tms (w : World) (v : Value) (c : List Tm) : Prop := ∃ cs, Sees w v 2 c.length cs ∧ Hold w cs c
theorem Tms.keeps {w w' : World} {v : Value} {c : List Tm} (h : Tms w v c) (hb : Below w.heap.size w w') : Tms w' v c := by
  obtain ⟨cs, h1, h2⟩ := h
  exact ⟨cs, h1.keeps hb, h2.keeps hb⟩
theorem Tms.nil (w : World) : Tms w (.slice none 0 0) [] := ⟨[], Sees.nil w 2, trivial⟩
theorem Tms.shape {w : World} {v : Value} {c : List Tm} (h : Tms w v c) : ∃ ao cap, v = .slice ao c.length cap := by
  obtain ⟨cs, h1, _⟩ := h
  exact Sees.shape h1
theorem Tms.max {w : World} {v : Value} {c : List Tm} (h : Tms w v c) : c.length ≤ 9223372036854775807 := by
  obtain ⟨cs, h1, _⟩ := h
  exact Sees.max h1
theorem Tms.at {w : World} {ao : Option Addr} {m cap : Nat} {c : List Tm} (h : Tms w (.slice ao m cap) c) (k : Nat) (hk : k < c.length) :
    ∃ b off u, ao = some ⟨b, off, none⟩ ∧ b < w.heap.size ∧ w.cell? ⟨b, off + k * 2, none⟩ = some (.int .u8 ((c.getD k (0, [])).1 : Int)) ∧ w.cell? ⟨b, off + k * 2 + 1, none⟩ = some u ∧
      (c.getD k (0, [])).1 < 256 ∧ Sps w u (c.getD k (0, [])).2 := by
  obtain ⟨cs, h1, h2⟩ := h
  have hl := h2.len
  obtain ⟨b, off, e1, e2, e3⟩ := Sees.at h1 (k * 2) (by omega)
  obtain ⟨g1, g2, u, g3, g4⟩ := h2.get k hk
  exact ⟨b, off, u, e1, e2, (e3 (k * 2) (by omega)).trans g1, (e3 (k * 2 + 1) (by omega)).trans g3, g2, g4⟩

/-- The same, and each element's spans are of the call's own. -/
def HoldO (w : World) (base : Nat) : List Value → List Tm → Prop
  | [], [] => True
  | a :: b :: cs, x :: c => a = .int .u8 (x.1 : Int) ∧ x.1 < 256 ∧ w.ownsRow base 63 2 b x.2.length (sps x.2) ∧ HoldO w base cs c
  | _, _ => False
theorem HoldO.hold : ∀ {w : World} {base : Nat} {cs : List Value} {c : List Tm}, HoldO w base cs c → Hold w cs c
  | _, _, [], [], _ => trivial
  | _, _, _ :: _ :: _, _ :: _, h => ⟨h.1, h.2.1, Sps.own h.2.2.1, HoldO.hold h.2.2.2⟩
theorem HoldO.keeps : ∀ {w w' : World} {base : Nat} {cs : List Value} {c : List Tm}, HoldO w base cs c → Below w.heap.size w w' → HoldO w' base cs c
  | _, _, _, [], [], _, _ => trivial
  | _, _, _, _ :: _ :: _, _ :: _, h, hb => ⟨h.1, h.2.1, own_stays h.2.2.1 hb, HoldO.keeps h.2.2.2 hb⟩
theorem HoldO.append : ∀ {w : World} {base : Nat} {cs ds : List Value} {c d : List Tm}, HoldO w base cs c → HoldO w base ds d → HoldO w base (cs ++ ds) (c ++ d)
  | _, _, [], _, [], _, _, h => h
  | _, _, _ :: _ :: _, _, _ :: _, _, h, h2 => ⟨h.1, h.2.1, h.2.2.1, HoldO.append h.2.2.2 h2⟩
/-- A clock of the call's own, its spans too. -/
def OwnC (w : World) (base : Nat) (v : Value) (c : List Tm) : Prop := ∃ cs, w.ownsRow base 28 2 v c.length cs ∧ HoldO w base cs c
theorem OwnC.tms {w : World} {base : Nat} {v : Value} {c : List Tm} (h : OwnC w base v c) : Tms w v c := by
  obtain ⟨cs, h1, h2⟩ := h
  exact ⟨cs, Sees.own h1, h2.hold⟩
theorem OwnC.keeps {w w' : World} {base : Nat} {v : Value} {c : List Tm} (h : OwnC w base v c) (hb : Below w.heap.size w w') : OwnC w' base v c := by
  obtain ⟨cs, h1, h2⟩ := h
  exact ⟨cs, own_stays h1 hb, h2.keeps hb⟩
theorem times_info : (Try.prog.info? 28).map (fun i => (i.zero, i.size, i.bytes)) = some (some (.agg #[.int .u8 0, .slice none 0 0]), 2, 32) := by kernel_rfl
end Go.Proofs.Ytinglfhndlklaaa
