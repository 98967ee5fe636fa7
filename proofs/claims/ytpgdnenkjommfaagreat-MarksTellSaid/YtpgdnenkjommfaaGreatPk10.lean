/- Slices of spans: what a slice value holds. Conditions: none. -/
import Derived.WalkKit
import Derived.WalkSpells
import Derived.WalkLawsBesides
import Derived.RegionTactic
import Derived.Deep.DrawnRows
import Derived.Deep.QuietTactic
import Derived.BigQuiet
import Derived.IntWalk
import Derived.Deep.RegionHeld3
import Derived.Test.YtpgdnenkjommfaaGreatPk08
import Derived.Test.YtpgdnenkjommfaaGreatPk01

namespace Go.Proofs.YtpgdnenkjommfaaGreat
open Go.RowKit Go.WideShapes Spans

/-- Spans as cells. -/
def sps : List Sp → List Value
  | [] => []
  | a :: l => .int .u32 (a.f : Int) :: .int .u32 (a.t : Int) :: sps l
theorem sps_len : ∀ l : List Sp, (sps l).length = l.length * 2
  | [] => rfl
  | a :: l => by simp [sps, sps_len l]; omega
theorem sps_append : ∀ l m : List Sp, sps (l ++ m) = sps l ++ sps m
  | [], m => rfl
  | a :: l, m => by simp [sps, sps_append l m]
theorem sps_get : ∀ (l : List Sp) (j : Nat), j < l.length → (sps l)[j * 2]? = some (.int .u32 ((l.getD j zsp).f : Int)) ∧ (sps l)[j * 2 + 1]? = some (.int .u32 ((l.getD j zsp).t : Int))
  | [], j, h => by simp at h
  | a :: l, 0, _ => by simp [sps]
  | a :: l, j + 1, h => by
    have := sps_get l j (by simpa using h)
    rw [show (j + 1) * 2 = j * 2 + 1 + 1 by omega]
    simpa [sps] using this
theorem sps_oneCell : ∀ l : List Sp, ∀ u ∈ sps l, u.oneCell' = true
  | [], u, h => by simp [sps] at h
  | a :: l, u, h => by
    simp only [sps, List.mem_cons] at h
    rcases h with rfl | rfl | h
    · rfl
    · rfl
    · exact sps_oneCell l u h
/-- A slice of spans. -/
def Sps (w : World) (v : Value) (l : List Sp) : Prop := Sees w v 2 l.length (sps l)
theorem Sps.keeps {w w' : World} {v : Value} {l : List Sp} (h : Sps w v l) (hb : Below w.heap.size w w') : Sps w' v l := Sees.keeps h hb
theorem Sps.nil (w : World) : Sps w (.slice none 0 0) [] := Sees.nil w 2
theorem Sps.shape {w : World} {v : Value} {l : List Sp} (h : Sps w v l) : ∃ ao cap, v = .slice ao l.length cap := Sees.shape h
theorem Sps.at {w : World} {ao : Option Addr} {m cap : Nat} {l : List Sp} (h : Sps w (.slice ao m cap) l) (k : Nat) (hk : k < l.length) :
    ∃ b off, ao = some ⟨b, off, none⟩ ∧ b < w.heap.size ∧ w.cell? ⟨b, off + k * 2, none⟩ = some (.int .u32 ((l.getD k zsp).f : Int)) ∧ w.cell? ⟨b, off + k * 2 + 1, none⟩ = some (.int .u32 ((l.getD k zsp).t : Int)) := by
  obtain ⟨b, off, h1, h2, h3⟩ := Sees.at h (k * 2) (by rw [sps_len]; omega)
  have e := sps_get l k hk
  exact ⟨b, off, h1, h2, (h3 (k * 2) (by rw [sps_len]; omega)).trans e.1, (h3 (k * 2 + 1) (by rw [sps_len]; omega)).trans e.2⟩
theorem Sps.own {w : World} {base : Nat} {e : TypeId} {v : Value} {n : Nat} {l : List Sp} (h : w.ownsRow base e 2 v n (sps l)) : Sps w v l := by
  have h1 := h.1
  rw [sps_len] at h1
  obtain rfl : l.length = n := by omega
  exact Sees.own h
theorem span_info : (Tryz.prog.info? 89).map (fun i => (i.zero, i.size, i.bytes)) = some (some (.agg #[.int .u32 0, .int .u32 0]), 2, 8) := by kernel_rfl
end Go.Proofs.YtpgdnenkjommfaaGreat

/- Slices of a replica and its spans: what a slice value holds, a slice of spans in each element. Conditions: none. -/
namespace Go.Proofs.YtpgdnenkjommfaaGreat
open Go.RowKit Go.WideShapes Spans Clocks

/-- The cells hold the clock: a replica, and what reads as its spans. -/
def Hold (w : World) : List Value → List Tm → Prop
  | [], [] => True
  | a :: b :: cs, x :: c => a = .int .u8 (x.1 : Int) ∧ x.1 < 256 ∧ Sps w b x.2 ∧ Hold w cs c
  | _, _ => False
theorem Hold.len : ∀ {w : World} {cs : List Value} {c : List Tm}, Hold w cs c → cs.length = c.length * 2
  | _, [], [], _ => rfl
  | w, a :: b :: cs, x :: c, h => by have := Hold.len h.2.2.2; simp; omega
theorem Hold.keeps : ∀ {w w' : World} {cs : List Value} {c : List Tm}, Hold w cs c → Below w.heap.size w w' → Hold w' cs c
  | _, _, [], [], _, _ => trivial
  | _, _, _ :: _ :: _, _ :: _, h, hb => ⟨h.1, h.2.1, h.2.2.1.keeps hb, Hold.keeps h.2.2.2 hb⟩
theorem Hold.append : ∀ {w : World} {cs ds : List Value} {c d : List Tm}, Hold w cs c → Hold w ds d → Hold w (cs ++ ds) (c ++ d)
  | _, [], _, [], _, _, h => h
  | _, _ :: _ :: _, _, _ :: _, _, h, h2 => ⟨h.1, h.2.1, h.2.2.1, Hold.append h.2.2.2 h2⟩
theorem Hold.one {w : World} {u : Value} {x : Tm} (hr : x.1 < 256) (hu : Sps w u x.2) : Hold w [.int .u8 (x.1 : Int), u] [x] := ⟨rfl, hr, hu, trivial⟩
theorem Hold.get : ∀ {w : World} {cs : List Value} {c : List Tm} (k : Nat), Hold w cs c → k < c.length →
    cs[k * 2]? = some (.int .u8 ((c.getD k (0, [])).1 : Int)) ∧ (c.getD k (0, [])).1 < 256 ∧ ∃ u, cs[k * 2 + 1]? = some u ∧ Sps w u (c.getD k (0, [])).2
  | _, _, [], _, _, hk => by simp at hk
  | _, [], _ :: _, _, h, _ => by simp [Hold] at h
  | _, [_], _ :: _, _, h, _ => by simp [Hold] at h
  | w, a :: b :: cs, x :: c, 0, h, _ => by
    obtain ⟨rfl, h1, h2, _⟩ := h
    exact ⟨by simp, by simpa using h1, b, by simp, by simpa using h2⟩
  | w, a :: b :: cs, x :: c, k + 1, h, hk => by
    have := Hold.get k h.2.2.2 (by simpa using hk)
    rw [show (k + 1) * 2 = k * 2 + 1 + 1 by omega]
    simpa using this
/-- A slice of replicas' spans. -/
def Tms (w : World) (v : Value) (c : List Tm) : Prop := ∃ cs, Sees w v 2 c.length cs ∧ Hold w cs c
theorem Tms.keeps {w w' : World} {v : Value} {c : List Tm} (h : Tms w v c) (hb : Below w.heap.size w w') : Tms w' v c := by
  obtain ⟨cs, h1, h2⟩ := h
  exact ⟨cs, h1.keeps hb, h2.keeps hb⟩
theorem Tms.nil (w : World) : Tms w (.slice none 0 0) [] := ⟨[], Sees.nil w 2, trivial⟩
theorem Tms.shape {w : World} {v : Value} {c : List Tm} (h : Tms w v c) : ∃ ao cap, v = .slice ao c.length cap := by
  obtain ⟨cs, h1, _⟩ := h
  exact Sees.shape h1
theorem Tms.max {w : World} {v : Value} {c : List Tm} (h : Tms w v c) : c.length ≤ 9223372036854775807 := by
  obtain ⟨cs, h1, _⟩ := h
  exact Sees.max h1
theorem Tms.at {w : World} {ao : Option Addr} {m cap : Nat} {c : List Tm} (h : Tms w (.slice ao m cap) c) (k : Nat) (hk : k < c.length) :
    ∃ b off u, ao = some ⟨b, off, none⟩ ∧ b < w.heap.size ∧ w.cell? ⟨b, off + k * 2, none⟩ = some (.int .u8 ((c.getD k (0, [])).1 : Int)) ∧ w.cell? ⟨b, off + k * 2 + 1, none⟩ = some u ∧
      (c.getD k (0, [])).1 < 256 ∧ Sps w u (c.getD k (0, [])).2 := by
  obtain ⟨cs, h1, h2⟩ := h
  have hl := h2.len
  obtain ⟨b, off, e1, e2, e3⟩ := Sees.at h1 (k * 2) (by omega)
  obtain ⟨g1, g2, u, g3, g4⟩ := h2.get k hk
  exact ⟨b, off, u, e1, e2, (e3 (k * 2) (by omega)).trans g1, (e3 (k * 2 + 1) (by omega)).trans g3, g2, g4⟩

/-- The same, and each element's spans are of the call's own. -/
def HoldO (w : World) (base : Nat) : List Value → List Tm → Prop
  | [], [] => True
  | a :: b :: cs, x :: c => a = .int .u8 (x.1 : Int) ∧ x.1 < 256 ∧ w.ownsRow base 89 2 b x.2.length (sps x.2) ∧ HoldO w base cs c
  | _, _ => False
theorem HoldO.hold : ∀ {w : World} {base : Nat} {cs : List Value} {c : List Tm}, HoldO w base cs c → Hold w cs c
  | _, _, [], [], _ => trivial
  | _, _, _ :: _ :: _, _ :: _, h => ⟨h.1, h.2.1, Sps.own h.2.2.1, HoldO.hold h.2.2.2⟩
theorem HoldO.keeps : ∀ {w w' : World} {base : Nat} {cs : List Value} {c : List Tm}, HoldO w base cs c → Below w.heap.size w w' → HoldO w' base cs c
  | _, _, _, [], [], _, _ => trivial
  | _, _, _, _ :: _ :: _, _ :: _, h, hb => ⟨h.1, h.2.1, own_stays h.2.2.1 hb, HoldO.keeps h.2.2.2 hb⟩
theorem HoldO.append : ∀ {w : World} {base : Nat} {cs ds : List Value} {c d : List Tm}, HoldO w base cs c → HoldO w base ds d → HoldO w base (cs ++ ds) (c ++ d)
  | _, _, [], _, [], _, _, h => h
  | _, _, _ :: _ :: _, _, _ :: _, _, h, h2 => ⟨h.1, h.2.1, h.2.2.1, HoldO.append h.2.2.2 h2⟩
/-- A clock of the call's own, its spans too. -/
def OwnC (w : World) (base : Nat) (v : Value) (c : List Tm) : Prop := ∃ cs, w.ownsRow base 63 2 v c.length cs ∧ HoldO w base cs c
theorem OwnC.tms {w : World} {base : Nat} {v : Value} {c : List Tm} (h : OwnC w base v c) : Tms w v c := by
  obtain ⟨cs, h1, h2⟩ := h
  exact ⟨cs, Sees.own h1, h2.hold⟩
theorem OwnC.keeps {w w' : World} {base : Nat} {v : Value} {c : List Tm} (h : OwnC w base v c) (hb : Below w.heap.size w w') : OwnC w' base v c := by
  obtain ⟨cs, h1, h2⟩ := h
  exact ⟨cs, own_stays h1 hb, h2.keeps hb⟩
theorem times_info : (Tryz.prog.info? 63).map (fun i => (i.zero, i.size, i.bytes)) = some (some (.agg #[.int .u8 0, .slice none 0 0]), 2, 32) := by kernel_rfl
end Go.Proofs.YtpgdnenkjommfaaGreat

/- octavoref07: Twin, Same, In, Many, May, Check, Has, Count: what each answers. Conditions: the slices' cells are spans. -/
namespace Go.Proofs.YtpgdnenkjommfaaGreat.Spans
open Go.RowKit
attribute [local go_sem ↓] Go.wp_at_zero Go.wp_at_succ

theorem twin_any {v : Value} {l : List Sp} {w : World} (hv : Sps w v l) (hl : l.length ≤ 1000000) :
    Calls Tryz.prog 97 #[v] w fun e w' => ∃ v', e = .returned v' ∧ w'.ownsRow w.heap.size 89 2 v' l.length (sps l) ∧ Below w.heap.size w w' := by
  obtain ⟨ao, cap, rfl⟩ := hv.shape
  have HV : Hid (Sees w (.slice ao l.length cap) 2 l.length (sps l)) := hv
  have O0 : Hid (w.ownsRow w.heap.size 89 2 (.slice none 0 0) 0 []) := World.ownsRow_nil _ _ _ _
  clear hv
  go_enter Tryz.func97, Tryz.ntmps97
  go_wp2_with (at_builtin; refine wpList_append_sees rfl (.tmp 4) (.tmp 5) 61 89 rfl Tryz.underlying61 span_info rfl (by decide) w.heap.size _ 0 [] rfl O0.out _ l.length _ rfl HV.out (sps_oneCell l) ?k1 ?k2 ?k3 ?_)
  case k1 => omega
  case k2 => omega
  case k3 => simp
  rintro v1 w1 o1 g1 b1
  have HO : Hid (w1.ownsRow w.heap.size 89 2 v1 l.length (sps l)) := o1
  have HB := Lib.hid b1
  clear o1 g1 b1
  go_wp2
  go_ret
  exact ⟨_, rfl, HO.out, HB.out⟩

theorem sps_ne : ∀ {a b : List Sp}, a.length = b.length → a ≠ b → ∃ k, k < a.length ∧ a.getD k zsp ≠ b.getD k zsp
  | [], [], _, h => absurd rfl h
  | x :: a, y :: b, hl, h => by
    by_cases hxy : x = y
    · subst hxy
      obtain ⟨k, h1, h2⟩ := sps_ne (a := a) (b := b) (by simpa using hl) (fun e => h (by rw [e]))
      exact ⟨k + 1, by simpa using h1, by simpa using h2⟩
    · exact ⟨0, by simp, by simpa using hxy⟩
  | [], _ :: _, hl, _ => by simp at hl
  | _ :: _, [], hl, _ => by simp at hl

set_option maxHeartbeats 1000000 in
theorem same_yes_drawn {a b : Value} {l : List Sp} {w : World} (ha : Sps w a l) (hb : Sps w b l) :
    Calls Tryz.prog 31 #[a, b] w fun e w' => e = .returned (.bool true) ∧ ∃ m, w' = w.drewN m := by
  obtain ⟨ao, ca, rfl⟩ := ha.shape
  obtain ⟨bo, cb, rfl⟩ := hb.shape
  obtain ⟨n, hn⟩ : ∃ n, n = l.length := ⟨_, rfl⟩
  have hm : n ≤ 9223372036854775807 := by rw [hn]; exact Sees.max ha
  have HA := Lib.hid ha
  have HB := Lib.hid hb
  have HN := Lib.hid hn
  rw [← hn]
  clear ha hb hn
  have t1 : ((n : Int) != (n : Int)) = false := by simp
  go_enter Tryz.func31, Tryz.ntmps31
  go_wp2
  go_loopw [5] (fun i wr => ∃ k : Nat, k ≤ n ∧ i = .int .i64 (k : Int) ∧ ∃ q, wr = w.drewN q) (fun i _ => n - (intOf i).toNat)
  case atStart => exact ⟨0, by omega, rfl, 0, rfl⟩
  case round =>
    obtain ⟨k, hk, rfl, q, rfl⟩ := hrel
    by_cases hkn : k < n
    · have q1 : decide (k < n) = true := by simpa using hkn
      obtain ⟨b1, o1, rfl, hb1, ha0, ha1⟩ := HA.out.at k (by rw [← HN.out]; exact hkn)
      obtain ⟨b2, o2, rfl, hb2, hb0, hb1'⟩ := HB.out.at k (by rw [← HN.out]; exact hkn)
      obtain ⟨x, hx⟩ : ∃ x, x = l.getD k zsp := ⟨_, rfl⟩
      rw [← hx] at ha0 ha1 hb0 hb1'
      obtain ⟨xt, xr, _, _⟩ := x
      simp only at ha0 ha1 hb0 hb1'
      have q2 : (0 : Int) ≤ (k : Int) := by omega
      have q3 : (k : Int) < (n : Int) := by omega
      clear hx
      go_wp2
      go_quiet (fail)
      go_wp2
      go_roundw
      case rel => exact ⟨k + 1, by omega, by go_num, _, rfl⟩
      case measure => simp [intOf]; omega
    · have q1 : decide (k < n) = false := by simpa using hkn
      go_wp2
      go_ret
      exact ⟨rfl, _, rfl⟩

set_option maxHeartbeats 1000000 in
theorem same_no_drawn {a b : Value} {l m : List Sp} {w : World} (ha : Sps w a l) (hb : Sps w b m) (hlm : l ≠ m) :
    Calls Tryz.prog 31 #[a, b] w fun e w' => e = .returned (.bool false) ∧ ∃ m, w' = w.drewN m := by
  obtain ⟨ao, ca, rfl⟩ := ha.shape
  obtain ⟨bo, cb, rfl⟩ := hb.shape
  obtain ⟨n, hn⟩ : ∃ n, n = l.length := ⟨_, rfl⟩
  obtain ⟨n2, hn2⟩ : ∃ n, n = m.length := ⟨_, rfl⟩
  have hm : n ≤ 9223372036854775807 := by rw [hn]; exact Sees.max ha
  have HA := Lib.hid ha
  have HB := Lib.hid hb
  have HN := Lib.hid hn
  have HN2 := Lib.hid hn2
  have HL := Lib.hid hlm
  rw [← hn, ← hn2]
  clear ha hb hn hn2 hlm
  by_cases hlen : n = n2
  · subst hlen
    have t1 : ((n : Int) != (n : Int)) = false := by simp
    go_enter Tryz.func31, Tryz.ntmps31
    go_wp2
    go_loopw [5] (fun i wr => ∃ k : Nat, k ≤ n ∧ i = .int .i64 (k : Int) ∧ Hid (∀ j, j < k → l.getD j zsp = m.getD j zsp) ∧ ∃ q, wr = w.drewN q) (fun i _ => n - (intOf i).toNat)
    case atStart => exact ⟨0, by omega, rfl, Lib.hid (by omega), 0, rfl⟩
    case round =>
      obtain ⟨k, hk, rfl, hal, q, rfl⟩ := hrel
      by_cases hkn : k < n
      · have q1 : decide (k < n) = true := by simpa using hkn
        obtain ⟨b1, o1, rfl, hb1, ha0, ha1⟩ := HA.out.at k (by rw [← HN.out]; exact hkn)
        obtain ⟨b2, o2, rfl, hb2, hb0, hb1'⟩ := HB.out.at k (by rw [← HN2.out]; exact hkn)
        obtain ⟨x, hx⟩ : ∃ x, x = l.getD k zsp := ⟨_, rfl⟩
        obtain ⟨y, hy⟩ : ∃ y, y = m.getD k zsp := ⟨_, rfl⟩
        rw [← hx] at ha0 ha1
        rw [← hy] at hb0 hb1'
        have q2 : (0 : Int) ≤ (k : Int) := by omega
        have q3 : (k : Int) < (n : Int) := by omega
        by_cases hxy : x = y
        · have HX := Lib.hid (show l.getD k zsp = m.getD k zsp by rw [← hx, ← hy, hxy])
          subst hxy
          obtain ⟨xt, xr, _, _⟩ := x
          simp only at ha0 ha1 hb0 hb1'
          clear hx hy
          go_wp2
          go_quiet (fail)
          go_wp2
          go_roundw
          case rel =>
            refine ⟨k + 1, by omega, by go_num, Lib.hid (fun j hj => ?_), _, rfl⟩
            by_cases e : j = k
            · rw [e]; exact HX.out
            · exact hal.out j (by omega)
          case measure => simp [intOf]; omega
        · have hparts : ¬ x.f = y.f ∨ (x.f = y.f ∧ ¬ x.t = y.t) := by
            by_cases h1 : x.f = y.f
            · exact .inr ⟨h1, fun h2 => hxy (Sp.ext' h1 h2)⟩
            · exact .inl h1
          obtain ⟨xt, xr, _, _⟩ := x
          obtain ⟨yt, yr, _, _⟩ := y
          simp only at ha0 ha1 hb0 hb1' hparts
          clear hx hy hxy
          rcases hparts with h1 | ⟨rfl, h2⟩
          · go_wp2
            go_quiet (fail)
            go_wp2
            go_ret
            exact ⟨rfl, _, by rw [World.drewN_drewN]⟩
          · have h4 : ((xr : Int) == (yr : Int)) = false := by simp; omega
            have h5 : decide (xr = yr) = false := decide_eq_false h2
            go_wp2
            go_quiet (fail)
            go_wp2
            go_ret
            exact ⟨rfl, _, by rw [World.drewN_drewN]⟩
      · exfalso
        obtain ⟨j, h1, h2⟩ := sps_ne (by rw [← HN.out, ← HN2.out]) HL.out
        exact h2 (hal.out j (by have := HN.out; omega))
  · have t1 : ((n : Int) != (n2 : Int)) = true := by simp; omega
    have t2 : ¬ n = n2 := hlen
    go_enter Tryz.func31, Tryz.ntmps31
    go_wp2
    go_ret
    exact ⟨rfl, 0, rfl⟩
theorem same_yes {a b : Value} {l : List Sp} {w : World} (ha : Sps w a l) (hb : Sps w b l) :
    Calls Tryz.prog 31 #[a, b] w fun e w' => e = .returned (.bool true) ∧ Below w.heap.size w w' :=
  (same_yes_drawn ha hb).mono fun _ _ ⟨he, m, hm⟩ => ⟨he, by rw [hm]; exact below_draw (Below.refl _ _) m⟩
theorem same_no {a b : Value} {l m : List Sp} {w : World} (ha : Sps w a l) (hb : Sps w b m) (hlm : l ≠ m) :
    Calls Tryz.prog 31 #[a, b] w fun e w' => e = .returned (.bool false) ∧ Below w.heap.size w w' :=
  (same_no_drawn ha hb hlm).mono fun _ _ ⟨he, m, hm⟩ => ⟨he, by rw [hm]; exact below_draw (Below.refl _ _) m⟩
theorem refSame_drawn {a b : Value} {l m : List Sp} {w : World} (ha : Sps w a l) (hb : Sps w b m) :
    Calls Tryz.prog 31 #[a, b] w fun e w' => e = .returned (.bool (decide (l = m))) ∧ ∃ k, w' = w.drewN k := by
  by_cases h : l = m
  · subst h
    rw [decide_eq_true rfl]
    exact same_yes_drawn ha hb
  · rw [decide_eq_false h]
    exact same_no_drawn ha hb h
theorem refSame_any {a b : Value} {l m : List Sp} {w : World} (ha : Sps w a l) (hb : Sps w b m) :
    Calls Tryz.prog 31 #[a, b] w fun e w' => e = .returned (.bool (decide (l = m))) ∧ Below w.heap.size w w' := by
  by_cases h : l = m
  · subst h
    rw [decide_eq_true rfl]
    exact same_yes ha hb
  · rw [decide_eq_false h]
    exact same_no ha hb h

end Go.Proofs.YtpgdnenkjommfaaGreat.Spans

/- octavoref07: Many, May, Check, Has, Count, told: what each answers. Conditions: the slices' cells are spans. -/
namespace Go.Proofs.YtpgdnenkjommfaaGreat.Spans
open Go.RowKit
attribute [local go_sem ↓] Go.wp_at_zero Go.wp_at_succ

def chk (l : List Sp) : Int := if mayB l = true then 0 else 8
def has (l : List Sp) (t : Nat) : Bool := mayB l && inB l t
def count (l : List Sp) : Nat := if mayB l = true then many l else 0
end Go.Proofs.YtpgdnenkjommfaaGreat.Spans

/- octavoref08: May, Check, Spans, In, Has, Many, Count, Top: what each answers. Conditions: the slices' cells are replicas' spans. -/
namespace Go.Proofs.YtpgdnenkjommfaaGreat.Clocks
open Go.RowKit Go.Proofs.YtpgdnenkjommfaaGreat.Spans
attribute [local go_sem ↓] Go.wp_at_zero Go.wp_at_succ

theorem Tms.drawn {w : World} {v : Value} {c : List Tm} (h : Tms w v c) (n : Nat) : Tms (w.drewN n) v c := h.keeps (below_draw (Below.refl _ _) n)

end Go.Proofs.YtpgdnenkjommfaaGreat.Clocks

/- octavoref08: Check, Spans, In, Has, Many, Count, Top: what each answers. Conditions: the slices' cells are replicas' spans. -/
namespace Go.Proofs.YtpgdnenkjommfaaGreat.Clocks
open Go.RowKit Go.Proofs.YtpgdnenkjommfaaGreat.Spans
attribute [local go_sem ↓] Go.wp_at_zero Go.wp_at_succ

/-- The first one of a replica, or none. -/
theorem spn_find (c : List Tm) (r : Nat) : (∃ k, k < c.length ∧ (∀ j, j < k → (c.getD j ztm).1 ≠ r) ∧ (c.getD k ztm).1 = r) ∨ ∀ j, j < c.length → (c.getD j ztm).1 ≠ r := by
  have go : ∀ n, n ≤ c.length → (∃ k, k < n ∧ (∀ j, j < k → (c.getD j ztm).1 ≠ r) ∧ (c.getD k ztm).1 = r) ∨ ∀ j, j < n → (c.getD j ztm).1 ≠ r := by
    intro n
    induction n with
    | zero => intro _; exact .inr (fun j hj => by omega)
    | succ n ih =>
      intro h
      rcases ih (by omega) with ⟨k, h1, h2, h3⟩ | h1
      · exact .inl ⟨k, by omega, h2, h3⟩
      · by_cases q : (c.getD n ztm).1 = r
        · exact .inl ⟨n, by omega, h1, q⟩
        · refine .inr (fun j hj => ?_)
          by_cases e : j = n
          · rw [e]; exact q
          · exact h1 j (by omega)
  exact go c.length (Nat.le_refl _)

set_option maxRecDepth 100000 in
set_option maxHeartbeats 1000000 in
theorem refSpans_at {v : Value} {c : List Tm} {w : World} (hv : Tms w v c) (r : Nat) :
    ∃ u, Sps w u (spn c r) ∧ ∀ W, Below w.heap.size w W → Calls Tryz.prog 85 #[v, .int .u8 (r : Int)] W fun e w' => e = .returned u ∧ w' = W := by
  obtain ⟨ao, cap, rfl⟩ := hv.shape
  rcases spn_find c r with ⟨K, hK, hmin, hr⟩ | hmiss
  · obtain ⟨b1, o1, u, rfl, hb1, ha0, ha1, _, hsp⟩ := hv.at K hK
    refine ⟨u, by rw [spn_hit hmin hK hr]; exact hsp, fun W hW => ?_⟩
    have hW1 := (hW.cell (p := ⟨b1, o1 + K * 2 + 1, none⟩) hb1).trans ha1
    obtain ⟨so, sc, rfl⟩ := hsp.shape
    have HV := Lib.hid (hv.keeps hW)
    obtain ⟨n, hn⟩ : ∃ n, n = c.length := ⟨_, rfl⟩
    have hm : n ≤ 9223372036854775807 := by rw [hn]; exact Tms.max hv
    have HN := Lib.hid hn
    have HMin := Lib.hid hmin
    have HR := Lib.hid hr
    obtain ⟨sl, hsl⟩ : ∃ sl, sl = (c.getD K (0, [])).2.length := ⟨_, rfl⟩
    rw [← hsl] at hW1 ⊢
    rw [← hn] at hK ⊢
    clear hv hn hW ha0 ha1 hsp hmin hr hsl
    go_enter Tryz.func85, Tryz.ntmps85
    go_wp2
    go_loop [5] (fun i => ∃ k : Nat, k ≤ n ∧ i = .int .i64 (k : Int) ∧ Hid (∀ j, j < k → (c.getD j ztm).1 ≠ r)) (fun i => n - (intOf i).toNat)
    case atStart => exact ⟨0, by omega, rfl, Lib.hid (fun j hj => by omega)⟩
    case round =>
      obtain ⟨k, hk, rfl, hno⟩ := hrel
      have hkK : k ≤ K := by
        by_cases q : k ≤ K
        · exact q
        · exact absurd HR.out (hno.out K (by omega))
      have hkn : k < n := by omega
      have q1 : decide (k < n) = true := by simpa using hkn
      have q2 : (0 : Int) ≤ (k : Int) := by omega
      have q3 : (k : Int) < (n : Int) := by omega
      obtain ⟨b2, o2, u2, he, -, hx0, -, -, -⟩ := HV.out.at k (by rw [← HN.out]; exact hkn)
      obtain ⟨rfl, rfl⟩ : b1 = b2 ∧ o1 = o2 := by simpa using he
      obtain ⟨x, hx⟩ : ∃ x, x = (c.getD k ztm).1 := ⟨_, rfl⟩
      have hx' : (c.getD k (0, [])).1 = x := hx.symm
      rw [hx'] at hx0
      by_cases e : x = r
      · obtain rfl : k = K := by
          by_cases q : k = K
          · exact q
          · exact absurd (hx.symm.trans e) (HMin.out k (by omega))
        subst e
        clear hx hx' he hkK
        have t1 : ((x : Int) == (x : Int)) = true := by simp
        go_wp2
        go_ret
        exact ⟨rfl, rfl⟩
      · have t1 : ((x : Int) == (r : Int)) = false := by rw [beq_eq_false_iff_ne]; omega
        have t2 : decide (x = r) = false := decide_eq_false e
        have HNo : Hid (∀ j, j < k + 1 → (c.getD j ztm).1 ≠ r) := fun j hj => by
          by_cases q : j = k
          · rw [q, ← hx]; exact e
          · exact hno.out j (by omega)
        clear hx hx' he hkK
        go_wp2
        go_round
        case rel => exact ⟨k + 1, by omega, by go_num, HNo⟩
        case measure => simp [intOf]; omega
  · refine ⟨.slice none 0 0, by rw [spn_miss hmiss]; exact Sps.nil w, fun W hW => ?_⟩
    have HV := Lib.hid (hv.keeps hW)
    obtain ⟨n, hn⟩ : ∃ n, n = c.length := ⟨_, rfl⟩
    have hm : n ≤ 9223372036854775807 := by rw [hn]; exact Tms.max hv
    have HN := Lib.hid hn
    have HMiss := Lib.hid hmiss
    rw [← hn]
    clear hv hn hW hmiss
    go_enter Tryz.func85, Tryz.ntmps85
    go_wp2
    go_loop [5] (fun i => ∃ k : Nat, k ≤ n ∧ i = .int .i64 (k : Int)) (fun i => n - (intOf i).toNat)
    case atStart => exact ⟨0, by omega, rfl⟩
    case round =>
      obtain ⟨k, hk, rfl⟩ := hrel
      by_cases hkn : k < n
      · have q1 : decide (k < n) = true := by simpa using hkn
        have q2 : (0 : Int) ≤ (k : Int) := by omega
        have q3 : (k : Int) < (n : Int) := by omega
        obtain ⟨b1, o1, u2, rfl, _, hx0, _, _, _⟩ := HV.out.at k (by rw [← HN.out]; exact hkn)
        have e := HMiss.out k (by rw [← HN.out]; exact hkn)
        obtain ⟨x, hx⟩ : ∃ x, x = (c.getD k ztm).1 := ⟨_, rfl⟩
        have hx' : (c.getD k (0, [])).1 = x := hx.symm
        rw [hx'] at hx0
        rw [← hx] at e
        have t1 : ((x : Int) == (r : Int)) = false := by rw [beq_eq_false_iff_ne]; omega
        have t2 : decide (x = r) = false := decide_eq_false e
        clear hx hx'
        go_wp2
        go_round
        case rel => exact ⟨k + 1, by omega, by go_num⟩
        case measure => simp [intOf]; omega
      · have q1 : decide (k < n) = false := by simpa using hkn
        go_wp2
        go_ret
        exact ⟨rfl, rfl⟩

end Go.Proofs.YtpgdnenkjommfaaGreat.Clocks

/- octavoref07.Without: what it answers. Conditions: the slice's cells are spans that may be. -/
namespace Go.Proofs.YtpgdnenkjommfaaGreat.Spans
open Go.RowKit
attribute [local go_sem ↓] Go.wp_at_zero Go.wp_at_succ

theorem two_blk {X : World} {g : Nat} {c0 c1 : Value} {e : TypeId} {fr : Nat × Nat} (h : X.heap[g]? = some (.cells #[c0, c1] e fr)) : X.cell? ⟨g, 0, none⟩ = some c0 ∧ X.cell? ⟨g, 1, none⟩ = some c1 :=
  ⟨cell_of_row _ g 0 #[c0, c1] e _ h, cell_of_row _ g 1 #[c0, c1] e _ h⟩
theorem two_free {X : World} {g : Nat} {c0 c1 : Value} {e : TypeId} (h : X.heap[g]? = some (.cells #[c0, c1] e)) : X.frozen? ⟨g, 0, none⟩ = false ∧ X.frozen? ⟨g, 1, none⟩ = false := by
  constructor <;> simp [World.frozen?, h]
theorem sees_sp {X : World} {g : Nat} {a : Sp} {F T : Int} {e : TypeId} (h : X.heap[g]? = some (.cells #[.int .u32 F, .int .u32 T] e)) (hF : F = (a.f : Int)) (hT : T = (a.t : Int)) : Sees X (.slice (some ⟨g, 0, none⟩) 1 1) 2 1 (sps [a]) := by
  subst hF hT
  refine ⟨rfl, _, _, rfl, Nat.le_refl _, by decide, by simp, .inr ⟨g, 0, rfl, (Array.getElem?_eq_some_iff.1 h).1, fun j u hj => ?_⟩⟩
  rw [cell_of_row X g (0 + j) _ e _ h, Nat.zero_add]
  simpa [sps] using hj
theorem own_base {w : World} {b b' : Nat} {e : TypeId} {v : Value} {sz n : Nat} {cs : List Value} (h : w.ownsRow b e sz v n cs) (hb : b' ≤ b) : w.ownsRow b' e sz v n cs :=
  ⟨h.1, h.2.imp_right fun ⟨g, c, cur, h1, h2, h3⟩ => ⟨g, c, cur, h1, Nat.le_trans hb h2, h3⟩⟩

theorem kb_new {X : World} {g : Nat} {o : Obj} (h : X.heap.size = g) : (X.alloc o).heap[g]? = some o := by
  subst h; exact heap_alloc_new X o
end Go.Proofs.YtpgdnenkjommfaaGreat.Spans

/- octavoref07.With: what it answers. Conditions: the slice's cells are spans that may be. -/
namespace Go.Proofs.YtpgdnenkjommfaaGreat.Spans
open Go.RowKit
attribute [local go_sem ↓] Go.wp_at_zero Go.wp_at_succ

/-- A row of the call's own above a box of two cells; nothing that was there has turned. -/
def Keep (H : Nat) (w : World) (f t : Nat) (o : Value) (l : List Sp) (wr : World) : Prop :=
  wr.ownsRow (H + 1) 89 2 o l.length (sps l) ∧ Below H w wr ∧ wr.heap[H]? = some (.cells #[.int .u32 (f : Int), .int .u32 (t : Int)] 89)
theorem Keep.lt {H f t : Nat} {w wr : World} {o : Value} {l : List Sp} (h : Keep H w f t o l wr) : H < wr.heap.size := (Array.getElem?_eq_some_iff.1 h.2.2).1
theorem Keep.draw {H f t : Nat} {w wr : World} {o : Value} {l : List Sp} (h : Keep H w f t o l wr) (q : Nat) : Keep H w f t o l (wr.drewN q) := ⟨h.1, below_draw h.2.1 q, h.2.2⟩
theorem Keep.next {H f t : Nat} {w wo X w1 : World} {v v1 : Value} {l : List Sp} {a : Sp} (hk : Keep H w f t v l wo) (hX : Below wo.heap.size wo X)
    (o1 : w1.ownsRow (H + 1) 89 2 v1 (l.length + 1) (sps l ++ sps [a])) (b1 : Below (H + 1) X w1) : Keep H w f t v1 (l ++ [a]) w1 := by
  have hlt := hk.lt
  refine ⟨?_, (hk.2.1.trans (hX.mono (by omega))).trans (b1.mono (Nat.le_succ _)), ?_⟩
  · rw [sps_append, List.length_append]; exact o1
  · exact (b1.block H (Nat.lt_succ_self _)).trans ((hX.block H hlt).trans hk.2.2)
theorem Keep.stay {H f t : Nat} {w wo X : World} {v : Value} {l : List Sp} (hk : Keep H w f t v l wo) (hX : Below wo.heap.size wo X) : Keep H w f t v l X := by
  have hlt := hk.lt
  exact ⟨own_stays hk.1 hX, hk.2.1.trans (hX.mono (by omega)), (hX.block H hlt).trans hk.2.2⟩
theorem own_set {w : World} {B H o n sz : Nat} {e : TypeId} {v d : Value} {cs : List Value} (h : w.ownsRow B e sz v n cs) (hH : H < B) : (w.setCell ⟨H, o, none⟩ d).ownsRow B e sz v n cs := by
  refine ⟨h.1, ?_⟩
  rcases h.2 with h0 | ⟨g, cap, cur, rfl, h1, hg, h2⟩
  · exact .inl h0
  · refine .inr ⟨g, cap, cur, rfl, h1, ?_, h2⟩
    rw [heap_setCell_other _ _ _ _ (show g ≠ H by omega)]
    exact hg
theorem Keep.drew {H f t : Nat} {w wr : World} {o : Value} {l : List Sp} (h : Keep H w f t o l wr) : Keep H w f t o l wr.drew := ⟨h.1, h.2.1.drew, h.2.2⟩
/-- The box stored anew. -/
theorem Keep.put {H f t : Nat} {w wr : World} {o : Value} {l : List Sp} (h : Keep H w f t o l wr) (f' t' : Nat) : Keep H w f' t' o l ((wr.setCell ⟨H, 0, none⟩ (.int .u32 (f' : Int))).setCell ⟨H, 1, none⟩ (.int .u32 (t' : Int))) := by
  refine ⟨own_set (own_set h.1 (Nat.lt_succ_self _)) (Nat.lt_succ_self _), (h.2.1.setCell (p := ⟨H, 0, none⟩) (Nat.le_refl _) _).setCell (p := ⟨H, 1, none⟩) (Nat.le_refl _) _, ?_⟩
  have h0 := heap_setCell_same wr H 0 _ _ (.int .u32 (f' : Int)) h.2.2
  have h1 := heap_setCell_same _ H 1 _ _ (.int .u32 (t' : Int)) h0
  exact h1

set_option maxRecDepth 100000 in
set_option maxHeartbeats 8000000 in
theorem with_any {v : Value} {l : List Sp} {x : Sp} {w : World} (hv : Sps w v l) (hf : Fine l) (hx : Ok x) (hl : l.length ≤ 5000) :
    Calls Tryz.prog 98 #[v, .agg #[.int .u32 (x.f : Int), .int .u32 (x.t : Int)]] w fun e w' => ∃ v', e = .returned v' ∧ w'.ownsRow w.heap.size 89 2 v' (ins l x).length (sps (ins l x)) ∧ Below w.heap.size w w' := by
  rw [← three_ins hf hx]
  obtain ⟨ao, cap, rfl⟩ := hv.shape
  obtain ⟨n, hn⟩ : ∃ n, n = l.length := ⟨_, rfl⟩
  have HV := Lib.hid hv
  have HN := Lib.hid hn
  have HF := Lib.hid hf
  obtain ⟨L1, hL1⟩ : ∃ L1, L1 = fun k => (l.take k).filter (fun y => decide (y.t + 1 < x.f)) := ⟨_, rfl⟩
  obtain ⟨M, hM⟩ : ∃ M, M = gat l x := ⟨_, rfl⟩
  obtain ⟨L3, hL3⟩ : ∃ L3, L3 = fun k => (l.take k).filter (fun y => decide (M.t + 1 < y.f)) := ⟨_, rfl⟩
  have l1s : ∀ k, k < l.length → L1 (k + 1) = L1 k ++ if (l.getD k zsp).t + 1 < x.f then [l.getD k zsp] else [] := by
    intro k hk
    rw [hL1]
    simp only
    rw [take_snoc l k hk, List.filter_append]
    congr 1
    by_cases h : (l.getD k zsp).t + 1 < x.f
    · rw [if_pos h, filter_all (by simpa using h)]
    · rw [if_neg h, filter_none (by simpa using h)]
  have l3s : ∀ k, k < l.length → L3 (k + 1) = L3 k ++ if M.t + 1 < (l.getD k zsp).f then [l.getD k zsp] else [] := by
    intro k hk
    rw [hL3]
    simp only
    rw [take_snoc l k hk, List.filter_append]
    congr 1
    by_cases h : M.t + 1 < (l.getD k zsp).f
    · rw [if_pos h, filter_all (by simpa using h)]
    · rw [if_neg h, filter_none (by simpa using h)]
  have l1n : ∀ k, (L1 k).length ≤ k := by intro k; rw [hL1]; exact Nat.le_trans (List.length_filter_le _ _) (List.length_take_le _ _)
  have l3n : ∀ k, (L3 k).length ≤ k := by intro k; rw [hL3]; exact Nat.le_trans (List.length_filter_le _ _) (List.length_take_le _ _)
  have hthree : three l x = L1 n ++ M :: L3 n := by
    unfold three
    rw [hL1, hL3, hn, hM]
    simp only [List.take_length]
  have HL1 := Lib.hid (And.intro l1s l1n)
  have HL3 := Lib.hid (And.intro l3s l3n)
  have HT := Lib.hid hthree
  have hMok : Ok M := by rw [hM]; exact gat_ok hf.all hx
  have HMok := Lib.hid hMok
  have HM := Lib.hid hM
  have l10 : L1 0 = [] := by rw [hL1]; rfl
  have l30 : L3 0 = [] := by rw [hL3]; rfl
  have HL0 := Lib.hid (And.intro l10 l30)
  clear hL1 hL3 l1s l3s l1n l3n hthree hMok hM l10 l30
  rw [HT.out]
  obtain ⟨f, t, hfb, htb⟩ := x
  have hx2 := hx
  unfold Ok at hx2
  simp only at hx2
  obtain ⟨x1, x2, x3⟩ := hx2
  have HX := Lib.hid hx
  simp only
  rw [← hn] at hl ⊢
  have K0 : Hid (Keep w.heap.size w f t (.slice none 0 0) (L1 0) (w.alloc (.cells #[.int .u32 (f : Int), .int .u32 (t : Int)] 89))) := by
    rw [HL0.out.1]
    exact ⟨World.ownsRow_nil _ _ _ _, (Below.refl _ _).alloc (Nat.le_refl _) _, heap_alloc_new w _⟩
  clear hv hn hf hx
  go_enter Tryz.func98, Tryz.ntmps98
  go_wp2
  go_loopw [5, 6] (fun o i wr => ∃ k : Nat, k ≤ n ∧ i = .int .i64 (k : Int) ∧ Hid (Keep w.heap.size w f t o (L1 k) wr)) (fun _ i _ => n - (intOf i).toNat)
  case atStart => exact ⟨0, by omega, rfl, K0⟩
  case round =>
    obtain ⟨k, hk, rfl, hkp⟩ := hrel
    obtain ⟨wo, rfl⟩ : ∃ wo : World, wo = wr := ⟨_, rfl⟩
    obtain ⟨c0, c1⟩ := two_blk hkp.out.2.2
    have hlt := hkp.out.lt
    by_cases hkn : k < n
    · have q1 : decide (k < n) = true := by simpa using hkn
      obtain ⟨b, off, rfl, hb, hx0, hx1⟩ := (HV.out.keeps hkp.out.2.1).at k (by rw [← HN.out]; exact hkn)
      have hok := fine_ok HF.out (k := k) (by rw [← HN.out]; exact hkn)
      have hls := HL1.out.1 k (by rw [← HN.out]; exact hkn)
      have hln := HL1.out.2 k
      obtain ⟨y, hy⟩ : ∃ y, y = l.getD k zsp := ⟨_, rfl⟩
      rw [← hy] at hx0 hx1 hok hls
      obtain ⟨D, hD⟩ : ∃ D, D = L1 k := ⟨_, rfl⟩
      rw [← hD] at hkp hls hln
      obtain ⟨yf, yt, hyf, hyt⟩ := y
      unfold Ok at hok
      simp only at hx0 hx1 hok hls
      obtain ⟨o1, o2, o3⟩ := hok
      have HLS := Lib.hid hls
      have eT : IntKind.u32.wrap ((yt : Int) + 1) = (yt : Int) + 1 := by rw [IntKind.wrap_u32]; omega
      have q2 : (0 : Int) ≤ (k : Int) := by omega
      have q3 : (k : Int) < (n : Int) := by omega
      clear hy hls hD o1
      by_cases h1 : yt + 1 < f
      · have s1 : decide ((yt : Int) + 1 < (f : Int)) = true := decide_eq_true (by omega)
        have HR : Hid (L1 (k + 1) = D ++ [⟨yf, yt, hyf, hyt⟩]) := by have := HLS.out; rwa [if_pos h1] at this
        go_wp2
        go_quiet (fail)
        go_wp2_with (at_builtin; refine wpList_append_sees rfl (.tmp 24) (.tmp 29) 61 89 rfl Tryz.underlying61 span_info rfl (by decide) (w.heap.size + 1) _ D.length (sps D) rfl (own_stays hkp.out.1 ((below_draw (Below.refl _ _) _).alloc (Nat.le_refl _) _)) _ 1 _ rfl (sees_sp (a := ⟨yf, yt, hyf, hyt⟩) (kb_new rfl) rfl rfl) (sps_oneCell _) ?a1 ?a2 ?a3 ?_)
        case a1 => omega
        case a2 => omega
        case a3 => simp; omega
        rintro v5 w5 o5 g5 b5
        have K5 := Lib.hid (hkp.out.next ((below_draw (Below.refl _ _) _).alloc (Nat.le_refl _) _) o5 b5)
        clear o5 g5 b5
        go_wp2
        go_roundw
        case rel => exact ⟨k + 1, by omega, by go_num, Lib.hid (by rw [HR.out]; exact K5.out)⟩
        case measure => simp [intOf]; omega
      · have s1 : decide ((yt : Int) + 1 < (f : Int)) = false := decide_eq_false (by omega)
        have HR : Hid (L1 (k + 1) = D) := by have := HLS.out; rwa [if_neg h1, List.append_nil] at this
        go_wp2
        go_quiet (fail)
        go_wp2
        go_roundw
        case rel => exact ⟨k + 1, by omega, by go_num, Lib.hid (by rw [HR.out]; exact hkp.out.draw _)⟩
        case measure => simp [intOf]; omega
    · have q1 : decide (k < n) = false := by simpa using hkn
      obtain rfl : k = n := by omega
      have HB := Lib.hid hkp.out
      obtain ⟨v1, hv1⟩ : ∃ v1, v1 = u5 := ⟨_, rfl⟩
      clear c0 c1 hlt hkn
      go_wp2
      rw [← hv1] at hkp ⊢
      clear hv1
      go_loopw [7] (fun i wr => ∃ (j : Nat) (g : Sp), j ≤ k ∧ i = .int .i64 (j : Int) ∧ Hid (g = gat (l.take j) ⟨f, t, hfb, htb⟩) ∧ Hid (Keep w.heap.size w g.f g.t v1 (L1 k) wr)) (fun i _ => k - (intOf i).toNat)
      case atStart => exact ⟨0, ⟨f, t, hfb, htb⟩, by omega, rfl, Lib.hid rfl, hkp⟩
      case round =>
        obtain ⟨j, g, hj, rfl, hg, hkp2⟩ := hrel
        obtain ⟨w2, rfl⟩ : ∃ w2 : World, w2 = wr := ⟨_, rfl⟩
        obtain ⟨c0, c1⟩ := two_blk hkp2.out.2.2
        obtain ⟨c2, c3⟩ := two_free hkp2.out.2.2
        have hlt := hkp2.out.lt
        by_cases hjk : j < k
        · have p1 : decide (j < k) = true := by simpa using hjk
          obtain ⟨b, off, rfl, hb, hx0, hx1⟩ := (HV.out.keeps hkp2.out.2.1).at j (by rw [← HN.out]; exact hjk)
          have hok := fine_ok HF.out (k := j) (by rw [← HN.out]; exact hjk)
          have hgok : Ok g := by rw [hg.out]; exact gat_ok (fun y hy => HF.out.all y (List.mem_of_mem_take hy)) HX.out
          have hgs := gat_snoc (l.take j) ⟨f, t, hfb, htb⟩ (l.getD j zsp)
          rw [← take_snoc l j (by rw [← HN.out]; exact hjk), ← hg.out] at hgs
          obtain ⟨y, hy⟩ : ∃ y, y = l.getD j zsp := ⟨_, rfl⟩
          rw [← hy] at hx0 hx1 hok hgs
          have HGS := Lib.hid hgs
          obtain ⟨yf, yt, hyf, hyt⟩ := y
          obtain ⟨gf, gt, hgf, hgt⟩ := g
          unfold Ok at hok hgok
          simp only at hx0 hx1 hok hgok HGS c0 c1 hkp2
          obtain ⟨o1, o2, o3⟩ := hok
          obtain ⟨o4, o5, o6⟩ := hgok
          have eT : IntKind.u32.wrap ((yt : Int) + 1) = (yt : Int) + 1 := by rw [IntKind.wrap_u32]; omega
          have eG : IntKind.u32.wrap ((gt : Int) + 1) = (gt : Int) + 1 := by rw [IntKind.wrap_u32]; omega
          have q2 : (0 : Int) ≤ (j : Int) := by omega
          have q3 : (j : Int) < (k : Int) := by omega
          have hneb : ¬ b = w.heap.size := by have := (HV.out.at j (by rw [← HN.out]; exact hjk)); obtain ⟨b', _, he, hb', _⟩ := this; cases he; omega
          have hneb' : ¬ w.heap.size = b := fun e => hneb e.symm
          clear hy hgs hg
          by_cases h1 : gf ≤ yt + 1
          · have s1 : decide ((gf : Int) ≤ (yt : Int) + 1) = true := decide_eq_true (by omega)
            by_cases h2 : yf ≤ gt + 1
            · have s2 : decide ((yf : Int) ≤ (gt : Int) + 1) = true := decide_eq_true (by omega)
              have HG2 : Hid (mrg ⟨yf, yt, hyf, hyt⟩ ⟨gf, gt, hgf, hgt⟩ = gat (l.take (j + 1)) ⟨f, t, hfb, htb⟩) := by have := HGS.out; rw [if_pos ⟨h1, h2⟩] at this; exact this.symm
              obtain ⟨mf, hmf⟩ : ∃ mf, mf = min gf yf := ⟨_, rfl⟩
              obtain ⟨mt, hmt⟩ : ∃ mt, mt = max gt yt := ⟨_, rfl⟩
              have hmr : (mrg ⟨yf, yt, hyf, hyt⟩ ⟨gf, gt, hgf, hgt⟩).f = mf ∧ (mrg ⟨yf, yt, hyf, hyt⟩ ⟨gf, gt, hgf, hgt⟩).t = mt := ⟨hmf.symm, hmt.symm⟩
              have HMR := Lib.hid hmr
              clear hmr
              by_cases h3 : yf < gf
              · have s3 : decide (yf < gf) = true := decide_eq_true h3
                have s3' : ¬ gf ≤ yf := by omega
                obtain rfl : mf = yf := by omega
                by_cases h4 : gt < yt
                · have s4 : decide (gt < yt) = true := decide_eq_true h4
                  have s4' : ¬ yt ≤ gt := by omega
                  obtain rfl : mt = yt := by omega
                  clear hmf hmt
                  go_wp2
                  go_quiet (fail)
                  go_wp2
                  go_region
                  all_goals
                    go_wp2
                    go_region
                  all_goals
                    go_wp2
                    go_roundw
                    case rel => exact ⟨j + 1, _, by omega, by go_num, Lib.hid HG2.out, Lib.hid (by rw [HMR.out.1, HMR.out.2]; exact ((hkp2.out.draw _).put _ _).drew)⟩
                    case measure => simp [intOf]; omega
                · have s4 : decide (gt < yt) = false := decide_eq_false h4
                  have s4' : yt ≤ gt := by omega
                  obtain rfl : mt = gt := by omega
                  clear hmf hmt
                  go_wp2
                  go_quiet (fail)
                  go_wp2
                  go_region
                  all_goals
                    go_wp2
                    go_region
                  all_goals
                    go_wp2
                    go_roundw
                    case rel => exact ⟨j + 1, _, by omega, by go_num, Lib.hid HG2.out, Lib.hid (by rw [HMR.out.1, HMR.out.2]; exact ((hkp2.out.draw _).put _ _).drew)⟩
                    case measure => simp [intOf]; omega
              · have s3 : decide (yf < gf) = false := decide_eq_false h3
                have s3' : gf ≤ yf := by omega
                obtain rfl : mf = gf := by omega
                by_cases h4 : gt < yt
                · have s4 : decide (gt < yt) = true := decide_eq_true h4
                  have s4' : ¬ yt ≤ gt := by omega
                  obtain rfl : mt = yt := by omega
                  clear hmf hmt
                  go_wp2
                  go_quiet (fail)
                  go_wp2
                  go_region
                  all_goals
                    go_wp2
                    go_region
                  all_goals
                    go_wp2
                    go_roundw
                    case rel => exact ⟨j + 1, _, by omega, by go_num, Lib.hid HG2.out, Lib.hid (by rw [HMR.out.1, HMR.out.2]; exact ((hkp2.out.draw _).put _ _).drew)⟩
                    case measure => simp [intOf]; omega
                · have s4 : decide (gt < yt) = false := decide_eq_false h4
                  have s4' : yt ≤ gt := by omega
                  obtain rfl : mt = gt := by omega
                  clear hmf hmt
                  go_wp2
                  go_quiet (fail)
                  go_wp2
                  go_region
                  all_goals
                    go_wp2
                    go_region
                  all_goals
                    go_wp2
                    go_roundw
                    case rel => exact ⟨j + 1, _, by omega, by go_num, Lib.hid HG2.out, Lib.hid (by rw [HMR.out.1, HMR.out.2]; exact ((hkp2.out.draw _).put _ _).drew)⟩
                    case measure => simp [intOf]; omega
            · have s2 : decide ((yf : Int) ≤ (gt : Int) + 1) = false := decide_eq_false (by omega)
              have HG2 : Hid (⟨gf, gt, hgf, hgt⟩ = gat (l.take (j + 1)) ⟨f, t, hfb, htb⟩) := by have := HGS.out; rw [if_neg (by omega)] at this; exact this.symm
              go_wp2
              go_quiet (fail)
              go_wp2
              go_roundw
              case rel => exact ⟨j + 1, _, by omega, by go_num, Lib.hid HG2.out, Lib.hid (hkp2.out.draw _)⟩
              case measure => simp [intOf]; omega
          · have s1 : decide ((gf : Int) ≤ (yt : Int) + 1) = false := decide_eq_false (by omega)
            have HG2 : Hid (⟨gf, gt, hgf, hgt⟩ = gat (l.take (j + 1)) ⟨f, t, hfb, htb⟩) := by have := HGS.out; rw [if_neg (by omega)] at this; exact this.symm
            go_wp2
            go_quiet (fail)
            go_wp2
            go_roundw
            case rel => exact ⟨j + 1, _, by omega, by go_num, Lib.hid HG2.out, Lib.hid (hkp2.out.draw _)⟩
            case measure => simp [intOf]; omega
        · have p1 : decide (j < k) = false := by simpa using hjk
          have hgM : g = M := by
            rw [hg.out, HM.out, show j = k by omega, HN.out, List.take_length]
          subst hgM
          have hMok := HMok.out
          have HMB := Lib.hid hMok
          obtain ⟨gf, gt, hgf, hgt⟩ := g
          unfold Ok at hMok
          simp only at hMok c0 c1 hkp2
          obtain ⟨o4, o5, o6⟩ := hMok
          have hln := HL1.out.2 k
          obtain ⟨D, hD⟩ : ∃ D, D = L1 k := ⟨_, rfl⟩
          have HD := Lib.hid hD
          rw [← hD] at hkp2 hln
          clear hg hD c2 c3
          go_wp2_with (at_builtin; refine wpList_append_sees rfl (.tmp 75) (.tmp 77) 61 89 rfl Tryz.underlying61 span_info rfl (by decide) (w.heap.size + 1) _ D.length (sps D) rfl (own_stays hkp2.out.1 ((Below.refl _ _).alloc (Nat.le_refl _) _)) _ 1 _ rfl (sees_sp (a := ⟨gf, gt, hgf, hgt⟩) (kb_new rfl) rfl rfl) (sps_oneCell _) ?b1 ?b2 ?b3 ?_)
          case b1 => omega
          case b2 => omega
          case b3 => first | omega | (simp; omega)
          rintro v5 w5 o5 g5 b5
          have K5 := Lib.hid (hkp2.out.next ((Below.refl _ _).alloc (Nat.le_refl _) _) o5 b5)
          clear o5 g5 b5 c0 c1
          have K6 : Hid (Keep w.heap.size w gf gt v5 (L1 k ++ ⟨gf, gt, hgf, hgt⟩ :: L3 0) w5) := by
            rw [HL0.out.2, ← HD.out]; exact K5.out
          go_wp2
          go_loopw [5, 8] (fun o i wr => ∃ j : Nat, j ≤ k ∧ i = .int .i64 (j : Int) ∧ Hid (Keep w.heap.size w gf gt o (L1 k ++ ⟨gf, gt, hgf, hgt⟩ :: L3 j) wr)) (fun _ i _ => k - (intOf i).toNat)
          case atStart => exact ⟨0, by omega, rfl, K6⟩
          case round =>
            obtain ⟨i, hi, rfl, hkp3⟩ := hrel
            obtain ⟨w3, rfl⟩ : ∃ w3 : World, w3 = wr := ⟨_, rfl⟩
            obtain ⟨c0, c1⟩ := two_blk hkp3.out.2.2
            have hlt3 := hkp3.out.lt
            by_cases hik : i < k
            · have r1 : decide (i < k) = true := by simpa using hik
              obtain ⟨b, off, rfl, hb, hx0, hx1⟩ := (HV.out.keeps hkp3.out.2.1).at i (by rw [← HN.out]; exact hik)
              have hok := fine_ok HF.out (k := i) (by rw [← HN.out]; exact hik)
              have hls := HL3.out.1 i (by rw [← HN.out]; exact hik)
              have hln3 := HL3.out.2 i
              obtain ⟨y, hy⟩ : ∃ y, y = l.getD i zsp := ⟨_, rfl⟩
              rw [← hy] at hx0 hx1 hok hls
              obtain ⟨E, hE⟩ : ∃ E, E = L1 k ++ (⟨gf, gt, hgf, hgt⟩ : Sp) :: L3 i := ⟨_, rfl⟩
              have hlen : E.length ≤ 2 * k + 1 := by rw [hE, List.length_append, List.length_cons, ← HD.out]; omega
              have hE2 : L1 k ++ (⟨gf, gt, hgf, hgt⟩ : Sp) :: L3 (i + 1) = E ++ if gt + 1 < y.f then [y] else [] := by
                rw [hls, hE, List.append_assoc, List.cons_append]
              rw [← hE] at hkp3
              obtain ⟨yf, yt, hyf, hyt⟩ := y
              unfold Ok at hok
              simp only at hx0 hx1 hok hE2
              obtain ⟨o1, o2, o3⟩ := hok
              have HE2 := Lib.hid hE2
              have eG : IntKind.u32.wrap ((gt : Int) + 1) = (gt : Int) + 1 := by rw [IntKind.wrap_u32]; omega
              have q2 : (0 : Int) ≤ (i : Int) := by omega
              have q3 : (i : Int) < (k : Int) := by omega
              clear hy hls hE hE2
              by_cases h1 : gt + 1 < yf
              · have s1 : decide ((gt : Int) + 1 < (yf : Int)) = true := decide_eq_true (by omega)
                have HR : Hid (L1 k ++ (⟨gf, gt, hgf, hgt⟩ : Sp) :: L3 (i + 1) = E ++ [⟨yf, yt, hyf, hyt⟩]) := by have := HE2.out; rwa [if_pos h1] at this
                go_wp2
                go_quiet (fail)
                go_wp2_with (at_builtin; refine wpList_append_sees rfl (.tmp 94) (.tmp 99) 61 89 rfl Tryz.underlying61 span_info rfl (by decide) (w.heap.size + 1) _ E.length (sps E) rfl (own_stays hkp3.out.1 ((below_draw (Below.refl _ _) _).alloc (Nat.le_refl _) _)) _ 1 _ rfl (sees_sp (a := ⟨yf, yt, hyf, hyt⟩) (kb_new rfl) rfl rfl) (sps_oneCell _) ?d1 ?d2 ?d3 ?_)
                case d1 => omega
                case d2 => omega
                case d3 => simp; omega
                rintro v7 w7 o7 g7 b7
                have K7 := Lib.hid (hkp3.out.next ((below_draw (Below.refl _ _) _).alloc (Nat.le_refl _) _) o7 b7)
                clear o7 g7 b7
                go_wp2
                go_roundw
                case rel => exact ⟨i + 1, by omega, by go_num, Lib.hid (by rw [HR.out]; exact K7.out)⟩
                case measure => simp [intOf]; omega
              · have s1 : decide ((gt : Int) + 1 < (yf : Int)) = false := decide_eq_false (by omega)
                have HR : Hid (L1 k ++ (⟨gf, gt, hgf, hgt⟩ : Sp) :: L3 (i + 1) = E) := by have := HE2.out; rwa [if_neg h1, List.append_nil] at this
                go_wp2
                go_quiet (fail)
                go_wp2
                go_roundw
                case rel => exact ⟨i + 1, by omega, by go_num, Lib.hid (by rw [HR.out]; exact hkp3.out.draw _)⟩
                case measure => simp [intOf]; omega
            · have r1 : decide (i < k) = false := by simpa using hik
              obtain rfl : i = k := by omega
              have KF := Lib.hid hkp3.out
              clear c0 c1 hlt3 hkp3
              go_wp2
              go_ret
              exact ⟨_, rfl, own_base KF.out.1 (Nat.le_succ _), KF.out.2.1⟩
end Go.Proofs.YtpgdnenkjommfaaGreat.Spans

/- octavoref07: Both, Left, Add, Join, Less: what each answers. Conditions: the slices' cells are spans. -/
namespace Go.Proofs.YtpgdnenkjommfaaGreat.Spans
open Go.RowKit
attribute [local go_sem ↓] Go.wp_at_zero Go.wp_at_succ

set_option maxHeartbeats 4000000 in
theorem both_any {v u : Value} {a b : List Sp} {w : World} (hv : Sps w v a) (hu : Sps w u b) (hf : Fine a) (hb : ∀ x ∈ b, Ok x) (la : a.length ≤ 1100) (lb : b.length ≤ 1100) :
    Calls Tryz.prog 84 #[v, u] w fun e w' => ∃ v', e = .returned v' ∧ w'.ownsRow w.heap.size 89 2 v' (both a b).length (sps (both a b)) ∧ Below w.heap.size w w' := by
  obtain ⟨bo, cb, rfl⟩ := hu.shape
  obtain ⟨n, hn⟩ : ∃ n, n = b.length := ⟨_, rfl⟩
  have HU := Lib.hid hu
  have HN := Lib.hid hn
  have HF := Lib.hid hf
  have HB := Lib.hid hb
  have HLA := Lib.hid la
  have TW := Lib.hid (twin_any hv (by omega))
  rw [← hn] at lb ⊢
  clear hv hu hn hf hb
  go_enter Tryz.func84, Tryz.ntmps84
  go_wp2_with fail
  refine TW.out.mono ?_
  rintro e w1 ⟨v1, rfl, o1, b1⟩
  have O1 : Hid (w1.ownsRow w.heap.size 89 2 v1 (both a (b.take 0)).length (sps (both a (b.take 0)))) := o1
  have B1 := Lib.hid b1
  clear o1 b1
  go_wp2
  go_loopw [5, 6] (fun o i wr => ∃ k : Nat, k ≤ n ∧ i = .int .i64 (k : Int) ∧ Hid (wr.ownsRow w.heap.size 89 2 o (both a (b.take k)).length (sps (both a (b.take k)))) ∧ Hid (Below w.heap.size w wr)) (fun _ i _ => n - (intOf i).toNat)
  case atStart => exact ⟨0, by omega, rfl, O1, B1⟩
  case round =>
    obtain ⟨k, hk, rfl, hown, hbel⟩ := hrel
    by_cases hkn : k < n
    · have q1 : decide (k < n) = true := by simpa using hkn
      obtain ⟨bb, off, rfl, hbb, hx0, hx1⟩ := (HU.out.keeps hbel.out).at k (by rw [← HN.out]; exact hkn)
      have hs := take_snoc b k (by rw [← HN.out]; exact hkn)
      have hok : Ok (b.getD k zsp) := HB.out _ (by rw [List.getD, List.getElem?_eq_getElem (by rw [← HN.out]; exact hkn)]; exact List.getElem_mem _)
      obtain ⟨y, hy⟩ : ∃ y, y = b.getD k zsp := ⟨_, rfl⟩
      rw [← hy] at hx0 hx1 hs hok
      have hsn : both a (b.take (k + 1)) = ins (both a (b.take k)) y := by rw [hs]; exact both_snoc _ _ _
      have hbt : ∀ x ∈ b.take k, Ok x := fun x hx => HB.out x (List.mem_of_mem_take hx)
      have hfine := (both_ok (b := b.take k) HF.out hbt).1
      have hlen : (both a (b.take k)).length ≤ 5000 := by
        have h1 := both_len (b.take k) a
        have h2 := HLA.out
        rw [List.length_take] at h1
        omega
      have W := Lib.hid (with_any (x := y) (Sps.own hown.out) hfine hok hlen)
      have HSN := Lib.hid hsn
      obtain ⟨yf, yt, hyf, hyt⟩ := y
      simp only at hx0 hx1 W
      have q2 : (0 : Int) ≤ (k : Int) := by omega
      have q3 : (k : Int) < (n : Int) := by omega
      clear hy hs hsn hbt hfine hlen hok
      go_wp2_with fail
      refine W.out.mono ?_
      rintro e w2 ⟨v2, rfl, o2, b2⟩
      have O2 := Lib.hid (own_base o2 hbel.out.size)
      have B2 := Lib.hid (bt hbel.out b2)
      clear o2 b2
      go_wp2
      go_roundw
      case rel => exact ⟨k + 1, by omega, by go_num, Lib.hid (by rw [HSN.out]; exact O2.out), B2⟩
      case measure => simp [intOf]; omega
    · have q1 : decide (k < n) = false := by simpa using hkn
      have hkk : b.take k = b := List.take_of_length_le (by have := HN.out; omega)
      rw [hkk] at hown
      clear hkk
      go_wp2
      go_ret
      exact ⟨_, rfl, hown.out, hbel.out⟩

end Go.Proofs.YtpgdnenkjommfaaGreat.Spans

/- octavoref08: Many, Count, Great, put, told, Both, Left, Join, Less: what each answers. Conditions: the slices' cells are replicas' spans. -/
namespace Go.Proofs.YtpgdnenkjommfaaGreat.Clocks
open Go.RowKit Go.Proofs.YtpgdnenkjommfaaGreat.Spans
attribute [local go_sem ↓] Go.wp_at_zero Go.wp_at_succ

/-- Some replica has more spans than any machine can hold. -/
def Huge (c : List Tm) : Prop := ∃ x ∈ c, 9000000000000000000 < x.2.length
/-- What Great answers. -/
def Grt (c : List Tm) (e : Ending) : Prop := ∃ g, e = .returned (.bool g) ∧ (g = false → c.length ≤ 300 ∧ (tot c ≤ 300 ∨ Huge c))
theorem Grt.yes {c : List Tm} : Grt c (.returned (.bool true)) := ⟨true, rfl, fun h => by cases h⟩
theorem Grt.no {c : List Tm} (h1 : c.length ≤ 300) (h2 : tot c ≤ 300 ∨ Huge c) : Grt c (.returned (.bool false)) := ⟨false, rfl, fun _ => ⟨h1, h2⟩⟩

/-! ### Two together -/
theorem hold_grown {w w' : World} {base : Nat} : ∀ {cs : List Value} {c : List Tm} {row : Option Nat}, HoldO w base cs c → w.grownBy w' row →
    (∀ j cur, row = some j → w.heap[j]? ≠ some (.cells cur 89 (0, 0))) → HoldO w' base cs c
  | [], [], _, _, _, _ => trivial
  | _ :: b :: _, _ :: _, row, h, hg, hr => by
    refine ⟨h.1, h.2.1, h.2.2.1.kept hg ?_, hold_grown h.2.2.2 hg hr⟩
    rcases h.2.2.1.2 with ⟨h0, _⟩ | ⟨g, cap, cur, h0, _, hgb, _⟩
    · rw [h0]; exact .inl rfl
    · refine .inr (fun e => ?_)
      rw [h0] at e
      exact hr g cur e.symm hgb
theorem times_row {w : World} {base n : Nat} {v : Value} {cs : List Value} (h : w.ownsRow base 63 2 v n cs) : ∀ j cur, v.ownBlock = some j → w.heap[j]? ≠ some (.cells cur 89 (0, 0)) := by
  intro j cur hj he
  rcases h.2 with ⟨h0, _⟩ | ⟨g, cap, cur2, h0, _, hgb, _⟩
  · rw [h0] at hj; cases hj
  · rw [h0] at hj
    simp only [Value.ownBlock, Option.some.injEq] at hj
    subst hj
    rw [hgb] at he
    simp at he
theorem own_kept_span {w w' : World} {base B n : Nat} {u v : Value} {cs ds : List Value} {m : Nat} (h : w.ownsRow B 89 2 u n cs) (hv : w.ownsRow base 63 2 v m ds) (hg : w.grownBy w' v.ownBlock) : w'.ownsRow B 89 2 u n cs := by
  refine h.kept hg ?_
  rcases h.2 with ⟨h0, _⟩ | ⟨g, cap, cur, h0, _, hgb, _⟩
  · rw [h0]; exact .inl rfl
  · refine .inr (fun e => ?_)
    rw [h0] at e
    exact times_row hv g cur e.symm hgb
theorem HoldO.lower {w : World} {b b' : Nat} (hb : b' ≤ b) : ∀ {cs : List Value} {c : List Tm}, HoldO w b cs c → HoldO w b' cs c
  | [], [], _ => trivial
  | _ :: _ :: _, _ :: _, h => ⟨h.1, h.2.1, own_base h.2.2.1 hb, HoldO.lower hb h.2.2.2⟩
theorem OwnC.nil (w : World) (base : Nat) : OwnC w base (.slice none 0 0) [] := ⟨[], World.ownsRow_nil _ _ _ _, trivial⟩
theorem OwnC.base {w : World} {b b' : Nat} {v : Value} {c : List Tm} (h : OwnC w b v c) (hb : b' ≤ b) : OwnC w b' v c := by
  obtain ⟨cs, h1, h2⟩ := h
  exact ⟨cs, own_base h1 hb, HoldO.lower hb h2⟩
end Go.Proofs.YtpgdnenkjommfaaGreat.Clocks
