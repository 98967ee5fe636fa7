/- What Open answers. Conditions: none. -/
import Derived.Test.YtmjdpmkkcakbdaaFrameWrap
import Derived.Deep.RegionWith
import Derived.Deep.CutRange
import Derived.Deep.QuietTactic
import Derived.BigQuiet
namespace Go.Proofs.Ytmjdpmkkcakbdaa.Frame
open Go.RowKit Num Crc

/-- What body answers. -/
def Bodied (f : List UInt8) (a b : Int) (ok : Bool) : Prop :=
  (ok = true ∧ ∃ x s, Shaped f x s ∧ a = ((1 + (enc x.length).length : Nat) : Int) ∧ b = ((1 + (enc x.length).length + x.length : Nat) : Int)) ∨ (ok = false ∧ ¬ IsFrame f)

/-- Bytes without the first one. -/
theorem reads_tail {w : World} {b off n cap : Nat} {c : UInt8} {t : List UInt8} (h : Reads w (.slice (some ⟨b, off, none⟩) n cap) (c :: t)) :
    (cap = 1 → Reads w (.slice (some ⟨b, off, none⟩) t.length 0) t) ∧ (cap ≠ 1 → Reads w (.slice (some ⟨b, off + 1, none⟩) t.length (cap - 1)) t) := by
  obtain ⟨h1, ao, cp, he, h2, h3, h4, h5⟩ := h
  obtain ⟨rfl, rfl, rfl⟩ := Value.slice.inj he
  have hl : (c :: t).length = t.length + 1 := rfl
  rw [hl] at h1 h2
  constructor
  · rintro rfl
    obtain rfl : t = [] := List.length_eq_zero_iff.1 (by omega)
    exact ⟨by simp, _, _, rfl, by simp, by simp, by simp, .inl rfl⟩
  · intro hc
    refine ⟨by omega, _, _, rfl, by omega, by omega, by simp, .inr ⟨b, off + 1, rfl, ?_, ?_⟩⟩
    · rcases h5 with h5 | ⟨b', off', hb, hlt, _⟩
      · cases h5
      · cases hb; exact hlt
    · intro j hj
      rcases h5 with h5 | ⟨b', off', hb, hlt, hcell⟩
      · cases h5
      · cases hb
        have := hcell (j + 1) (by rw [hl]; omega)
        rw [show off + 1 + j = off + (j + 1) by omega, this]
        simp [List.getD]

theorem body_any {w : World} {v : Value} {f : List UInt8} (hr : Reads w v f) :
    Calls Try.prog 16 #[v] w fun e w' => ∃ a b ok, e = .returned (.tuple #[.int .i64 a, .int .i64 b, .bool ok]) ∧ Bodied f a b ok ∧ w = w' := by
  obtain ⟨ao, cap, rfl⟩ := hr.shape
  have HR := Lib.hid hr
  rcases asked f with rfl | ⟨c, t, rfl, hc⟩ | ⟨t, rfl, hg⟩ | ⟨t, m, rfl, hg, hm, h⟩ | ⟨t, x, s, rfl, hg, hsh⟩
  · clear hr
    go_enter Try.func16, Try.ntmps16
    go_wp2
    go_ret3
    exact ⟨_, _, _, rfl, .inr ⟨rfl, no_nil⟩, rfl⟩
  · obtain ⟨b, off, rfl, _, h0⟩ := hr.at 0 (by simp)
    have hl : (c :: t).length = t.length + 1 := rfl
    have t1 : (((c.toNat : Nat) : Int) != 70) = true := by
      rw [bne_iff_ne]; intro h'
      exact hc (by have : c.toNat = 70 := by omega
                   exact UInt8.toNat_inj.1 this)
    have h0' : w.cell? ⟨b, off, none⟩ = some (.int .u8 (c.toNat : Int)) := h0
    clear hr h0
    go_enter Try.func16, Try.ntmps16
    go_wp2
    go_ret3
    exact ⟨_, _, _, rfl, .inr ⟨rfl, not_first hc⟩, rfl⟩
  · obtain ⟨b, off, rfl, _, h0⟩ := hr.at 0 (by simp)
    have hl : (70 :: t : List UInt8).length = t.length + 1 := rfl
    have t0 : ((t.length : Int) + 1 == 0) = false := by rw [beq_eq_false_iff_ne]; omega
    have h0' : w.cell? ⟨b, off, none⟩ = some (.int .u8 70) := h0
    have hcp := (Reads.cap hr).2.1
    obtain ⟨k1, k2⟩ := reads_tail hr
    have HG := Lib.hid hg
    have hno := Lib.hid (not_read (c := 70) hg)
    by_cases hc1 : cap = 1
    · have K := Lib.hid (k1 hc1)
      clear hr h0 hg k1 k2
      subst hc1
      go_enter Try.func16, Try.ntmps16
      go_wp2_with fail
      refine (get_reads K.out HG.out).mono ?_
      rintro e w1 ⟨rfl, rfl⟩
      go_wp2
      go_ret3
      exact ⟨_, _, _, rfl, .inr ⟨rfl, hno.out⟩, rfl⟩
    · have K := Lib.hid (k2 hc1)
      clear hr h0 hg k1 k2
      go_enter Try.func16, Try.ntmps16
      go_wp2_with fail
      refine (get_reads K.out HG.out).mono ?_
      rintro e w1 ⟨rfl, rfl⟩
      go_wp2
      go_ret3
      exact ⟨_, _, _, rfl, .inr ⟨rfl, hno.out⟩, rfl⟩
  · obtain ⟨b, off, rfl, _, h0⟩ := hr.at 0 (by simp)
    have hl : (70 :: t : List UInt8).length = t.length + 1 := rfl
    have t0 : ((t.length : Int) + 1 == 0) = false := by rw [beq_eq_false_iff_ne]; omega
    have h0' : w.cell? ⟨b, off, none⟩ = some (.int .u8 70) := h0
    have hcp := (Reads.cap hr).2.1
    have hk := enc_len m
    have hc1 : cap ≠ 1 := by
      rintro rfl
      have : t = [] := List.length_eq_zero_iff.1 (by omega)
      subst this
      have h2 := (Prod.mk.inj (Prod.mk.inj hg).2).2
      omega
    have K := Lib.hid ((reads_tail hr).2 hc1)
    have hno := Lib.hid (not_shaped hg h)
    have hm2 : m ≤ 1099511627776 := hm
    obtain ⟨k, hkk⟩ : ∃ k, k = (enc m).length := ⟨_, rfl⟩
    rw [← hkk] at hg hk h
    have HG := Lib.hid hg
    have hlen := hr.1
    clear hr h0 hg hkk
    by_cases hm1 : 16384 < m
    · have t1 : decide ((16384 : Int) < (m : Int)) = true := by simp; omega
      have t2 : decide (16384 < m) = true := by simpa using hm1
      clear h
      go_enter Try.func16, Try.ntmps16
      go_wp2_with fail
      refine (get_reads K.out HG.out).mono ?_
      rintro e w1 ⟨rfl, rfl⟩
      go_wp2
      go_ret3
      exact ⟨_, _, _, rfl, .inr ⟨rfl, hno.out⟩, rfl⟩
    · have t1 : decide ((16384 : Int) < (m : Int)) = false := by simp; omega
      have t2 : decide (16384 < m) = false := by simpa using hm1
      have h' : 1 + k + m + 4 ≠ t.length + 1 := by
        rcases h with h | h
        · exact absurd h hm1
        · exact h
      have t3 : (1 + (k : Int) + (m : Int) + 4 == (t.length : Int) + 1) = false := by rw [beq_eq_false_iff_ne]; omega
      clear h h'
      go_enter Try.func16, Try.ntmps16
      go_wp2_with fail
      refine (get_reads K.out HG.out).mono ?_
      rintro e w1 ⟨rfl, rfl⟩
      go_wp2
      go_ret3
      exact ⟨_, _, _, rfl, .inr ⟨rfl, hno.out⟩, rfl⟩
  · obtain ⟨b, off, rfl, _, h0⟩ := hr.at 0 (by simp)
    have hl : (70 :: t : List UInt8).length = t.length + 1 := rfl
    have t0 : ((t.length : Int) + 1 == 0) = false := by rw [beq_eq_false_iff_ne]; omega
    have h0' : w.cell? ⟨b, off, none⟩ = some (.int .u8 70) := h0
    have hcp := (Reads.cap hr).2.1
    have hk := enc_len x.length
    have hfl := shaped_len hsh
    have hc1 : cap ≠ 1 := by
      rintro rfl
      have : t = [] := List.length_eq_zero_iff.1 (by omega)
      subst this
      have h2 := (Prod.mk.inj (Prod.mk.inj hg).2).2
      omega
    have K := Lib.hid ((reads_tail hr).2 hc1)
    have hm2 := hsh.1
    have HH : Hid (Bodied (70 :: t) ((1 + (enc x.length).length : Nat) : Int) ((1 + (enc x.length).length + x.length : Nat) : Int) true) := .inl ⟨rfl, x, s, hsh, rfl, rfl⟩
    obtain ⟨k, hkk⟩ : ∃ k, k = (enc x.length).length := ⟨_, rfl⟩
    obtain ⟨m, hmm⟩ : ∃ m, m = x.length := ⟨_, rfl⟩
    rw [← hmm] at hkk
    rw [← hmm, ← hkk] at hg hk hfl HH
    rw [← hmm] at hm2
    have HG := Lib.hid hg
    have hlen := hr.1
    have t1 : decide ((16384 : Int) < (m : Int)) = false := by simp; omega
    have t2 : decide (16384 < m) = false := by simpa using hm2
    have t3 : (1 + (k : Int) + (m : Int) + 4 == (t.length : Int) + 1) = true := by rw [beq_iff_eq]; omega
    clear hr h0 hg hkk hmm hsh hfl
    go_enter Try.func16, Try.ntmps16
    go_wp2_with fail
    refine (get_reads K.out HG.out).mono ?_
    rintro e w1 ⟨rfl, rfl⟩
    go_wp2
    go_ret3
    exact ⟨_, _, _, rfl, by simpa using HH.out, rfl⟩
/-- A piece of bytes, not at the very end of their row. -/
theorem reads_piece {w : World} {b off n cap : Nat} {xs : List UInt8} (h : Reads w (.slice (some ⟨b, off, none⟩) n cap) xs) (k j : Nat) (hk : k ≤ j) (hj : j ≤ n) :
    Reads w (.slice (some ⟨b, off + k, none⟩) (j - k) (cap - k)) ((xs.take j).drop k) := by
  obtain ⟨h1, ao, cp, he, h2, h3, h4, h5⟩ := h
  obtain ⟨rfl, rfl, rfl⟩ := Value.slice.inj he
  have hl : ((xs.take j).drop k).length = j - k := by simp; omega
  refine ⟨by omega, _, _, by rw [hl], by omega, by omega, by simp, ?_⟩
  by_cases hx : xs = []
  · left; rw [hx]; simp
  · right
    rcases h5 with h5 | ⟨b', off', hb, hlt, hcell⟩
    · exact absurd h5 hx
    · cases hb
      refine ⟨b, off + k, rfl, hlt, fun i hi => ?_⟩
      rw [hl] at hi
      have := hcell (k + i) (by omega)
      rw [show off + k + i = off + (k + i) by omega, this]
      simp [List.getD, List.getElem?_drop, show k + i < j by omega]

/-- Four cells of nought, laid before calls. -/
theorem zeros_keep {X w2 : World} {g : Nat} (hb : Below X.heap.size X w2) (hx : X.heap[g]? = some (.cells #[.int .u8 0, .int .u8 0, .int .u8 0, .int .u8 0] 31)) :
    w2.cell? ⟨g, 0, none⟩ = some (.int .u8 0) ∧ w2.cell? ⟨g, 1, none⟩ = some (.int .u8 0) ∧ w2.cell? ⟨g, 2, none⟩ = some (.int .u8 0) ∧ w2.cell? ⟨g, 3, none⟩ = some (.int .u8 0) ∧
    w2.frozen? ⟨g, 0, none⟩ = false ∧ w2.frozen? ⟨g, 1, none⟩ = false ∧ w2.frozen? ⟨g, 2, none⟩ = false ∧ w2.frozen? ⟨g, 3, none⟩ = false ∧
    Hid (w2.heap[g]? = some (.cells #[.int .u8 0, .int .u8 0, .int .u8 0, .int .u8 0] 31)) := by
  have h : w2.heap[g]? = some (.cells #[.int .u8 0, .int .u8 0, .int .u8 0, .int .u8 0] 31) := (hb.block g (Array.getElem?_eq_some_iff.1 hx).1).trans hx
  refine ⟨?_, ?_, ?_, ?_, ?_, ?_, ?_, ?_, h⟩
  all_goals first | (rw [cell_of_row _ _ _ _ _ _ h]; rfl) | (simp [World.frozen?, h])

theorem stored4 {w w2 : World} {g : Nat} {y0 y1 y2 y3 : UInt8} (hW : Hid (w2.heap[g]? = some (.cells #[.int .u8 0, .int .u8 0, .int .u8 0, .int .u8 0] 31))) (hg : w.heap.size ≤ g) (hb : Below w.heap.size w w2) :
    ∃ g', Value.pointer (some ⟨g, 0, none⟩) = .pointer (some ⟨g', 0, none⟩) ∧
      Hid (((((w2.setCell ⟨g, 0, none⟩ (.int .u8 (y0.toNat : Int))).setCell ⟨g, 1, none⟩ (.int .u8 (y1.toNat : Int))).setCell ⟨g, 2, none⟩ (.int .u8 (y2.toNat : Int))).setCell ⟨g, 3, none⟩ (.int .u8 (y3.toNat : Int))).heap[g']? = some (.cells #[.int .u8 (y0.toNat : Int), .int .u8 (y1.toNat : Int), .int .u8 (y2.toNat : Int), .int .u8 (y3.toNat : Int)] 31)) ∧
      Below w.heap.size w ((((w2.setCell ⟨g, 0, none⟩ (.int .u8 (y0.toNat : Int))).setCell ⟨g, 1, none⟩ (.int .u8 (y1.toNat : Int))).setCell ⟨g, 2, none⟩ (.int .u8 (y2.toNat : Int))).setCell ⟨g, 3, none⟩ (.int .u8 (y3.toNat : Int))) := by
  refine ⟨g, rfl, ?_, ?_⟩
  · have h0 := heap_setCell_same w2 g 0 _ _ (.int .u8 (y0.toNat : Int)) hW.out
    have h1 := heap_setCell_same _ g 1 _ _ (.int .u8 (y1.toNat : Int)) h0
    have h2 := heap_setCell_same _ g 2 _ _ (.int .u8 (y2.toNat : Int)) h1
    have h3 := heap_setCell_same _ g 3 _ _ (.int .u8 (y3.toNat : Int)) h2
    exact h3
  · exact (((hb.setCell (p := ⟨g, 0, none⟩) hg _).setCell (p := ⟨g, 1, none⟩) hg _).setCell (p := ⟨g, 2, none⟩) hg _).setCell (p := ⟨g, 3, none⟩) hg _

/-- What Open answers. -/
def Opened (f : List UInt8) (v : Value) (c : Int) (base : Nat) (w : World) : Prop :=
  (∃ x : List UInt8, x.length ≤ 16384 ∧ f = framed x ∧ c = 0 ∧ w.ownsRow base 5 1 v x.length (bs x)) ∨ (¬ IsFrame f ∧ c = 30 ∧ v = .slice none 0 0)

set_option maxHeartbeats 1000000 in
theorem open_any {w : World} {v : Value} {f : List UInt8} (hr : Reads w v f) :
    Calls Try.prog 10 #[v] w fun e w' => ∃ u c, e = .returned (.tuple #[u, .int .i64 c]) ∧ Opened f u c w.heap.size w' ∧ Below w.heap.size w w' := by
  obtain ⟨ao, cap, rfl⟩ := hr.shape
  have HR := Lib.hid hr
  clear hr
  go_enter Try.func10, Try.ntmps10
  go_wp2_with fail
  refine (body_any HR.out).mono ?_
  rintro e w1 ⟨a, b, ok, rfl, hbd, rfl⟩
  rcases hbd with ⟨rfl, x, s, hsh, rfl, rfl⟩ | ⟨rfl, hno⟩
  · obtain ⟨F, hF⟩ : ∃ F, F = 1 + (enc x.length).length := ⟨_, rfl⟩
    have hfl := shaped_len hsh
    have ht := shaped_take hsh
    have hd := shaped_drop hsh
    have hx := shaped_body hsh
    have hfr := shaped_frame hsh
    rw [← hF] at hfl ht hd hx
    rw [← hF]
    have hk := enc_len x.length
    have hF1 : 1 ≤ F := by omega
    have hx16 := hsh.1
    obtain ⟨T, hT⟩ : ∃ T, T = F + x.length := ⟨_, rfl⟩
    rw [← hT] at hfl ht hd
    rw [← hT]
    obtain ⟨m, hm⟩ : ∃ m, m = x.length := ⟨_, rfl⟩
    have hTm : T = F + m := by rw [hm]; exact hT
    have hm16 : m ≤ 16384 := by rw [hm]; exact hx16
    obtain ⟨b, off, rfl, _, _⟩ := HR.out.at 0 (by omega)
    obtain ⟨_, hcap, _⟩ := HR.out.cap
    have hR := HR.out
    have rp : Reads w (.slice (some ⟨b, off, none⟩) T cap) (pre x) := by rw [← ht]; exact hR.take (by omega)
    have rs : Reads w (.slice (some ⟨b, off + T, none⟩) (f.length - T) (cap - T)) s := by
      have h := reads_piece hR T f.length (by omega) (Nat.le_refl _)
      rw [List.take_length, hd] at h; exact h
    have rx : Reads w (.slice (some ⟨b, off + F, none⟩) m (cap - F)) x := by
      have h := reads_piece hR F T (by omega) (by omega)
      rw [show T - F = m by omega, List.drop_take, show T - F = m by omega, hm, hx] at h
      rw [hm]; exact h
    obtain ⟨n, hn⟩ : ∃ n, n = f.length := ⟨_, rfl⟩
    have hnT : n = T + 4 := by rw [hn]; exact hfl
    rw [← hn] at rs hcap ⊢
    have i1 : (T : Int) ≤ (cap : Int) := by omega
    have i2 : (F : Int) ≤ (T : Int) := by omega
    have i3 : (T : Int) ≤ (n : Int) := by omega
    have i4 : ¬ cap = T := by omega
    have i5 : ¬ cap = F := by omega
    have e1 : n - T = 4 := by omega
    have e2 : T - F = m := by omega
    obtain ⟨R, hRR⟩ : ∃ R, R = row entry := ⟨_, rfl⟩
    obtain ⟨y0, y1, y2, y3, hy⟩ : ∃ y0 y1 y2 y3, le4 (sumT entry (pre x)) = [y0, y1, y2, y3] := ⟨_, _, _, _, rfl⟩
    have HT : Hid (∀ w, Calls Try.prog 15 #[] w fun e w' => e = .returned (.agg R) ∧ Below w.heap.size w w') := fun w => by rw [hRR]; exact table_any w
    have HS : Hid (∀ (w : World) (v : Value), Reads w v (pre x) → Calls Try.prog 14 #[.agg R, v] w fun e w' => e = .returned (.agg #[.int .u8 (y0.toNat : Int), .int .u8 (y1.toNat : Int), .int .u8 (y2.toNat : Int), .int .u8 (y3.toNat : Int)]) ∧ Below w.heap.size w w') := fun w v h => by
      have h2 := sumOf_any entry tab_lt h
      rw [← hRR, hy] at h2
      exact h2
    rw [e1] at rs
    have RP := Lib.hid rp
    have RS := Lib.hid rs
    have RX := Lib.hid rx
    have HFr := Lib.hid hfr
    have HSh := Lib.hid hsh
    have HY := Lib.hid hy
    have HM := Lib.hid hm
    have hz := four_zero
    clear rp rs rx hfr hsh hy hRR hR ht hd hx hF hT hm hn hfl hk hx16 hTm hnT
    go_upto_region 4 with fail
    go_cut [7] from 16 to 20 (fun p wx => ∃ g, p = .pointer (some ⟨g, 0, none⟩) ∧ Hid (wx.heap[g]? = some (.cells #[.int .u8 (y0.toNat : Int), .int .u8 (y1.toNat : Int), .int .u8 (y2.toNat : Int), .int .u8 (y3.toNat : Int)] 31)) ∧ Below w.heap.size w wx)
    case first =>
      go_region_with (first | (go_at_call 15; refine (HT.out _).mono ?_; rintro e w1 ⟨rfl, b1⟩) | (go_at_call 14; refine (HS.out _ _ (RP.out.keeps ?hbs)).mono ?_; (case hbs => (repeat refine Below.drew ?_); first | exact b1 | exact ((Below.refl _ _).drew).trans b1 | exact b1.alloc b1.size _ | exact (((Below.refl _ _).drew).trans b1).alloc b1.size _ | exact ((Below.refl _ _).alloc (Nat.le_refl _) _).trans (b1.mono (by simp)) | exact (((Below.refl _ _).alloc (Nat.le_refl _) _).drew).trans (b1.mono (by simp))); rintro e w2 ⟨rfl, b2⟩; first | (have h9 := zeros_keep b2 (heap_alloc_new w1 _); obtain ⟨c0, c1, c2, c3, f0, f1, f2, f3, hW⟩ := h9) | (have h9 := zeros_keep (bt b1 b2) (heap_alloc_new w _); obtain ⟨c0, c1, c2, c3, f0, f1, f2, f3, hW⟩ := h9) | skip))
      all_goals (go_wp2_with fail; go_meet)
      · have B1 : Below w.heap.size w w1 := (Below.refl w.heap.size w).drew.trans b1
        have B2 := bt B1 b2
        exact ⟨_, rfl, heap_alloc_new w2 _, B2.alloc B2.size _⟩
      · have B1 : Below w.heap.size w w1 := (Below.refl w.heap.size w).drew.trans b1
        have B2 : Below w.heap.size w w2 := (B1.alloc B1.size _).trans (b2.mono (by have := B1.size; simp; omega))
        exact stored4 hW B1.size B2
      · have B0 : Below w.heap.size w (w.alloc (.cells #[.int .u8 0, .int .u8 0, .int .u8 0, .int .u8 0] 31)).drew := ((Below.refl w.heap.size w).alloc (Nat.le_refl _) _).drew
        have B1 : Below w.heap.size w w1 := B0.trans (b1.mono B0.size)
        exact stored4 hW (Nat.le_refl _) (bt B1 b2)
    case rest =>
      obtain ⟨g, rfl, hcell, hbc⟩ := hcut
      have RSc := Lib.hid (RS.out.keeps hbc)
      have RXc := Lib.hid (RX.out.keeps hbc)
      have RYc : Hid (Reads wc (.slice (some ⟨g, 0, none⟩) 4 4) [y0, y1, y2, y3]) := reads4 (l := [y0, y1, y2, y3]) hcell.out (by simp)
      obtain ⟨q, hq⟩ : ∃ q, q = (s == [y0, y1, y2, y3]) := ⟨_, rfl⟩
      have HE : Hid (∀ (W : World) (u v : Value), Reads W u s → Reads W v [y0, y1, y2, y3] → Calls Try.prog 17 #[u, v] W fun e w' => e = .returned (.bool q) ∧ w' = W) := fun W u v h1 h2 => by rw [hq]; exact (equal_any h1 h2).mono fun _ _ ⟨h3, h4⟩ => ⟨h3, h4.symm⟩
      have HQ := Lib.hid hq
      clear hq hz RS RX RP HT HS hcell
      cases q with
      | false =>
        go_wp2_with fail
        go_quiet (first | (go_at_call 17; refine Calls.quiet_of_same (HE.out _ _ _ ?r1 ?r2); (case r1 => exact RSc.out); (case r2 => exact RYc.out)))
        go_wp2_with fail
        go_ret2
        refine ⟨_, _, rfl, .inr ⟨?_, rfl, rfl⟩, hbc.trans ⟨rfl, rfl, rfl, Nat.le_refl _, fun _ _ => rfl⟩⟩
        intro hf
        have h2 := HFr.out.1 hf
        have h3 := HQ.out
        rw [h2, HY.out] at h3
        simp at h3
      | true =>
        have RXw : Hid (∀ nq, Reads (wc.drewN nq) (.slice (some ⟨b, off + F, none⟩) m (cap - F)) x) := fun nq => RXc.out
        have hmx : x.length ≤ 140737488355328 := by rw [← HM.out]; omega
        have HX := Lib.hid hmx
        clear hmx
        go_wp2_with fail
        go_quiet (first | (go_at_call 17; refine Calls.quiet_of_same (HE.out _ _ _ ?r1 ?r2); (case r1 => exact RSc.out); (case r2 => exact RYc.out)))
        go_wp2_with fail
        refine (clone_any (RXw.out nq) HX.out).mono ?_
        rintro e w2 ⟨v, rfl, own2, b2⟩
        have HO := Lib.hid own2
        have hb : Below w.heap.size w w2 := (hbc.trans (c := wc.drewN nq) ⟨rfl, rfl, rfl, Nat.le_refl _, fun _ _ => rfl⟩).trans (b2.mono hbc.size)
        clear own2 b2
        go_wp2_with fail
        go_ret2
        refine ⟨_, _, rfl, .inl ⟨x, by rw [← HM.out]; omega, ?_, rfl, ?_⟩, hb⟩
        · have h3 := HQ.out
          have h4 : s = [y0, y1, y2, y3] := by simpa using h3.symm
          have h5 := HSh.out.2.2
          rw [h5, h4, ← HY.out]; rfl
        · obtain ⟨h1, h2⟩ := HO.out
          exact ⟨h1, h2.imp_right fun ⟨g, cap, cur, hv, hg, r⟩ => ⟨g, cap, cur, hv, Nat.le_trans hbc.size hg, r⟩⟩
  · go_wp2_with fail
    go_ret2
    exact ⟨_, _, rfl, .inr ⟨hno, rfl, rfl⟩, Below.refl _ _⟩
end Go.Proofs.Ytmjdpmkkcakbdaa.Frame
