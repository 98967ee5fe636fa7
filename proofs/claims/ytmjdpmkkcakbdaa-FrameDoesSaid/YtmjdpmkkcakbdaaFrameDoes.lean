/- FrameDoes answers true, and changes nothing that was there. Conditions: the slices' cells are bytes. -/
import Derived.Test.YtmjdpmkkcakbdaaFrameRefOpen
import Derived.Test.YtmjdpmkkcakbdaaFrameNames
namespace Go.Proofs.Ytmjdpmkkcakbdaa.Frame
open Go.RowKit Num Crc

/-- What Wrap answers, as bytes and a code. -/
def wl (b : List UInt8) : List UInt8 := if b.length ≤ 16384 then framed b else []
def wc (b : List UInt8) : Int := if b.length ≤ 16384 then 0 else 4
/-- What Open answers, as bytes and a code. -/
noncomputable def ol (f : List UInt8) : List UInt8 := open Classical in if h : IsFrame f then Classical.choose h else []
noncomputable def oc (f : List UInt8) : Int := open Classical in if IsFrame f then 0 else 30
theorem wl_len (b : List UInt8) : (wl b).length ≤ 20000 := by
  unfold wl
  split
  · have := framed_len b
    have := enc_len b.length
    omega
  · simp
theorem ol_len (f : List UInt8) : (ol f).length ≤ 16384 := by
  unfold ol
  split
  · rename_i h
    exact (Classical.choose_spec h).1
  · simp

/-- An answer that the call owns: a slice of bytes and a code. -/
def Ans (L : List UInt8) (c : Int) (e : Ending) (w w' : World) : Prop :=
  ∃ ao cap, e = .returned (.tuple #[.slice ao L.length cap, .int .i64 c]) ∧ w'.ownsRow w.heap.size 5 1 (.slice ao L.length cap) L.length (bs L) ∧ Below w.heap.size w w'
theorem wrapped_ans {b : List UInt8} {w w' : World} {u : Value} {c : Int} (h : Wrapped b u c w.heap.size w') (hb : Below w.heap.size w w') : Ans (wl b) (wc b) (.returned (.tuple #[u, .int .i64 c])) w w' := by
  rcases h with ⟨h1, rfl, own⟩ | ⟨h1, rfl, rfl⟩
  · obtain ⟨ao, cap, rfl⟩ := own_shape own
    unfold wl wc
    rw [if_pos h1, if_pos h1]
    exact ⟨ao, cap, rfl, own, hb⟩
  · unfold wl wc
    rw [if_neg (by omega), if_neg (by omega)]
    exact ⟨none, 0, rfl, World.ownsRow_nil _ _ _ _, hb⟩
theorem opened_ans {f : List UInt8} {w w' : World} {u : Value} {c : Int} (h : Opened f u c w.heap.size w') (hb : Below w.heap.size w w') : Ans (ol f) (oc f) (.returned (.tuple #[u, .int .i64 c])) w w' := by
  rcases h with ⟨x, hx, rfl, rfl, own⟩ | ⟨h1, rfl, rfl⟩
  · have hf : IsFrame (framed x) := ⟨x, hx, rfl⟩
    have he : ol (framed x) = x := by
      unfold ol
      rw [dif_pos hf]
      obtain ⟨h1, h2⟩ := Classical.choose_spec hf
      exact (framed_inj hx h1 h2).symm
    have hc : oc (framed x) = 0 := by unfold oc; rw [if_pos hf]
    rw [he, hc]
    obtain ⟨ao, cap, rfl⟩ := own_shape own
    exact ⟨ao, cap, rfl, own, hb⟩
  · have he : ol f = [] := by unfold ol; rw [dif_neg h1]
    have hc : oc f = 30 := by unfold oc; rw [if_neg h1]
    rw [he, hc]
    exact ⟨none, 0, rfl, World.ownsRow_nil _ _ _ _, hb⟩

/-- A row stays while another block is written. -/
theorem own_other {w : World} {base : Nat} {e : TypeId} {v : Value} {n : Nat} {xs : List Value} (h : w.ownsRow base e 1 v n xs) {a : Addr} (ha : a.block < base) (u : Value) : (w.setCell a u).ownsRow base e 1 v n xs := ownsRow_setCell_below h ha u
theorem own_some' {w : World} {base : Nat} {e : TypeId} {ao : Option Addr} {cap n : Nat} {xs : List Value} (h : w.ownsRow base e 1 (.slice ao n cap) n xs) (hn : 0 < n) : ∃ g, ao = some ⟨g, 0, none⟩ ∧ base ≤ g ∧ g < w.heap.size := by
  have hl := h.lt
  obtain ⟨_, hcase⟩ := h
  rcases hcase with ⟨hv, h0⟩ | ⟨g, c2, cur, hv, hb, _⟩
  · omega
  · obtain ⟨rfl, -, rfl⟩ := Value.slice.inj hv
    exact ⟨g, rfl, hb, (hl g rfl).2⟩
theorem inc8 (x : UInt8) : IntKind.u8.wrap ((x.toNat : Int) + 1) = ((x + 1).toNat : Int) := by
  have h := UInt8.toNat_lt x
  have e : (x + 1).toNat = (x.toNat + 1) % 256 := by rw [UInt8.toNat_add]; rfl
  rw [e]
  simp [IntKind.wrap, IntKind.bits, IntKind.signed]
theorem bs_set' (xs : List UInt8) (j : Nat) (y : UInt8) : bs (xs.set j y) = (bs xs).set j (.int .u8 (y.toNat : Int)) := by simp [bs, List.map_set]

theorem does_out (ao : Option Addr) (ca : Nat) (xs : List UInt8) (bo : Option Addr) (cb : Nat) (ys : List UInt8) (w : World) (h : 20000 < xs.length ∨ 20000 < ys.length) :
    Calls Try.prog 4 #[.slice ao xs.length ca, .slice bo ys.length cb] w fun e w' => e = .returned (.bool true) ∧ Below w.heap.size w w' := by
  by_cases h1 : 20000 < xs.length
  · have t1 : decide ((20000 : Int) < (xs.length : Int)) = true := by simp; omega
    have t2 : decide (20000 < xs.length) = true := by simpa using h1
    clear h
    go_enter Try.func4, Try.ntmps4
    go_wp2
    go_ret
    exact ⟨rfl, Below.refl _ _⟩
  · have t1 : decide ((20000 : Int) < (xs.length : Int)) = false := by simp; omega
    have t2 : decide (20000 < xs.length) = false := by simpa using h1
    have t3 : decide ((20000 : Int) < (ys.length : Int)) = true := by simp; omega
    have t4 : decide (20000 < ys.length) = true := by simp; omega
    clear h
    go_enter Try.func4, Try.ntmps4
    go_wp2
    go_ret
    exact ⟨rfl, Below.refl _ _⟩

set_option maxHeartbeats 4000000 in
theorem does_walk (ao : Option Addr) (ca : Nat) (xs : List UInt8) (bo : Option Addr) (cb : Nat) (ys : List UInt8) (w : World) (ha : Reads w (.slice ao xs.length ca) xs) (hb : Reads w (.slice bo ys.length cb) ys) :
    Calls Try.prog 4 #[.slice ao xs.length ca, .slice bo ys.length cb] w fun e w' => e = .returned (.bool true) ∧ Below w.heap.size w w' := by
  by_cases h : 20000 < xs.length ∨ 20000 < ys.length
  · exact does_out ao ca xs bo cb ys w h
  have h1 : ¬ 20000 < xs.length := fun h' => h (.inl h')
  have h2 : ¬ 20000 < ys.length := fun h' => h (.inr h')
  have t1 : decide ((20000 : Int) < (xs.length : Int)) = false := by simp; omega
  have t2 : decide (20000 < xs.length) = false := by simpa using h1
  have t3 : decide ((20000 : Int) < (ys.length : Int)) = false := by simp; omega
  have t4 : decide (20000 < ys.length) = false := by simpa using h2
  have HA := Lib.hid ha
  have HB := Lib.hid hb
  have HA0 := Lib.hid (HA.out.keeps ((Below.refl w.heap.size w).alloc (Nat.le_refl _) (.cells #[] 5)))
  have own0 := own_new w w.heap.size (Nat.le_refl _)
  clear ha hb h
  go_enter Try.func4, Try.ntmps4
  go_wp2_with (at_builtin; refine wpList_append_bytes rfl (.tmp 26) (.tmp 27) rfl w.heap.size _ [] rfl own0 _ xs rfl HA0.out ?k1 ?k2 ?_)
  case k1 => simp; omega
  case k2 => simp
  intro v1 w1 own1 b1
  have hb1 : Below w.heap.size w w1 := ((Below.refl _ _).alloc (Nat.le_refl _) _).trans b1
  obtain ⟨a1, c1, rfl⟩ := own_shape own1
  have RO : Hid (Reads w1 (.slice a1 xs.length c1) xs) := Reads.own own1
  have HB0 := Lib.hid (HB.out.keeps (hb1.alloc hb1.size (.cells #[] 5)))
  have own01 := own_new w1 w1.heap.size (Nat.le_refl _)
  clear own0 own1 b1 HA0
  go_wp2_with (at_builtin; refine wpList_append_bytes rfl (.tmp 29) (.tmp 30) rfl w1.heap.size _ [] rfl own01 _ ys rfl HB0.out ?k1 ?k2 ?_)
  case k1 => simp; omega
  case k2 => simp
  intro v2 w2 own2 b2
  have b12 : Below w1.heap.size w1 w2 := ((Below.refl _ _).alloc (Nat.le_refl _) _).trans b2
  have hb2 := bt hb1 b12
  obtain ⟨a2, c2, rfl⟩ := own_shape own2
  have RM : Hid (Reads w2 (.slice a2 ys.length c2) ys) := Reads.own own2
  have RO2 := Lib.hid (RO.out.keeps b12)
  have HA2 := Lib.hid (HA.out.keeps hb2)
  have HB2 := Lib.hid (HB.out.keeps hb2)
  clear own01 own2 b2 b12 hb1 HA HB HB0 RO
  obtain ⟨L, hL⟩ : ∃ l, l = wl xs := ⟨_, rfl⟩
  obtain ⟨M, hM⟩ : ∃ l, l = ol ys := ⟨_, rfl⟩
  obtain ⟨cx, hcx⟩ : ∃ l, l = wc xs := ⟨_, rfl⟩
  obtain ⟨cy, hcy⟩ : ∃ l, l = oc ys := ⟨_, rfl⟩
  obtain ⟨n, hn⟩ : ∃ l, l = L.length := ⟨_, rfl⟩
  obtain ⟨m, hm⟩ : ∃ l, l = M.length := ⟨_, rfl⟩
  have hn20 : n ≤ 20000 := by rw [hn, hL]; exact wl_len _
  have hm20 : m ≤ 20000 := by rw [hm, hM]; have := ol_len ys; omega
  have K1 : Hid (∀ (W : World) (v : Value), Reads W v xs → Calls Try.prog 9 #[v] W fun e w' => ∃ ao cap, e = .returned (.tuple #[.slice ao n cap, .int .i64 cx]) ∧ w'.ownsRow W.heap.size 5 1 (.slice ao n cap) n (bs L) ∧ Below W.heap.size W w') := fun W v h => by
    rw [hn, hL, hcx]; exact (wrap_any h).mono fun e w' ⟨u, c, he, h1, h2⟩ => by rw [he]; exact wrapped_ans h1 h2
  have K2 : Hid (∀ (W : World) (v : Value), Reads W v xs → Calls Try.prog 11 #[v] W fun e w' => ∃ ao cap, e = .returned (.tuple #[.slice ao n cap, .int .i64 cx]) ∧ w'.ownsRow W.heap.size 5 1 (.slice ao n cap) n (bs L) ∧ Below W.heap.size W w') := fun W v h => by
    rw [hn, hL, hcx]; exact (refWrap_any h).mono fun e w' ⟨u, c, he, h1, h2⟩ => by rw [he]; exact wrapped_ans h1 h2
  have K3 : Hid (∀ (W : World) (v : Value), Reads W v ys → Calls Try.prog 10 #[v] W fun e w' => ∃ ao cap, e = .returned (.tuple #[.slice ao m cap, .int .i64 cy]) ∧ w'.ownsRow W.heap.size 5 1 (.slice ao m cap) m (bs M) ∧ Below W.heap.size W w') := fun W v h => by
    rw [hm, hM, hcy]; exact (open_any h).mono fun e w' ⟨u, c, he, h1, h2⟩ => by rw [he]; exact opened_ans h1 h2
  have K4 : Hid (∀ (W : World) (v : Value), Reads W v ys → Calls Try.prog 12 #[v] W fun e w' => ∃ ao cap, e = .returned (.tuple #[.slice ao m cap, .int .i64 cy]) ∧ w'.ownsRow W.heap.size 5 1 (.slice ao m cap) m (bs M) ∧ Below W.heap.size W w') := fun W v h => by
    rw [hm, hM, hcy]; exact (refOpen_any h (by omega)).mono fun e w' ⟨u, c, he, h1, h2⟩ => by rw [he]; exact opened_ans h1 h2
  have HN := Lib.hid hn
  have HM := Lib.hid hm
  clear hL hM hcx hcy hn hm
  go_wp2_with fail
  refine (K1.out _ _ RO2.out).mono ?_
  rintro e w3 ⟨ax, c3, rfl, own3, b3⟩
  have hb3 := bt hb2 b3
  have HB3 : Hid (Below w2.heap.size w2 w3) := b3
  have RX3 : Hid (Reads w3 (.slice ax n c3) L) := by
    have h := own3
    rw [HN.out] at h ⊢
    exact Reads.own h
  have O3 := Lib.hid own3
  have HA3 := Lib.hid (HA2.out.keeps b3)
  have RM3 := Lib.hid (RM.out.keeps b3)
  have HC3 := Lib.hid (HB2.out.keeps b3)
  have HBw := Lib.hid hb2
  clear own3 b3 hb2
  go_wp2_with fail
  refine (K2.out _ _ HA3.out).mono ?_
  rintro e w4 ⟨ay, c4, rfl, own4, b4⟩
  have hb4 := bt hb3 b4
  have HB4 : Hid (Below w2.heap.size w2 w4) := bt HB3.out b4
  have RX4 := Lib.hid (RX3.out.keeps b4)
  have RY4 : Hid (Reads w4 (.slice ay n c4) L) := by
    have h := own4
    rw [HN.out] at h ⊢
    exact Reads.own h
  have O4 := Lib.hid (own_keeps O3.out b4)
  have HXB : Hid (∀ k, (Value.slice ax n c3).ownBlock = some k → w2.heap.size ≤ k ∧ k < w4.heap.size) := O4.out.lt
  have RM4 := Lib.hid (RM3.out.keeps b4)
  have HC4 := Lib.hid (HC3.out.keeps b4)
  clear own4 b4 hb3 HA3 RM3 HC3 RX3 O3 HB3
  go_wp2_with fail
  refine (K3.out _ _ RM4.out).mono ?_
  rintro e w5 ⟨az, c5, rfl, own5, b5⟩
  have hb5 := bt hb4 b5
  have hs45 := b5.size
  have HB5 : Hid (Below w2.heap.size w2 w5) := bt HB4.out b5
  have RX5 := Lib.hid (RX4.out.keeps b5)
  have RY5 := Lib.hid (RY4.out.keeps b5)
  have RZ5 : Hid (Reads w5 (.slice az m c5) M) := by
    have h := own5
    rw [HM.out] at h ⊢
    exact Reads.own h
  have O5 := Lib.hid (own_keeps O4.out b5)
  have P5 := Lib.hid own5
  have HC5 := Lib.hid (HC4.out.keeps b5)
  clear own5 b5 hb4 RM4 HC4 RX4 RY4 O4
  go_wp2_with fail
  refine (K4.out _ _ HC5.out).mono ?_
  rintro e w6 ⟨aw, c6, rfl, own6, b6⟩
  have hb6 := bt hb5 b6
  have HB6 : Hid (Below w2.heap.size w2 w6) := bt HB5.out b6
  have q1 := run_string (RX5.out.keeps b6)
  have q2 := run_string (RY5.out.keeps b6)
  have q3 := run_string (RZ5.out.keeps b6)
  have q4 : (convert 23 9 (.slice aw m c6)).run Try.prog w6 = .ok (.string (str M)) w6 := run_string (by
    have h := own6
    rw [HM.out] at h ⊢
    exact Reads.own h)
  have O6 := Lib.hid (own_keeps O5.out b6)
  have P6 := Lib.hid (own_keeps P5.out b6)
  have e1 : ((str L).toList == (str L).toList) = true := by simp
  have e2 : ((str M).toList == (str M).toList) = true := by simp
  clear own6 b6 hb5 HC5 RX5 RY5 RZ5 O5 P5 HB5
  go_wp2_with fail
  clear q1 q2 q3 q4 e1 e2
  have hwB := HB4.out.size
  go_loopw [16] (fun i wr => ∃ (k : Nat) (X : List UInt8), k ≤ n ∧ i = .int .i64 (k : Int) ∧ X.length = n ∧ Hid (wr.ownsRow w2.heap.size 5 1 (.slice ax n c3) n (bs X)) ∧ Hid (wr.ownsRow w4.heap.size 5 1 (.slice az m c5) m (bs M)) ∧ Hid (Below w2.heap.size w2 wr)) (fun i _ => n - (intOf i).toNat)
  case atStart => exact ⟨0, L, by omega, rfl, HN.out.symm, O6, P6, HB6⟩
  case round =>
    obtain ⟨k, X, hk, rfl, hX, hown, hoth, hbel⟩ := hrel
    by_cases hkn : k < n
    · have q1 : decide (k < n) = true := by simpa using hkn
      obtain ⟨g, rfl, hg1, hg2⟩ := own_some' hown.out (by omega)
      have hgB : g < w4.heap.size := (HXB.out g rfl).2
      obtain ⟨x, hx⟩ : ∃ x, x = X.getD k 0 := ⟨_, rfl⟩
      have hcx : wr.cell? ⟨g, k, none⟩ = some (.int .u8 (x.toNat : Int)) := by
        rw [hown.out.cellAt k (by omega), bs_get _ _ (by omega), hx]
      have hfx : wr.frozen? ⟨g, k, none⟩ = false := hown.out.frozenAt k
      have hi := inc8 x
      obtain ⟨y, hy⟩ : ∃ y, y = (x + 1).toNat := ⟨_, rfl⟩
      rw [← hy] at hi
      have HY := Lib.hid hy
      have q2 : (0 : Int) ≤ (k : Int) := by omega
      have q3 : (k : Int) < (n : Int) := by omega
      clear hx hy
      go_wp2
      go_roundw
      case rel =>
        refine ⟨k + 1, X.set k (x + 1), by omega, by go_num, by simp [hX], Lib.hid ?_, Lib.hid ?_, Lib.hid ?_⟩
        · rw [bs_set', ← HY.out]
          exact (hown.out.stored k _).1
        · exact own_other hoth.out hgB _
        · exact hbel.out.setCell (p := ⟨g, k, none⟩) hg1 _
      case measure => simp [intOf]; omega
    · have q1 : decide (k < n) = false := by simpa using hkn
      clear hown
      go_wp2_with fail
      go_loopw [17] (fun i wr => ∃ (k : Nat) (X : List UInt8), k ≤ m ∧ i = .int .i64 (k : Int) ∧ X.length = m ∧ Hid (wr.ownsRow w4.heap.size 5 1 (.slice az m c5) m (bs X)) ∧ Hid (Below w2.heap.size w2 wr)) (fun i _ => m - (intOf i).toNat)
      case atStart => exact ⟨0, M, by omega, rfl, HM.out.symm, hoth, hbel⟩
      case round =>
        clear hbel hoth hkn q1 hX hk
        obtain ⟨j, Y, hj, rfl, hY, hown, hbel⟩ := hrel
        by_cases hjm : j < m
        · have q1 : decide (j < m) = true := by simpa using hjm
          obtain ⟨g, rfl, hg1, hg2⟩ := own_some' hown.out (by omega)
          obtain ⟨x, hx⟩ : ∃ x, x = Y.getD j 0 := ⟨_, rfl⟩
          have hcx : wr.cell? ⟨g, j, none⟩ = some (.int .u8 (x.toNat : Int)) := by
            rw [hown.out.cellAt j (by omega), bs_get _ _ (by omega), hx]
          have hfx : wr.frozen? ⟨g, j, none⟩ = false := hown.out.frozenAt j
          have hi := inc8 x
          obtain ⟨y, hy⟩ : ∃ y, y = (x + 1).toNat := ⟨_, rfl⟩
          rw [← hy] at hi
          have HYy := Lib.hid hy
          have q2 : (0 : Int) ≤ (j : Int) := by omega
          have q3 : (j : Int) < (m : Int) := by omega
          clear hx hy
          go_wp2
          go_roundw
          case rel =>
            refine ⟨j + 1, Y.set j (x + 1), by omega, by go_num, by simp [hY], Lib.hid ?_, Lib.hid ?_⟩
            · rw [bs_set', ← HYy.out]
              exact (hown.out.stored j _).1
            · exact hbel.out.setCell (p := ⟨g, j, none⟩) (by show _ ≤ g; omega) _
          case measure => simp [intOf]; omega
        · have q1 : decide (j < m) = false := by simpa using hjm
          have q2 := run_string (RO2.out.keeps hbel.out)
          have q3 := run_string (HA2.out.keeps hbel.out)
          have q4 := run_string (RM.out.keeps hbel.out)
          have q5 := run_string (HB2.out.keeps hbel.out)
          have e1 : ((str xs).toList == (str xs).toList) = true := by simp
          have e2 : ((str ys).toList == (str ys).toList) = true := by simp
          have hfin := bt HBw.out hbel.out
          clear hown hbel
          go_wp2
          go_ret
          exact ⟨rfl, hfin⟩
end Go.Proofs.Ytmjdpmkkcakbdaa.Frame
