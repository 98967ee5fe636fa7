/- octavoref12.Ids, Live: what each answers. Conditions: the slice's cells are operations; Live: of what Lives answers. -/
import Derived.Test.YtpgdnenkjommfaaGreatPk12
import Derived.Test.YtpgdnenkjommfaaGreatPk07
import Derived.Test.YtpgdnenkjommfaaGreatPk05
import Derived.Test.YtpgdnenkjommfaaGreatPk09
import Derived.Test.YtpgdnenkjommfaaGreatPk10
import Derived.Test.YtpgdnenkjommfaaGreatPk11

namespace Go.Proofs.YtpgdnenkjommfaaGreat.Marks
open Go.RowKit Go.WideShapes Stamp Go.Proofs.YtpgdnenkjommfaaGreat.Place Ops Codes Bags
attribute [local go_sem ↓] Go.wp_at_zero Go.wp_at_succ
attribute [local go_sem] yielded_undef

theorem dir_le (l : List Opn) : (dirM l).length ≤ l.length := List.length_filter_le _ _

set_option maxRecDepth 100000 in
set_option maxHeartbeats 4000000 in
theorem refIdsM_any {v0 : Value} {l : List Opn} {w : World} (hv : OpL w v0 l) :
    Calls Tryz.prog 9 #[v0] w (DoneC (idsM l) (chkL l) w) := by
  have ML := Lib.hid (refMayL_any hv)
  have ST : Hid (bagB l = true → ∀ (W : World) (v1 : Value), OpL W v1 (dirM l) → Calls Tryz.prog 28 #[v1] W fun e w' => ∃ v', e = .returned v' ∧ Ids w' v' (stampsO (dirM l)) ∧ Below W.heap.size W w') := fun hb W v1 h => refStamps_any h (by have := ((bagB_iff l).1 hb).1; have := dir_le l; omega)
  have DI : Hid (bagB l = true → ∀ W : World, Below w.heap.size w W → Calls Tryz.prog 29 #[v0] W fun e w' => ∃ v', e = .returned v' ∧ OpL w' v' (dirM l) ∧ Below W.heap.size W w') := fun hb W h => refDir_any (hv.keeps h) (by have := ((bagB_iff l).1 hb).1; omega)
  have AM : Hid (bagB l = true → ∀ (W : World) (v : Value), Ids W v (stampsO (dirM l)) → Calls Tryz.prog 27 #[v] W fun e w' => ∃ v', e = .returned v' ∧ OwnC w' W.heap.size v' (Clocks.among (stampsO (dirM l))) ∧ Below W.heap.size W w') := fun hb W v h => by
    have hB := (bagB_iff l).1 hb
    refine Clocks.among_any h (fun a ha => ?_) (by unfold stampsO; rw [List.length_map]; exact Nat.le_trans (dir_le l) hB.1)
    obtain ⟨o, ho, rfl⟩ := List.mem_map.1 ha
    exact mayO_id (hB.2.1 o (List.mem_filter.1 ho).1)
  have HC : Hid ((bagB l = false → idsM l = [] ∧ chkL l = 8) ∧ (bagB l = true → idsM l = Clocks.among (stampsO (dirM l)) ∧ chkL l = 0)) := by
    unfold idsM chkL
    exact ⟨fun h => by rw [h]; exact ⟨rfl, rfl⟩, fun h => by rw [h]; exact ⟨rfl, rfl⟩⟩
  obtain ⟨R, hR⟩ : ∃ z, idsM l = z := ⟨_, rfl⟩
  obtain ⟨E, hE⟩ : ∃ z, chkL l = z := ⟨_, rfl⟩
  rw [hR, hE] at HC ⊢
  clear hR hE
  obtain ⟨bl, hbl⟩ : ∃ z, bagB l = z := ⟨_, rfl⟩
  rw [hbl] at ML ST DI AM HC
  clear hv hbl
  go_enter Tryz.func9, Tryz.ntmps9
  go_wp2_with fail
  refine ML.out.mono ?_
  rintro e w1 ⟨rfl, b1⟩
  have B1 := Lib.hid b1
  clear b1 ML
  cases bl
  · obtain ⟨rfl, rfl⟩ := HC.out.1 rfl
    go_wp2
    go_ret2
    exact ⟨_, rfl, ⟨[], World.ownsRow_nil _ _ _ _, trivial⟩, B1.out⟩
  obtain ⟨rfl, rfl⟩ := HC.out.2 rfl
  have DI2 := Lib.hid (DI.out rfl w1 B1.out)
  have ST2 := Lib.hid (ST.out rfl)
  have AM2 := Lib.hid (AM.out rfl)
  clear ST AM DI
  go_wp2_with fail
  refine DI2.out.mono ?_
  rintro e w4 ⟨v4, rfl, o4, b4⟩
  have B4 := Lib.hid (bt B1.out b4)
  have O4 := Lib.hid o4
  clear b4 o4 B1 DI2
  go_wp2_with fail
  refine (ST2.out _ _ O4.out).mono ?_
  rintro e w2 ⟨v2, rfl, o2, b2⟩
  have B2 := Lib.hid (bt B4.out b2)
  have O2 := Lib.hid o2
  clear b2 o2 B4 ST2
  go_wp2_with fail
  refine (AM2.out _ _ O2.out).mono ?_
  rintro e w3 ⟨v3, rfl, o3, b3⟩
  have B3 := Lib.hid (bt B2.out b3)
  have O3 : Hid (OwnC w3 w.heap.size v3 (Clocks.among (stampsO (dirM l)))) := Clocks.OwnC.base o3 B2.out.size
  clear b3 o3 B2 AM2
  go_wp2
  go_ret2
  exact ⟨_, rfl, O3.out, B3.out⟩

set_option maxRecDepth 100000 in
set_option maxHeartbeats 4000000 in
theorem refLive_of {v0 : Value} {l : List Opn} {w : World} (hv : OpL w v0 l) (LV : Hid (bagB l = true → ∀ W : World, Below w.heap.size w W → Calls Tryz.prog 24 #[v0] W fun e w' => ∃ v', e = .returned v' ∧ OpL w' v' (livesM l l) ∧ Below W.heap.size W w')) :
    Calls Tryz.prog 7 #[v0] w (DoneL (liveL l) (chkL l) w) := by
  have ML := Lib.hid (refMayL_any hv)
  have HC : Hid ((bagB l = false → liveL l = [] ∧ chkL l = 8) ∧ (bagB l = true → liveL l = livesM l l ∧ chkL l = 0)) := by
    unfold liveL chkL
    exact ⟨fun h => by rw [h]; exact ⟨rfl, rfl⟩, fun h => by rw [h]; exact ⟨rfl, rfl⟩⟩
  obtain ⟨R, hR⟩ : ∃ z, liveL l = z := ⟨_, rfl⟩
  obtain ⟨E, hE⟩ : ∃ z, chkL l = z := ⟨_, rfl⟩
  rw [hR, hE] at HC ⊢
  clear hR hE
  obtain ⟨bl, hbl⟩ : ∃ z, bagB l = z := ⟨_, rfl⟩
  rw [hbl] at ML LV HC
  clear hv hbl
  go_enter Tryz.func7, Tryz.ntmps7
  go_wp2_with fail
  refine ML.out.mono ?_
  rintro e w1 ⟨rfl, b1⟩
  have B1 := Lib.hid b1
  clear b1 ML
  cases bl
  · obtain ⟨rfl, rfl⟩ := HC.out.1 rfl
    go_wp2
    go_ret2
    exact ⟨_, rfl, Seq.nil _ _, B1.out⟩
  obtain ⟨rfl, rfl⟩ := HC.out.2 rfl
  have LV2 := Lib.hid (LV.out rfl w1 B1.out)
  clear LV
  go_wp2_with fail
  refine LV2.out.mono ?_
  rintro e w2 ⟨v2, rfl, o2, b2⟩
  have B2 := Lib.hid (bt B1.out b2)
  have O2 := Lib.hid o2
  clear b2 o2 B1 LV2
  go_wp2
  go_ret2
  exact ⟨_, rfl, O2.out, B2.out⟩
end Go.Proofs.YtpgdnenkjommfaaGreat.Marks

/- Places: a child in the order, as lists of stamps. Conditions: none. -/
namespace Go.Proofs.YtpgdnenkjommfaaGreat.Place
open Go.RowKit Stamp

theorem anyB_may {l : List Run} (h : mayB l = true) : anyB l = true := by unfold anyB; rw [h]; simp
end Go.Proofs.YtpgdnenkjommfaaGreat.Place

/- Slices whose elements hold slices of an elder world; append of a whole part to a row of one's own; what is left behind a cut. Conditions: none. -/
namespace Go.Proofs.YtpgdnenkjommfaaGreat
open Go.RowKit Go.WideShapes

/-- Elements whose slices lie in an elder world. -/
def fixE {α : Type} (E : Enc α) (w0 : World) : Enc α := ⟨E.sz, E.pos, fun _ cs a => E.inn w0 cs a, E.len, E.one, fun _ h => h⟩
theorem fix_rows {α : Type} {E : Enc α} {w0 w : World} : ∀ {cs : List Value} {l : List α}, (fixE E w0).rows w cs l ↔ E.rows w0 cs l
  | _, [] => Iff.rfl
  | _, _ :: _ => ⟨fun ⟨c, d, h1, h2, h3⟩ => ⟨c, d, h1, h2, fix_rows.1 h3⟩, fun ⟨c, d, h1, h2, h3⟩ => ⟨c, d, h1, h2, fix_rows.2 h3⟩⟩
theorem shr_fix {α : Type} {E : Enc α} {te : TypeId} {w0 w : World} {v : Value} {l : List α} (h : Shr E te w0 w v l) : Seq (fixE E w0) w v l := by
  obtain ⟨cs, h1, h2⟩ := h
  exact ⟨cs, Sees.own h1, fix_rows.2 h2⟩
theorem wpList_append_shr {α : Type} {E : Enc α} {ts te : TypeId} (ht : Tryz.prog.underlying ts = some (.slice te)) {z : Value} {bytes : Nat}
    (hi : (Tryz.prog.info? te).map (fun i => (i.zero, i.size, i.bytes)) = some (some z, E.sz, bytes)) (hzs : z.cells.size = E.sz)
    {w0 wp : World} {ops : Array Oper} {rest : List Oper} {o : Oper} {a : Act} {Q : Exit → Act → World → Prop} (hgd : o.guard = none) (s x : Operand)
    (ho : o.op = .call { callee := .builtin .append, args := #[s, x], argTypes := #[ts, ts] }) {v u : Value} {L M : List α} (hs : a.eval s = v) (hv : Shr E te w0 wp v L)
    (hx : a.eval x = u) (hu : Seq (fixE E w0) wp u M) {n : Nat} (hn : n = L.length + M.length) (h47 : n * bytes ≤ 140737488355328) (h63 : n ≤ 140737488355328) (hbase : w0.heap.size ≤ wp.heap.size)
    (h : ∀ v' w', Shr E te w0 w' v' (L ++ M) → (∃ ao cap, v' = .slice ao n cap) → Below w0.heap.size wp w' → wpList Tryz.prog ops Q rest (a.put o.dst v') w') :
    wpList Tryz.prog ops Q (o :: rest) a wp := by
  subst hn
  obtain ⟨cs, h1, h2⟩ := hv
  obtain ⟨xs, h3, h4⟩ := hu
  refine wpList_append_sees hgd s x ts te ho ht hi hzs E.pos w0.heap.size v L.length cs hs h1 u M.length xs hx h3 (Enc.rows_one (fix_rows.1 h4)) h47 h63 hbase ?_
  intro v' w' o6 _ b6
  exact h v' w' ⟨cs ++ xs, by rw [List.length_append]; exact o6, Enc.rows_append h2 (fix_rows.1 h4)⟩ (Sees.shape (Sees.own o6)) b6
theorem part_drop {α : Type} {E : Enc α} {w : World} {ao : Option Addr} {n cap m : Nat} {l : List α} (h : Seq E w (.slice ao n cap) l) (hm : m ≤ n) (hl : l ≠ []) :
    ∃ b off o', ao = some ⟨b, off, none⟩ ∧ (if cap = m then (some ⟨b, off, none⟩ : Option Addr) else some ⟨b, off + m * E.sz, none⟩) = some ⟨b, o', none⟩ ∧ Seq E w (.slice (some ⟨b, o', none⟩) (n - m) (cap - m)) (l.drop m) := by
  obtain ⟨cs, ⟨h1, ao', cap', he, h2, h3, h4, h5⟩, h6⟩ := h
  obtain ⟨rfl, rfl, rfl⟩ := Value.slice.inj he
  have hp := E.pos
  have hd := Enc.rows_drop m h6
  have hll : (l.drop m).length = l.length - m := by rw [List.length_drop]
  have hcl : (cs.drop (m * E.sz)).length = (l.length - m) * E.sz := by rw [List.length_drop, h1, Nat.sub_mul]
  rcases h5 with h5 | ⟨b, off, rfl, hb, hc⟩
  · exfalso
    rw [h5] at h1
    have h7 : l.length * E.sz = 0 := by simpa using h1.symm
    rcases Nat.mul_eq_zero.1 h7 with h8 | h8
    · exact hl (List.length_eq_zero_iff.1 h8)
    · omega
  · by_cases hcm : cap = m
    · refine ⟨b, off, off, rfl, by rw [if_pos hcm], cs.drop (m * E.sz), ⟨by rw [hcl, hll], some ⟨b, off, none⟩, cap - m, by rw [hll], by rw [hll]; omega, by omega, by simp, ?_⟩, hd⟩
      left
      exact List.length_eq_zero_iff.1 (by rw [hcl, show l.length - m = 0 by omega, Nat.zero_mul])
    · refine ⟨b, off, off + m * E.sz, rfl, by rw [if_neg hcm], cs.drop (m * E.sz), ⟨by rw [hcl, hll], some ⟨b, off + m * E.sz, none⟩, cap - m, by rw [hll], by rw [hll]; omega, by omega, by simp, ?_⟩, hd⟩
      right
      refine ⟨b, off + m * E.sz, rfl, hb, fun j u hj => ?_⟩
      rw [List.getElem?_drop] at hj
      rw [Nat.add_assoc]
      exact hc _ u hj
theorem part_none {α : Type} (E : Enc α) (w : World) {ao : Option Addr} {cap : Nat} (hc : cap ≤ 9223372036854775807) (h : ao = none → cap = 0) : Seq E w (.slice ao 0 cap) [] :=
  ⟨[], ⟨by simp, ao, cap, rfl, by simp, hc, h, .inl rfl⟩, rfl⟩
open Go.Proofs.YtpgdnenkjommfaaGreat.Place Ops Codes Bags
theorem shr_unfix {w0 WB w : World} {v : Value} {l : List Opn} (h : Shr (fixE opE w0) 43 WB w v l) (hb : w0.heap.size ≤ WB.heap.size) : ShrO w0 w v l := by
  obtain ⟨cs, h1, h2⟩ := h
  exact ⟨cs, op_base h1 hb, fix_rows.1 h2⟩
theorem shr_drop {w0 w : World} {ao : Option Addr} {m cap i : Nat} {l : List Opn} (h : ShrO w0 w (.slice ao m cap) l) (hi : i ≤ m) :
    (ao = none ∧ cap = 0 ∧ m = 0 ∧ l = []) ∨ ∃ ab aof a', ao = some ⟨ab, aof, none⟩ ∧ (if cap = i then (some ⟨ab, aof, none⟩ : Option Addr) else some ⟨ab, aof + i * 5, none⟩) = some a' ∧ Seq (fixE opE w0) w (.slice (some a') (m - i) (cap - i)) (l.drop i) := by
  have hs := shr_fix h
  have hc := hs.cap
  by_cases hl : l = []
  · subst hl
    have hm : m = 0 := hc.1
    subst hm
    obtain rfl : i = 0 := by omega
    cases ao with
    | none => exact .inl ⟨rfl, hc.2.2.2 rfl, rfl, rfl⟩
    | some a =>
      obtain ⟨g, rfl⟩ : ∃ g, a = ⟨g, 0, none⟩ := by
        obtain ⟨cs, h1, _⟩ := h
        rcases h1.2 with h0 | ⟨g, c9, cur, he, _⟩
        · have := h0.1; cases this
        · cases he; exact ⟨g, rfl⟩
      refine .inr ⟨g, 0, if cap = 0 then ⟨g, 0, none⟩ else ⟨g, 0 + 0 * 5, none⟩, rfl, by split <;> rfl, ?_⟩
      exact part_none _ _ hc.2.2.1 (fun h => by cases h)
  · obtain ⟨b, off, o', rfl, hif, hpart⟩ := part_drop hs hi hl
    exact .inr ⟨_, _, _, rfl, hif, hpart⟩

end Go.Proofs.YtpgdnenkjommfaaGreat

/- octavoref12.Lives, Live: what each answers. Conditions: of Lives: operations that may be, not too many. -/
namespace Go.Proofs.YtpgdnenkjommfaaGreat.Marks
open Go.RowKit Go.WideShapes Stamp Go.Proofs.YtpgdnenkjommfaaGreat.Place Ops Codes Bags
attribute [local go_sem ↓] Go.wp_at_zero Go.wp_at_succ
attribute [local go_sem] yielded_undef

theorem refHeldM_any {a b : Value} {x y : Opn} {w : World} (ha : Runs w a x.pl) (hb : Runs w b y.pl) (hx : mayO x = true) (hy : mayO y = true) :
    Calls Tryz.prog 45 #[a, b] w fun e w' => e = .returned (.int .i64 (cmp x.pl y.pl)) ∧ Below w.heap.size w w' := by
  have m1 := (mayB_iff _).1 (mayO_parts hx).2.1
  have m2 := (mayB_iff _).1 (mayO_parts hy).2.1
  have e : cmp x.pl y.pl = Go.Proofs.YtpgdnenkjommfaaGreat.Place.hold (all x.pl) (all y.pl) := by unfold cmp; rw [if_pos ⟨anyB_may (mayO_parts hx).2.1, anyB_may (mayO_parts hy).2.1⟩]
  rw [e]
  exact held_any ha hb m1.2.2.1 m2.2.2.1 (Nat.le_trans m1.2.1 (by decide)) (Nat.le_trans m2.2.1 (by decide))

set_option maxRecDepth 100000 in
set_option maxHeartbeats 16000000 in
theorem refLives_any {v0 : Value} {l : List Opn} {w : World} (hv : OpL w v0 l) (hm : ∀ o ∈ l, mayO o = true) (hl : l.length ≤ 1024) :
    Calls Tryz.prog 24 #[v0] w fun e w' => ∃ v', e = .returned v' ∧ OpL w' v' (livesM l l) ∧ Below w.heap.size w w' := by
  obtain ⟨ao, cap, rfl⟩ := hv.shape
  obtain ⟨n, hn⟩ : ∃ n, n = l.length := ⟨_, rfl⟩
  have hnm : n ≤ 1024 := by omega
  have HV : Hid (∀ W : World, Below w.heap.size w W → OpL W (.slice ao l.length cap) l) := fun W h => hv.keeps h
  have HN := Lib.hid hn
  have HMY := Lib.hid hm
  have EN : Hid (∀ (x : Opn) (W : World), Below w.heap.size w W → Calls Tryz.prog 32 #[.slice ao n cap, .agg #[.int .u32 (x.t : Int), .int .u8 (x.r : Int)]] W fun e w' => e = .returned (.bool (ended l (idO x))) ∧ Below W.heap.size W w') := fun x W h => by
    have := refEnded_any (idO x) (HV.out W h) HMY.out
    rw [← hn] at this
    exact this
  rw [← hn]
  have S0 : Hid (ShrO w w (.slice none 0 0) (livesM l (l.take 0))) := Shr.nil _ _ _ _
  have M0 : Hid (0 = (livesM l (l.take 0)).length) := rfl
  have B0 : Hid (Below w.heap.size w w) := Below.refl _ _
  clear hv hn hl hm
  go_enter Tryz.func24, Tryz.ntmps24
  go_wp2
  go_loopw [3, 4] (fun v i wr => ∃ j m : Nat, j ≤ n ∧ i = .int .i64 (j : Int) ∧ (∃ ao cap, v = .slice ao m cap) ∧ Hid (m = (livesM l (l.take j)).length) ∧ Hid (ShrO w wr v (livesM l (l.take j))) ∧ Hid (Below w.heap.size w wr)) (fun _ i _ => n - (intOf i).toNat)
  case atStart => exact ⟨0, 0, by omega, rfl, ⟨none, 0, rfl⟩, M0, S0, B0⟩
  case round =>
    clear S0 M0 B0
    obtain ⟨j, m, hj, rfl, ⟨aoL, capL, rfl⟩, HM, hshr, hbel⟩ := hrel
    by_cases hjn : j < n
    rotate_left
    · have q3 : decide (j < n) = false := by simpa using hjn
      have hkk : l.take j = l := List.take_of_length_le (by have := HN.out; omega)
      rw [hkk] at hshr
      clear hkk
      go_wp2
      go_ret
      exact ⟨_, rfl, hshr.out.seq hbel.out, hbel.out⟩
    have q3 : decide (j < n) = true := by simpa using hjn
    have q4 : (0 : Int) ≤ (j : Int) := by omega
    have q5 : (j : Int) < (n : Int) := by omega
    have hjl : j < l.length := by rw [← HN.out]; exact hjn
    have hmj : m ≤ j := by have h1 := livesM_le l (l.take j); rw [List.length_take] at h1; have := HM.out; omega
    obtain ⟨bb, oo, u, e, hbb, hru, h0, h1, h2, h3, h4⟩ := opl_at (HV.out w (Below.refl _ _)) j hjl
    subst e
    obtain ⟨x, hx⟩ : ∃ x, x = l[j]'hjl := ⟨_, rfl⟩
    rw [← hx] at hru h0 h1 h2 h4
    have HO : Hid (∀ v : Value, opv x v = .agg #[.int .u8 (x.k : Int), .int .u32 (x.t : Int), .int .u8 (x.r : Int), v, .int .i64 x.p]) := fun v => rfl
    replace h0 := ((hbel.out).cell (p := ⟨bb, oo + j * 5, none⟩) hbb).trans h0
    replace h1 := ((hbel.out).cell (p := ⟨bb, oo + j * 5 + 1, none⟩) hbb).trans h1
    replace h2 := ((hbel.out).cell (p := ⟨bb, oo + j * 5 + 2, none⟩) hbb).trans h2
    replace h3 := ((hbel.out).cell (p := ⟨bb, oo + j * 5 + 3, none⟩) hbb).trans h3
    replace h4 := ((hbel.out).cell (p := ⟨bb, oo + j * 5 + 4, none⟩) hbb).trans h4
    have hbo := hbb
    replace hbb := Nat.lt_of_lt_of_le hbb (hbel.out).size
    obtain ⟨uo, uc, rfl⟩ := hru.shape
    obtain ⟨nu, hnu⟩ : ∃ n, n = x.pl.length := ⟨_, rfl⟩
    have HNU := Lib.hid hnu
    rw [← hnu] at hru h3
    clear hnu
    have hxm : x ∈ l := by rw [hx]; exact List.getElem_mem _
    have MX := Lib.hid (HMY.out x hxm)
    have RX : Hid (Runs w (.slice uo nu uc) x.pl) := hru
    have INN : Hid (opE.inn w [.int .u8 (x.k : Int), .int .u32 (x.t : Int), .int .u8 (x.r : Int), .slice uo nu uc, .int .i64 x.p] x) := ⟨_, rfl, hru⟩
    have ST : Hid (livesM l (l.take (j + 1)) = if x.k = 2 ∧ ended l (idO x) = false then insM (livesM l (l.take j)) x else livesM l (l.take j)) := by unfold Hid; rw [List.take_succ_eq_append_getElem hjl, livesM_snoc, ← hx]; rfl
    have EX := Lib.hid (EN.out x)
    have ML : Hid (∀ y ∈ livesM l (l.take j), mayO y = true) := fun y hy => HMY.out y (List.mem_of_mem_take (mem_livesM.1 hy).1)
    obtain ⟨out, hout⟩ : ∃ z, livesM l (l.take j) = z := ⟨_, rfl⟩
    rw [hout] at HM hshr ST ML
    obtain ⟨en, hen⟩ : ∃ b, ended l (idO x) = b := ⟨_, rfl⟩
    rw [hen] at EX ST
    clear hx hru hxm hout hen
    obtain ⟨k, hk⟩ : ∃ z, x.k = z := ⟨_, rfl⟩
    obtain ⟨t, ht⟩ : ∃ z, x.t = z := ⟨_, rfl⟩
    obtain ⟨r, hr⟩ : ∃ z, x.r = z := ⟨_, rfl⟩
    obtain ⟨p, hp⟩ : ∃ z, x.p = z := ⟨_, rfl⟩
    rw [hk, ht, hr, hp] at HO
    rw [hk] at h0
    rw [ht] at h1
    rw [hr] at h2
    rw [hp] at h4
    rw [hk, ht, hr, hp] at INN
    rw [ht, hr] at EX
    rw [hk] at ST
    have F1 : Hid (FiveAt wr bb (oo + j * 5) (.int .u8 (k : Int)) (.int .u32 (t : Int)) (.int .u8 (r : Int)) (.slice uo nu uc) (.int .i64 p)) := ⟨hbb, h0, h1, h2, h3, h4⟩
    have SK : Hid (∀ w' : World, Below wr.heap.size wr w' → Below wr.heap.size wr w' ∧ w'.cell? ⟨bb, oo + j * 5, none⟩ = some (.int .u8 (k : Int)) ∧ w'.cell? ⟨bb, oo + j * 5 + 1, none⟩ = some (.int .u32 (t : Int)) ∧ w'.cell? ⟨bb, oo + j * 5 + 2, none⟩ = some (.int .u8 (r : Int)) ∧ w'.cell? ⟨bb, oo + j * 5 + 3, none⟩ = some (.slice uo nu uc) ∧ w'.cell? ⟨bb, oo + j * 5 + 4, none⟩ = some (.int .i64 p)) := fun W h => ⟨h, (F1.out.keeps h).2⟩
    clear hk ht hr hp HO
    by_cases hk2 : k = 2
    rotate_left
    · have qk : ((k : Int) == 2) = false := by simp; omega
      rw [show (if k = 2 ∧ en = false then insM out x else out) = out from if_neg (fun h => hk2 h.1)] at ST
      rw [← ST.out] at HM hshr
      go_wp2
      go_roundw
      case rel => exact ⟨j + 1, m, by omega, by go_num, ⟨aoL, capL, rfl⟩, HM, Lib.hid (hshr.out.keeps (Below.refl _ _)), Lib.hid (bt hbel.out (Below.refl _ _))⟩
      case measure => simp [intOf]; omega
    subst hk2
    have ST1 : Hid (en = true → livesM l (l.take (j + 1)) = out) := fun h => by rw [ST.out, h]; exact if_neg (fun h => by cases h.2)
    have ST2 : Hid (en = false → livesM l (l.take (j + 1)) = insM out x) := fun h => by rw [ST.out, h]; exact if_pos ⟨rfl, rfl⟩
    clear ST
    go_wp2_with fail
    refine (EX.out _ hbel.out).mono ?_
    rintro e w5 ⟨rfl, b5⟩
    cases en
    rotate_left
    · have e9 := ST1.out rfl
      rw [← e9] at HM hshr
      clear e9
      go_wp2
      go_roundw
      case rel => exact ⟨j + 1, m, by omega, by go_num, ⟨aoL, capL, rfl⟩, HM, Lib.hid (hshr.out.keeps b5), Lib.hid (bt hbel.out b5)⟩
      case measure => simp [intOf]; omega
    have ST := Lib.hid (ST2.out rfl)
    clear ST1 ST2
    have hsh := Lib.hid (hshr.out.keeps b5)
    have hb2 := Lib.hid (bt hbel.out b5)
    have F2 := Lib.hid (F1.out.keeps b5)
    clear b5 hshr hbel F1 SK EX hbb h0 h1 h2 h3 h4
    have hmo : out.length = m := HM.out.symm
    go_wp2
    go_loopw [5] (fun a wz => ∃ i : Nat, i ≤ m ∧ a = .int .i64 (i : Int) ∧ Hid (∀ k (h : k < out.length), k < i → ahead (out[k]'h) x = true) ∧ Hid (Below w5.heap.size w5 wz)) (fun a _ => m - (intOf a).toNat)
    case atStart => exact ⟨0, by omega, rfl, fun k h hk => by omega, Below.refl _ _⟩
    case round =>
      obtain ⟨i, him, rfl, hah, hbz⟩ := hrel
      have OZ := Lib.hid ((hsh.out.keeps hbz.out).seq (bt hb2.out hbz.out))
      have k0 : i ≤ capL := by have := (shr_fix hsh.out).cap; omega
      have k1 : (0 : Int) ≤ (i : Int) := by omega
      have k2 : (i : Int) ≤ (capL : Int) := by omega
      have k3 : (i : Int) ≤ (m : Int) := by omega
      by_cases hlt : i < m
      · have q6 : decide ((i : Int) < (m : Int)) = true := decide_eq_true (by omega)
        have q7 : decide (i < m) = true := decide_eq_true (by omega)
        have q8 : (i : Int) < (m : Int) := by omega
        have hil : i < out.length := by omega
        obtain ⟨bby, ooy, uy, ey, hbby, hruy, h0y, h1y, h2y, h3y, h4y⟩ := opl_at (OZ.out) i hil
        subst ey
        obtain ⟨xy, hxy⟩ : ∃ x, x = out[i]'hil := ⟨_, rfl⟩
        rw [← hxy] at hruy h0y h1y h2y h4y
        have HOy : Hid (∀ v : Value, opv xy v = .agg #[.int .u8 (xy.k : Int), .int .u32 (xy.t : Int), .int .u8 (xy.r : Int), v, .int .i64 xy.p]) := fun v => rfl
        have hym : xy ∈ out := by rw [hxy]; exact List.getElem_mem _
        have HE : Hid (∀ W : World, Below wr.heap.size wr W → Calls Tryz.prog 45 #[uy, .slice uo nu uc] W fun e w' => e = .returned (.int .i64 (cmp xy.pl x.pl)) ∧ Below W.heap.size W w') := fun W h => refHeldM_any (hruy.keeps h) (RX.out.keeps (bt (bt hb2.out hbz.out) h)) (ML.out xy hym) MX.out
        obtain ⟨c, hc⟩ : ∃ c, cmp xy.pl x.pl = c := ⟨_, rfl⟩
        rw [hc] at HE
        have HAH : Hid (ahead (out[i]'hil) x = decide (c < 0)) := by unfold Hid ahead; rw [← hxy, hc]
        have f3 := ((F2.out.keeps hbz.out).2).2.2.2.1
        have g3 := (F2.out.keeps hbz.out).1
        have SK : Hid (∀ w' : World, Below wr.heap.size wr w' → Below wr.heap.size wr w' ∧ w'.cell? ⟨bb, oo + j * 5 + 3, none⟩ = some (.slice uo nu uc) ∧ w'.cell? ⟨bby, ooy + i * 5 + 3, none⟩ = some uy) := fun W h => ⟨h, (h.cell (p := ⟨bb, oo + j * 5 + 3, none⟩) g3).trans f3, (h.cell (p := ⟨bby, ooy + i * 5 + 3, none⟩) hbby).trans h3y⟩
        clear h0y h1y h2y h3y h4y f3 g3 hbby hruy hym hxy hc HOy
        by_cases hcn : c < 0
        · have q9 : decide (c < 0) = true := decide_eq_true hcn
          have AH : Hid (∀ k (h : k < out.length), k < i + 1 → ahead (out[k]'h) x = true) := fun k h hk => by
            by_cases e : k = i
            · subst e; rw [HAH.out]; exact q9
            · exact hah.out k h (by omega)
          clear HAH hah
          go_wp2
          refine wp_region_held_drew (S := fun w' => Below wr.heap.size wr w' ∧ w'.cell? ⟨bb, oo + j * 5 + 3, none⟩ = some (.slice uo nu uc) ∧ w'.cell? ⟨bby, ooy + i * 5 + 3, none⟩ = some uy) (by kernel_rfl) (SK.out _ (drew1 _)) (fun hHeld => ?_)
          refine wpAnyH_take (i := 0) (v := ?vd0) rfl (by kernel_rfl) (by kernel_rfl) (by kernel_rfl) (fun _ _ _ h => h) (Or.inl ⟨by rfl, ?yd0⟩) (by assumption) ?_
          case yd0 => intro w hSw; (try dsimp only at hSw); go_simp <;> with_reducible rfl
          try simp only [List.getElem_toArray, List.getElem_cons_zero, Act.put, List.setIfInBounds_toArray, List.set_cons_zero, List.set_cons_succ]
          refine wpAnyH_take (i := 1) (v := ?vd1) rfl (by kernel_rfl) (by kernel_rfl) (by kernel_rfl) (fun _ _ _ h => h) (Or.inl ⟨by rfl, ?yd1⟩) (by assumption) ?_
          case yd1 => intro w hSw; (try dsimp only at hSw); go_simp <;> with_reducible rfl
          try simp only [List.getElem_toArray, List.getElem_cons_succ, List.getElem_cons_zero, Act.put, List.setIfInBounds_toArray, List.set_cons_zero, List.set_cons_succ]
          refine wpAnyH_take (i := 2) (v := ?vd2) rfl (by kernel_rfl) (by kernel_rfl) (by kernel_rfl) (fun _ _ _ h => h) (Or.inl ⟨by rfl, ?yd2⟩) (by assumption) ?_
          case yd2 => intro w hSw; (try dsimp only at hSw); go_simp <;> with_reducible rfl
          try simp only [List.getElem_toArray, List.getElem_cons_succ, List.getElem_cons_zero, Act.put, List.setIfInBounds_toArray, List.set_cons_zero, List.set_cons_succ]
          refine wpAnyH_take (i := 3) (v := ?vd3) rfl (by kernel_rfl) (by kernel_rfl) (by kernel_rfl) (fun _ _ _ h => h) (Or.inl ⟨by rfl, ?yd3⟩) (by assumption) ?_
          case yd3 => intro w hSw; (try dsimp only at hSw); go_simp <;> with_reducible rfl
          try simp only [List.getElem_toArray, List.getElem_cons_succ, List.getElem_cons_zero, Act.put, List.setIfInBounds_toArray, List.set_cons_zero, List.set_cons_succ]
          refine wpAnyH_take (i := 4) (v := ?vd4) rfl (by kernel_rfl) (by kernel_rfl) (by kernel_rfl) (fun _ _ _ h => h) (Or.inl ⟨by rfl, ?yd4⟩) (by assumption) ?_
          case yd4 => intro w hSw; (try dsimp only at hSw); go_simp <;> with_reducible rfl
          try simp only [List.getElem_toArray, List.getElem_cons_succ, List.getElem_cons_zero, Act.put, List.setIfInBounds_toArray, List.set_cons_zero, List.set_cons_succ]
          refine wpAnyH_take (i := 5) (v := ?vd5) rfl (by kernel_rfl) (by kernel_rfl) (by kernel_rfl) (fun _ _ _ h => h) (Or.inl ⟨by rfl, ?yd5⟩) (by assumption) ?_
          case yd5 => intro w hSw; (try dsimp only at hSw); go_simp <;> with_reducible rfl
          try simp only [List.getElem_toArray, List.getElem_cons_succ, List.getElem_cons_zero, Act.put, List.setIfInBounds_toArray, List.set_cons_zero, List.set_cons_succ]
          refine wpAnyH_take (i := 6) (v := ?vd6) rfl (by kernel_rfl) (by kernel_rfl) (by kernel_rfl) (fun _ _ _ h => h) (Or.inl ⟨by rfl, ?yd6⟩) (by assumption) ?_
          case yd6 => intro w hSw; (try dsimp only at hSw); go_simp <;> with_reducible rfl
          try simp only [List.getElem_toArray, List.getElem_cons_succ, List.getElem_cons_zero, Act.put, List.setIfInBounds_toArray, List.set_cons_zero, List.set_cons_succ]
          refine wpAnyH_take (i := 7) (v := ?vd7) rfl (by kernel_rfl) (by kernel_rfl) (by kernel_rfl) (fun _ _ _ h => h) (Or.inl ⟨by rfl, ?yd7⟩) (by assumption) ?_
          case yd7 => intro w hSw; (try dsimp only at hSw); go_simp <;> with_reducible rfl
          try simp only [List.getElem_toArray, List.getElem_cons_succ, List.getElem_cons_zero, Act.put, List.setIfInBounds_toArray, List.set_cons_zero, List.set_cons_succ]
          refine wpAnyH_take (i := 8) (v := ?vd8) rfl (by kernel_rfl) (by kernel_rfl) (by kernel_rfl) (fun _ _ _ h => h) (Or.inl ⟨by rfl, ?yd8⟩) (by assumption) ?_
          case yd8 => intro w hSw; (try dsimp only at hSw); go_simp <;> with_reducible rfl
          try simp only [List.getElem_toArray, List.getElem_cons_succ, List.getElem_cons_zero, Act.put, List.setIfInBounds_toArray, List.set_cons_zero, List.set_cons_succ]
          refine wpAnyH_take (i := 9) (v := ?vd9) rfl (by kernel_rfl) (by kernel_rfl) (by kernel_rfl) (fun _ _ _ h => h) (Or.inl ⟨by rfl, ?yd9⟩) (by assumption) ?_
          case yd9 => intro w hSw; (try dsimp only at hSw); go_simp <;> with_reducible rfl
          try simp only [List.getElem_toArray, List.getElem_cons_succ, List.getElem_cons_zero, Act.put, List.setIfInBounds_toArray, List.set_cons_zero, List.set_cons_succ]
          refine wpAnyH_take (i := 10) (v := ?vd10) rfl (by kernel_rfl) (by kernel_rfl) (by kernel_rfl) (fun _ _ _ h => h) (Or.inl ⟨by rfl, ?yd10⟩) (by assumption) ?_
          case yd10 => intro w hSw; (try dsimp only at hSw); go_simp <;> with_reducible rfl
          try simp only [List.getElem_toArray, List.getElem_cons_succ, List.getElem_cons_zero, Act.put, List.setIfInBounds_toArray, List.set_cons_zero, List.set_cons_succ]
          refine wpAnyH_take (i := 11) (v := ?vd11) rfl (by kernel_rfl) (by kernel_rfl) (by kernel_rfl) (fun _ _ _ h => h) (Or.inl ⟨by rfl, ?yd11⟩) (by assumption) ?_
          case yd11 => intro w hSw; (try dsimp only at hSw); go_simp <;> with_reducible rfl
          try simp only [List.getElem_toArray, List.getElem_cons_succ, List.getElem_cons_zero, Act.put, List.setIfInBounds_toArray, List.set_cons_zero, List.set_cons_succ]
          refine wpAnyH_take (i := 12) (v := ?vd12) rfl (by kernel_rfl) (by kernel_rfl) (by kernel_rfl) (fun _ _ _ h => h) (Or.inl ⟨by rfl, ?yd12⟩) (by assumption) ?_
          case yd12 => intro w hSw; (try dsimp only at hSw); go_simp <;> with_reducible rfl
          try simp only [List.getElem_toArray, List.getElem_cons_succ, List.getElem_cons_zero, Act.put, List.setIfInBounds_toArray, List.set_cons_zero, List.set_cons_succ]
          refine wpAnyH_take (i := 13) (v := ?vd13) rfl (by kernel_rfl) (by kernel_rfl) (by kernel_rfl) (fun _ _ _ h => h) (Or.inl ⟨by rfl, ?yd13⟩) (by assumption) ?_
          case yd13 => intro w hSw; (try dsimp only at hSw); go_simp <;> with_reducible rfl
          try simp only [List.getElem_toArray, List.getElem_cons_succ, List.getElem_cons_zero, Act.put, List.setIfInBounds_toArray, List.set_cons_zero, List.set_cons_succ]
          refine wpAnyH_take (i := 14) (v := ?vd14) rfl (by kernel_rfl) (by kernel_rfl) (by kernel_rfl) (fun _ _ _ h => h) (Or.inl ⟨by rfl, ?yd14⟩) (by assumption) ?_
          case yd14 => intro w hSw; (try dsimp only at hSw); go_simp <;> with_reducible rfl
          try simp only [List.getElem_toArray, List.getElem_cons_succ, List.getElem_cons_zero, Act.put, List.setIfInBounds_toArray, List.set_cons_zero, List.set_cons_succ]
          refine wpAnyH_ready (rs := [15]) (by kernel_rfl) (by simp) ?_
          refine AllReadyH.cons rfl (fun K hK => ?_) ?zd15
          case zd15 => exact AllReadyH.nil
          go_simp
          refine (HE.out _ hHeld.1).mono ?_
          rintro e w9d15 ⟨rfl, b9⟩
          refine hK.out _ _ (SK.out _ (bt hHeld.1 b9)) (fun hNew => ?_)
          clear hHeld
          have hHeld := hNew
          clear hNew hK K
          try simp only [List.getElem_toArray, List.getElem_cons_succ, List.getElem_cons_zero, Act.put, List.setIfInBounds_toArray, List.set_cons_zero, List.set_cons_succ]
          refine wpAnyH_take (i := 16) (v := ?vd16) rfl (by kernel_rfl) (by kernel_rfl) (by kernel_rfl) (fun _ _ _ h => h) (Or.inl ⟨by rfl, ?yd16⟩) (by assumption) ?_
          case yd16 => intro w hSw; (try dsimp only at hSw); go_simp <;> with_reducible rfl
          try simp only [List.getElem_toArray, List.getElem_cons_succ, List.getElem_cons_zero, Act.put, List.setIfInBounds_toArray, List.set_cons_zero, List.set_cons_succ]
          refine wpAnyH_take (i := 17) (v := ?vd17) rfl (by kernel_rfl) (by kernel_rfl) (by kernel_rfl) (fun _ _ _ h => h) (Or.inl ⟨by rfl, ?yd17⟩) (by assumption) ?_
          case yd17 => intro w hSw; (try dsimp only at hSw); go_simp <;> with_reducible rfl
          try simp only [List.getElem_toArray, List.getElem_cons_succ, List.getElem_cons_zero, Act.put, List.setIfInBounds_toArray, List.set_cons_zero, List.set_cons_succ]
          refine wpAnyH_done (by kernel_rfl) ?_ _
          go_wp2
          go_roundw
          case rel => exact ⟨i + 1, by omega, by go_num, AH, Lib.hid (bt hbz.out hHeld.1)⟩
          case measure => simp [intOf]; omega
        · have q9 : decide (c < 0) = false := decide_eq_false hcn
          have AT : Hid (atM out x = i) := atM_is (by omega) hah.out (fun h => by rw [HAH.out]; exact q9)
          clear HAH
          go_wp2
          refine wp_region_held_drew (S := fun w' => Below wr.heap.size wr w' ∧ w'.cell? ⟨bb, oo + j * 5 + 3, none⟩ = some (.slice uo nu uc) ∧ w'.cell? ⟨bby, ooy + i * 5 + 3, none⟩ = some uy) (by kernel_rfl) (SK.out _ (drew1 _)) (fun hHeld => ?_)
          refine wpAnyH_take (i := 0) (v := ?ve0) rfl (by kernel_rfl) (by kernel_rfl) (by kernel_rfl) (fun _ _ _ h => h) (Or.inl ⟨by rfl, ?ye0⟩) (by assumption) ?_
          case ye0 => intro w hSw; (try dsimp only at hSw); go_simp <;> with_reducible rfl
          try simp only [List.getElem_toArray, List.getElem_cons_zero, Act.put, List.setIfInBounds_toArray, List.set_cons_zero, List.set_cons_succ]
          refine wpAnyH_take (i := 1) (v := ?ve1) rfl (by kernel_rfl) (by kernel_rfl) (by kernel_rfl) (fun _ _ _ h => h) (Or.inl ⟨by rfl, ?ye1⟩) (by assumption) ?_
          case ye1 => intro w hSw; (try dsimp only at hSw); go_simp <;> with_reducible rfl
          try simp only [List.getElem_toArray, List.getElem_cons_succ, List.getElem_cons_zero, Act.put, List.setIfInBounds_toArray, List.set_cons_zero, List.set_cons_succ]
          refine wpAnyH_take (i := 2) (v := ?ve2) rfl (by kernel_rfl) (by kernel_rfl) (by kernel_rfl) (fun _ _ _ h => h) (Or.inl ⟨by rfl, ?ye2⟩) (by assumption) ?_
          case ye2 => intro w hSw; (try dsimp only at hSw); go_simp <;> with_reducible rfl
          try simp only [List.getElem_toArray, List.getElem_cons_succ, List.getElem_cons_zero, Act.put, List.setIfInBounds_toArray, List.set_cons_zero, List.set_cons_succ]
          refine wpAnyH_take (i := 3) (v := ?ve3) rfl (by kernel_rfl) (by kernel_rfl) (by kernel_rfl) (fun _ _ _ h => h) (Or.inl ⟨by rfl, ?ye3⟩) (by assumption) ?_
          case ye3 => intro w hSw; (try dsimp only at hSw); go_simp <;> with_reducible rfl
          try simp only [List.getElem_toArray, List.getElem_cons_succ, List.getElem_cons_zero, Act.put, List.setIfInBounds_toArray, List.set_cons_zero, List.set_cons_succ]
          refine wpAnyH_take (i := 4) (v := ?ve4) rfl (by kernel_rfl) (by kernel_rfl) (by kernel_rfl) (fun _ _ _ h => h) (Or.inl ⟨by rfl, ?ye4⟩) (by assumption) ?_
          case ye4 => intro w hSw; (try dsimp only at hSw); go_simp <;> with_reducible rfl
          try simp only [List.getElem_toArray, List.getElem_cons_succ, List.getElem_cons_zero, Act.put, List.setIfInBounds_toArray, List.set_cons_zero, List.set_cons_succ]
          refine wpAnyH_take (i := 5) (v := ?ve5) rfl (by kernel_rfl) (by kernel_rfl) (by kernel_rfl) (fun _ _ _ h => h) (Or.inl ⟨by rfl, ?ye5⟩) (by assumption) ?_
          case ye5 => intro w hSw; (try dsimp only at hSw); go_simp <;> with_reducible rfl
          try simp only [List.getElem_toArray, List.getElem_cons_succ, List.getElem_cons_zero, Act.put, List.setIfInBounds_toArray, List.set_cons_zero, List.set_cons_succ]
          refine wpAnyH_take (i := 6) (v := ?ve6) rfl (by kernel_rfl) (by kernel_rfl) (by kernel_rfl) (fun _ _ _ h => h) (Or.inl ⟨by rfl, ?ye6⟩) (by assumption) ?_
          case ye6 => intro w hSw; (try dsimp only at hSw); go_simp <;> with_reducible rfl
          try simp only [List.getElem_toArray, List.getElem_cons_succ, List.getElem_cons_zero, Act.put, List.setIfInBounds_toArray, List.set_cons_zero, List.set_cons_succ]
          refine wpAnyH_take (i := 7) (v := ?ve7) rfl (by kernel_rfl) (by kernel_rfl) (by kernel_rfl) (fun _ _ _ h => h) (Or.inl ⟨by rfl, ?ye7⟩) (by assumption) ?_
          case ye7 => intro w hSw; (try dsimp only at hSw); go_simp <;> with_reducible rfl
          try simp only [List.getElem_toArray, List.getElem_cons_succ, List.getElem_cons_zero, Act.put, List.setIfInBounds_toArray, List.set_cons_zero, List.set_cons_succ]
          refine wpAnyH_take (i := 8) (v := ?ve8) rfl (by kernel_rfl) (by kernel_rfl) (by kernel_rfl) (fun _ _ _ h => h) (Or.inl ⟨by rfl, ?ye8⟩) (by assumption) ?_
          case ye8 => intro w hSw; (try dsimp only at hSw); go_simp <;> with_reducible rfl
          try simp only [List.getElem_toArray, List.getElem_cons_succ, List.getElem_cons_zero, Act.put, List.setIfInBounds_toArray, List.set_cons_zero, List.set_cons_succ]
          refine wpAnyH_take (i := 9) (v := ?ve9) rfl (by kernel_rfl) (by kernel_rfl) (by kernel_rfl) (fun _ _ _ h => h) (Or.inl ⟨by rfl, ?ye9⟩) (by assumption) ?_
          case ye9 => intro w hSw; (try dsimp only at hSw); go_simp <;> with_reducible rfl
          try simp only [List.getElem_toArray, List.getElem_cons_succ, List.getElem_cons_zero, Act.put, List.setIfInBounds_toArray, List.set_cons_zero, List.set_cons_succ]
          refine wpAnyH_take (i := 10) (v := ?ve10) rfl (by kernel_rfl) (by kernel_rfl) (by kernel_rfl) (fun _ _ _ h => h) (Or.inl ⟨by rfl, ?ye10⟩) (by assumption) ?_
          case ye10 => intro w hSw; (try dsimp only at hSw); go_simp <;> with_reducible rfl
          try simp only [List.getElem_toArray, List.getElem_cons_succ, List.getElem_cons_zero, Act.put, List.setIfInBounds_toArray, List.set_cons_zero, List.set_cons_succ]
          refine wpAnyH_take (i := 11) (v := ?ve11) rfl (by kernel_rfl) (by kernel_rfl) (by kernel_rfl) (fun _ _ _ h => h) (Or.inl ⟨by rfl, ?ye11⟩) (by assumption) ?_
          case ye11 => intro w hSw; (try dsimp only at hSw); go_simp <;> with_reducible rfl
          try simp only [List.getElem_toArray, List.getElem_cons_succ, List.getElem_cons_zero, Act.put, List.setIfInBounds_toArray, List.set_cons_zero, List.set_cons_succ]
          refine wpAnyH_take (i := 12) (v := ?ve12) rfl (by kernel_rfl) (by kernel_rfl) (by kernel_rfl) (fun _ _ _ h => h) (Or.inl ⟨by rfl, ?ye12⟩) (by assumption) ?_
          case ye12 => intro w hSw; (try dsimp only at hSw); go_simp <;> with_reducible rfl
          try simp only [List.getElem_toArray, List.getElem_cons_succ, List.getElem_cons_zero, Act.put, List.setIfInBounds_toArray, List.set_cons_zero, List.set_cons_succ]
          refine wpAnyH_take (i := 13) (v := ?ve13) rfl (by kernel_rfl) (by kernel_rfl) (by kernel_rfl) (fun _ _ _ h => h) (Or.inl ⟨by rfl, ?ye13⟩) (by assumption) ?_
          case ye13 => intro w hSw; (try dsimp only at hSw); go_simp <;> with_reducible rfl
          try simp only [List.getElem_toArray, List.getElem_cons_succ, List.getElem_cons_zero, Act.put, List.setIfInBounds_toArray, List.set_cons_zero, List.set_cons_succ]
          refine wpAnyH_take (i := 14) (v := ?ve14) rfl (by kernel_rfl) (by kernel_rfl) (by kernel_rfl) (fun _ _ _ h => h) (Or.inl ⟨by rfl, ?ye14⟩) (by assumption) ?_
          case ye14 => intro w hSw; (try dsimp only at hSw); go_simp <;> with_reducible rfl
          try simp only [List.getElem_toArray, List.getElem_cons_succ, List.getElem_cons_zero, Act.put, List.setIfInBounds_toArray, List.set_cons_zero, List.set_cons_succ]
          refine wpAnyH_ready (rs := [15]) (by kernel_rfl) (by simp) ?_
          refine AllReadyH.cons rfl (fun K hK => ?_) ?ze15
          case ze15 => exact AllReadyH.nil
          go_simp
          refine (HE.out _ hHeld.1).mono ?_
          rintro e w9e15 ⟨rfl, b9⟩
          refine hK.out _ _ (SK.out _ (bt hHeld.1 b9)) (fun hNew => ?_)
          clear hHeld
          have hHeld := hNew
          clear hNew hK K
          try simp only [List.getElem_toArray, List.getElem_cons_succ, List.getElem_cons_zero, Act.put, List.setIfInBounds_toArray, List.set_cons_zero, List.set_cons_succ]
          refine wpAnyH_take (i := 16) (v := ?ve16) rfl (by kernel_rfl) (by kernel_rfl) (by kernel_rfl) (fun _ _ _ h => h) (Or.inl ⟨by rfl, ?ye16⟩) (by assumption) ?_
          case ye16 => intro w hSw; (try dsimp only at hSw); go_simp <;> with_reducible rfl
          try simp only [List.getElem_toArray, List.getElem_cons_succ, List.getElem_cons_zero, Act.put, List.setIfInBounds_toArray, List.set_cons_zero, List.set_cons_succ]
          refine wpAnyH_take (i := 17) (v := ?ve17) rfl (by kernel_rfl) (by kernel_rfl) (by kernel_rfl) (fun _ _ _ h => h) (Or.inl ⟨by rfl, ?ye17⟩) (by assumption) ?_
          case ye17 => intro w hSw; (try dsimp only at hSw); go_simp <;> with_reducible rfl
          try simp only [List.getElem_toArray, List.getElem_cons_succ, List.getElem_cons_zero, Act.put, List.setIfInBounds_toArray, List.set_cons_zero, List.set_cons_succ]
          refine wpAnyH_done (by kernel_rfl) ?_ _
          have SZ := Lib.hid ((hsh.out.keeps hbz.out).keeps hHeld.1)
          have BZ := Lib.hid (bt (bt hb2.out hbz.out) hHeld.1)
          have FZ := Lib.hid (F2.out.keeps (bt hbz.out hHeld.1))
          clear hHeld OZ hsh hb2 F2 hbz hah
          rcases shr_drop SZ.out him with ⟨e1, -, -, -⟩ | ⟨ab, aof, a', e1, hif, hpart⟩
          · cases e1
          have PT := Lib.hid hpart
          cases e1
          clear hpart
          try dsimp only at hif
          have HN1 : Hid (i = ([] : List Opn).length + (out.take i).length) := by unfold Hid; rw [List.length_nil, List.length_take]; omega
          have HN2 : Hid (i = (out.take i).length) := by unfold Hid; rw [List.length_take]; omega
          have HN3 : Hid (m + 1 = (out.take i ++ [x]).length + (out.drop i).length) := by unfold Hid; rw [List.length_append, List.length_take, List.length_drop, List.length_singleton]; omega
          have HTK : Hid (Seq (fixE (fixE opE w) w9e15) w9e15 (.slice (some ⟨bby, ooy, none⟩) i capL) (out.take i)) := (shr_fix SZ.out).take (m := i) (by omega)
          go_wp2_with (at_builtin; refine wpList_append_shr (E := fixE opE w) Tryz.underlying22 op_info rfl (w0 := w9e15) (by rfl) (.tmp 48) (.tmp 51) (by rfl) (by rfl) (Shr.nil _ _ _ _) (by rfl) HTK.out HN1.out (by omega) (by omega) (Nat.le_refl _) ?_)
          rintro v6 w6 s6 a6 c6 rfl b6
          have S6 := Lib.hid s6
          have W6 := Lib.hid b6
          obtain ⟨h0, h1, h2, h3, h4⟩ := (FZ.out.keeps b6).2
          clear s6 b6 FZ HTK
          go_wp2_with (at_builtin; refine wpList_append_enc (E := fixE opE w) Tryz.underlying22 op_info rfl (w0 := w9e15) (wp := w6) (by rfl) (.tmp 53) (.tmp 58) (by rfl) (by rfl) S6.out (G := w6.heap.size) (by rfl) rfl (c := #[.int .u8 2, .int .u32 (t : Int), .int .u8 (r : Int), .slice uo nu uc, .int .i64 p]) INN.out HN2.out (by omega) (by omega) W6.out.size ?_)
          rintro v7 w7 s7 a7 c7 rfl b7
          have S7 := Lib.hid s7
          have W7 := Lib.hid (W6.out.trans b7)
          clear s7 b7 S6 W6 h0 h1 h2 h3 h4
          have P7 : Hid (Seq (fixE (fixE opE w) w9e15) w7 (.slice (some a') (m - i) (capL - i)) (out.drop i)) := (Seq.keeps PT.out W7.out)
          go_wp2_with (at_builtin; refine wpList_append_shr (E := fixE opE w) Tryz.underlying22 op_info rfl (w0 := w9e15) (by rfl) (.tmp 60) (.tmp 63) (by rfl) (by rfl) S7.out (by rfl) P7.out HN3.out (by omega) (by omega) W7.out.size ?_)
          rintro v8 w8 s8 a8 c8 rfl b8
          have S8 := Lib.hid s8
          have B8 := Lib.hid (bt BZ.out (W7.out.trans b8))
          have O8 : Hid (ShrO w w8 (.slice a8 (m + 1) c8) (livesM l (l.take (j + 1)))) := by
            unfold Hid
            have h9 := shr_unfix S8.out BZ.out.size
            rw [ST.out]
            unfold insM
            rw [AT.out]
            simpa using h9
          have M8 : Hid (m + 1 = (livesM l (l.take (j + 1))).length) := by unfold Hid; rw [ST.out, insM_len]; omega
          clear S8
          go_wp2
          go_roundw
          case rel => exact ⟨j + 1, m + 1, by omega, by go_num, ⟨a8, c8, rfl⟩, M8, O8, B8⟩
          case measure => simp [intOf]; omega
      · have him3 : ¬ (i : Int) < (m : Int) := by omega
        have q6 : decide ((i : Int) < (m : Int)) = false := decide_eq_false (by omega)
        have q7 : decide (i < m) = false := decide_eq_false (by omega)
        have AT : Hid (atM out x = i) := atM_is (by omega) hah.out (fun h => by omega)
        have SK : Hid (∀ w' : World, Below wr.heap.size wr w' → Below wr.heap.size wr w' ∧ True) := fun W h => ⟨h, trivial⟩
        go_wp2
        refine wp_region_held_drew (S := fun w' => Below wr.heap.size wr w' ∧ True) (by kernel_rfl) (SK.out _ (drew1 _)) (fun hHeld => ?_)
        refine wpAnyH_take (i := 0) (v := ?vf0) rfl (by kernel_rfl) (by kernel_rfl) (by kernel_rfl) (fun _ _ _ h => h) (Or.inl ⟨by rfl, ?yf0⟩) (by assumption) ?_
        case yf0 => intro w hSw; (try dsimp only at hSw); go_simp <;> with_reducible rfl
        try simp only [List.getElem_toArray, List.getElem_cons_zero, Act.put, List.setIfInBounds_toArray, List.set_cons_zero, List.set_cons_succ]
        refine wpAnyH_take (i := 1) (v := ?vf1) rfl (by kernel_rfl) (by kernel_rfl) (by kernel_rfl) (fun _ _ _ h => h) (Or.inl ⟨by rfl, ?yf1⟩) (by assumption) ?_
        case yf1 => intro w hSw; (try dsimp only at hSw); go_simp <;> with_reducible rfl
        try simp only [List.getElem_toArray, List.getElem_cons_succ, List.getElem_cons_zero, Act.put, List.setIfInBounds_toArray, List.set_cons_zero, List.set_cons_succ]
        refine wpAnyH_take (i := 2) (v := ?vf2) rfl (by kernel_rfl) (by kernel_rfl) (by kernel_rfl) (fun _ _ _ h => h) (Or.inl ⟨by rfl, ?yf2⟩) (by assumption) ?_
        case yf2 => intro w hSw; (try dsimp only at hSw); go_simp <;> with_reducible rfl
        try simp only [List.getElem_toArray, List.getElem_cons_succ, List.getElem_cons_zero, Act.put, List.setIfInBounds_toArray, List.set_cons_zero, List.set_cons_succ]
        refine wpAnyH_take (i := 3) (v := ?vf3) rfl (by kernel_rfl) (by kernel_rfl) (by kernel_rfl) (fun _ _ _ h => h) (Or.inl ⟨by rfl, ?yf3⟩) (by assumption) ?_
        case yf3 => intro w hSw; (try dsimp only at hSw); go_simp <;> with_reducible rfl
        try simp only [List.getElem_toArray, List.getElem_cons_succ, List.getElem_cons_zero, Act.put, List.setIfInBounds_toArray, List.set_cons_zero, List.set_cons_succ]
        refine wpAnyH_take (i := 4) (v := ?vf4) rfl (by kernel_rfl) (by kernel_rfl) (by kernel_rfl) (fun _ _ _ h => h) (Or.inl ⟨by rfl, ?yf4⟩) (by assumption) ?_
        case yf4 => intro w hSw; (try dsimp only at hSw); go_simp <;> with_reducible rfl
        try simp only [List.getElem_toArray, List.getElem_cons_succ, List.getElem_cons_zero, Act.put, List.setIfInBounds_toArray, List.set_cons_zero, List.set_cons_succ]
        refine wpAnyH_take (i := 5) (v := undef) rfl (by kernel_rfl) (by kernel_rfl) (by kernel_rfl) (fun _ _ _ h => h) (Or.inr ⟨by rfl, rfl⟩) (by assumption) ?_
        try simp only [List.getElem_toArray, List.getElem_cons_succ, List.getElem_cons_zero, Act.put, List.setIfInBounds_toArray, List.set_cons_zero, List.set_cons_succ]
        refine wpAnyH_take (i := 6) (v := undef) rfl (by kernel_rfl) (by kernel_rfl) (by kernel_rfl) (fun _ _ _ h => h) (Or.inr ⟨by rfl, rfl⟩) (by assumption) ?_
        try simp only [List.getElem_toArray, List.getElem_cons_succ, List.getElem_cons_zero, Act.put, List.setIfInBounds_toArray, List.set_cons_zero, List.set_cons_succ]
        refine wpAnyH_take (i := 7) (v := undef) rfl (by kernel_rfl) (by kernel_rfl) (by kernel_rfl) (fun _ _ _ h => h) (Or.inr ⟨by rfl, rfl⟩) (by assumption) ?_
        try simp only [List.getElem_toArray, List.getElem_cons_succ, List.getElem_cons_zero, Act.put, List.setIfInBounds_toArray, List.set_cons_zero, List.set_cons_succ]
        refine wpAnyH_take (i := 8) (v := undef) rfl (by kernel_rfl) (by kernel_rfl) (by kernel_rfl) (fun _ _ _ h => h) (Or.inr ⟨by rfl, rfl⟩) (by assumption) ?_
        try simp only [List.getElem_toArray, List.getElem_cons_succ, List.getElem_cons_zero, Act.put, List.setIfInBounds_toArray, List.set_cons_zero, List.set_cons_succ]
        refine wpAnyH_take (i := 9) (v := undef) rfl (by kernel_rfl) (by kernel_rfl) (by kernel_rfl) (fun _ _ _ h => h) (Or.inr ⟨by rfl, rfl⟩) (by assumption) ?_
        try simp only [List.getElem_toArray, List.getElem_cons_succ, List.getElem_cons_zero, Act.put, List.setIfInBounds_toArray, List.set_cons_zero, List.set_cons_succ]
        refine wpAnyH_take (i := 10) (v := undef) rfl (by kernel_rfl) (by kernel_rfl) (by kernel_rfl) (fun _ _ _ h => h) (Or.inr ⟨by rfl, rfl⟩) (by assumption) ?_
        try simp only [List.getElem_toArray, List.getElem_cons_succ, List.getElem_cons_zero, Act.put, List.setIfInBounds_toArray, List.set_cons_zero, List.set_cons_succ]
        refine wpAnyH_take (i := 11) (v := undef) rfl (by kernel_rfl) (by kernel_rfl) (by kernel_rfl) (fun _ _ _ h => h) (Or.inr ⟨by rfl, rfl⟩) (by assumption) ?_
        try simp only [List.getElem_toArray, List.getElem_cons_succ, List.getElem_cons_zero, Act.put, List.setIfInBounds_toArray, List.set_cons_zero, List.set_cons_succ]
        refine wpAnyH_take (i := 12) (v := undef) rfl (by kernel_rfl) (by kernel_rfl) (by kernel_rfl) (fun _ _ _ h => h) (Or.inr ⟨by rfl, rfl⟩) (by assumption) ?_
        try simp only [List.getElem_toArray, List.getElem_cons_succ, List.getElem_cons_zero, Act.put, List.setIfInBounds_toArray, List.set_cons_zero, List.set_cons_succ]
        refine wpAnyH_take (i := 13) (v := undef) rfl (by kernel_rfl) (by kernel_rfl) (by kernel_rfl) (fun _ _ _ h => h) (Or.inr ⟨by rfl, rfl⟩) (by assumption) ?_
        try simp only [List.getElem_toArray, List.getElem_cons_succ, List.getElem_cons_zero, Act.put, List.setIfInBounds_toArray, List.set_cons_zero, List.set_cons_succ]
        refine wpAnyH_take (i := 14) (v := undef) rfl (by kernel_rfl) (by kernel_rfl) (by kernel_rfl) (fun _ _ _ h => h) (Or.inr ⟨by rfl, rfl⟩) (by assumption) ?_
        try simp only [List.getElem_toArray, List.getElem_cons_succ, List.getElem_cons_zero, Act.put, List.setIfInBounds_toArray, List.set_cons_zero, List.set_cons_succ]
        refine wpAnyH_take (i := 15) (v := undef) rfl (by kernel_rfl) (by kernel_rfl) (by kernel_rfl) (fun _ _ _ h => h) (Or.inr ⟨by rfl, rfl⟩) (by assumption) ?_
        try simp only [List.getElem_toArray, List.getElem_cons_succ, List.getElem_cons_zero, Act.put, List.setIfInBounds_toArray, List.set_cons_zero, List.set_cons_succ]
        refine wpAnyH_take (i := 16) (v := undef) rfl (by kernel_rfl) (by kernel_rfl) (by kernel_rfl) (fun _ _ _ h => h) (Or.inr ⟨by rfl, rfl⟩) (by assumption) ?_
        try simp only [List.getElem_toArray, List.getElem_cons_succ, List.getElem_cons_zero, Act.put, List.setIfInBounds_toArray, List.set_cons_zero, List.set_cons_succ]
        refine wpAnyH_take (i := 17) (v := ?vf17) rfl (by kernel_rfl) (by kernel_rfl) (by kernel_rfl) (fun _ _ _ h => h) (Or.inl ⟨by rfl, ?yf17⟩) (by assumption) ?_
        case yf17 => intro w hSw; (try dsimp only at hSw); go_simp <;> with_reducible rfl
        try simp only [List.getElem_toArray, List.getElem_cons_succ, List.getElem_cons_zero, Act.put, List.setIfInBounds_toArray, List.set_cons_zero, List.set_cons_succ]
        refine wpAnyH_done (by kernel_rfl) ?_ _
        have SZ := Lib.hid ((hsh.out.keeps hbz.out).keeps hHeld.1)
        have BZ := Lib.hid (bt (bt hb2.out hbz.out) hHeld.1)
        have FZ := Lib.hid (F2.out.keeps (bt hbz.out hHeld.1))
        clear hHeld OZ hsh hb2 F2 hbz hah
        generalize wr.drew = WB at SZ BZ FZ ⊢
        rcases shr_drop SZ.out him with ⟨e1, e2, e3, e4⟩ | ⟨ab, aof, a', e1, hif, hpart⟩
        · subst e1 e2 e3 e4
          obtain rfl : i = 0 := by omega
          have HN1 : Hid (0 = ([] : List Opn).length + (([] : List Opn).take 0).length) := by unfold Hid; rw [List.length_nil, List.length_take]; omega
          have HN2 : Hid (0 = (([] : List Opn).take 0).length) := by unfold Hid; rw [List.length_take]; omega
          have HN3 : Hid (0 + 1 = (([] : List Opn).take 0 ++ [x]).length + (([] : List Opn).drop 0).length) := by unfold Hid; rw [List.length_append, List.length_take, List.length_drop, List.length_singleton]; omega
          have HTK : Hid (Seq (fixE (fixE opE w) WB) WB (.slice none 0 0) (([] : List Opn).take 0)) := (shr_fix SZ.out).take (m := 0) (by omega)
          go_wp2_with (at_builtin; refine wpList_append_shr (E := fixE opE w) Tryz.underlying22 op_info rfl (w0 := WB) (by rfl) (.tmp 48) (.tmp 51) (by rfl) (by rfl) (Shr.nil _ _ _ _) (by rfl) HTK.out HN1.out (by omega) (by omega) (Nat.le_refl _) ?_)
          rintro v6 w6 s6 a6 c6 rfl b6
          have S6 := Lib.hid s6
          have W6 := Lib.hid b6
          obtain ⟨h0, h1, h2, h3, h4⟩ := (FZ.out.keeps b6).2
          clear s6 b6 FZ HTK
          go_wp2_with (at_builtin; refine wpList_append_enc (E := fixE opE w) Tryz.underlying22 op_info rfl (w0 := WB) (wp := w6) (by rfl) (.tmp 53) (.tmp 58) (by rfl) (by rfl) S6.out (G := w6.heap.size) (by rfl) rfl (c := #[.int .u8 2, .int .u32 (t : Int), .int .u8 (r : Int), .slice uo nu uc, .int .i64 p]) INN.out HN2.out (by omega) (by omega) W6.out.size ?_)
          rintro v7 w7 s7 a7 c7 rfl b7
          have S7 := Lib.hid s7
          have W7 := Lib.hid (W6.out.trans b7)
          clear s7 b7 S6 W6 h0 h1 h2 h3 h4
          have P7 : Hid (Seq (fixE (fixE opE w) WB) w7 (.slice none 0 0) ([] : List Opn)) := Seq.nil _ _
          go_wp2_with (at_builtin; refine wpList_append_shr (E := fixE opE w) Tryz.underlying22 op_info rfl (w0 := WB) (by rfl) (.tmp 60) (.tmp 63) (by rfl) (by rfl) S7.out (by rfl) P7.out HN3.out (by omega) (by omega) W7.out.size ?_)
          rintro v8 w8 s8 a8 c8 rfl b8
          have S8 := Lib.hid s8
          have B8 := Lib.hid (bt BZ.out (W7.out.trans b8))
          have O8 : Hid (ShrO w w8 (.slice a8 (0 + 1) c8) (livesM l (l.take (j + 1)))) := by
            unfold Hid
            have h9 := shr_unfix S8.out BZ.out.size
            rw [ST.out]
            unfold insM
            rw [AT.out]
            simpa using h9
          have M8 : Hid (0 + 1 = (livesM l (l.take (j + 1))).length) := by unfold Hid; rw [ST.out, insM_len]; omega
          clear S8
          go_wp2
          go_roundw
          case rel => exact ⟨j + 1, 0 + 1, by omega, by go_num, ⟨a8, c8, rfl⟩, M8, O8, B8⟩
          case measure => simp [intOf]; omega
        have PT := Lib.hid hpart
        try dsimp only at hif
        subst e1
        clear hpart
        have HN1 : Hid (i = ([] : List Opn).length + (out.take i).length) := by unfold Hid; rw [List.length_nil, List.length_take]; omega
        have HN2 : Hid (i = (out.take i).length) := by unfold Hid; rw [List.length_take]; omega
        have HN3 : Hid (m + 1 = (out.take i ++ [x]).length + (out.drop i).length) := by unfold Hid; rw [List.length_append, List.length_take, List.length_drop, List.length_singleton]; omega
        have HTK : Hid (Seq (fixE (fixE opE w) WB) WB (.slice (some ⟨ab, aof, none⟩) i capL) (out.take i)) := (shr_fix SZ.out).take (m := i) (by omega)
        go_wp2_with (at_builtin; refine wpList_append_shr (E := fixE opE w) Tryz.underlying22 op_info rfl (w0 := WB) (by rfl) (.tmp 48) (.tmp 51) (by rfl) (by rfl) (Shr.nil _ _ _ _) (by rfl) HTK.out HN1.out (by omega) (by omega) (Nat.le_refl _) ?_)
        rintro v6 w6 s6 a6 c6 rfl b6
        have S6 := Lib.hid s6
        have W6 := Lib.hid b6
        obtain ⟨h0, h1, h2, h3, h4⟩ := (FZ.out.keeps b6).2
        clear s6 b6 FZ HTK
        go_wp2_with (at_builtin; refine wpList_append_enc (E := fixE opE w) Tryz.underlying22 op_info rfl (w0 := WB) (wp := w6) (by rfl) (.tmp 53) (.tmp 58) (by rfl) (by rfl) S6.out (G := w6.heap.size) (by rfl) rfl (c := #[.int .u8 2, .int .u32 (t : Int), .int .u8 (r : Int), .slice uo nu uc, .int .i64 p]) INN.out HN2.out (by omega) (by omega) W6.out.size ?_)
        rintro v7 w7 s7 a7 c7 rfl b7
        have S7 := Lib.hid s7
        have W7 := Lib.hid (W6.out.trans b7)
        clear s7 b7 S6 W6 h0 h1 h2 h3 h4
        have P7 : Hid (Seq (fixE (fixE opE w) WB) w7 (.slice (some a') (m - i) (capL - i)) (out.drop i)) := (Seq.keeps PT.out W7.out)
        go_wp2_with (at_builtin; refine wpList_append_shr (E := fixE opE w) Tryz.underlying22 op_info rfl (w0 := WB) (by rfl) (.tmp 60) (.tmp 63) (by rfl) (by rfl) S7.out (by rfl) P7.out HN3.out (by omega) (by omega) W7.out.size ?_)
        rintro v8 w8 s8 a8 c8 rfl b8
        have S8 := Lib.hid s8
        have B8 := Lib.hid (bt BZ.out (W7.out.trans b8))
        have O8 : Hid (ShrO w w8 (.slice a8 (m + 1) c8) (livesM l (l.take (j + 1)))) := by
          unfold Hid
          have h9 := shr_unfix S8.out BZ.out.size
          rw [ST.out]
          unfold insM
          rw [AT.out]
          simpa using h9
        have M8 : Hid (m + 1 = (livesM l (l.take (j + 1))).length) := by unfold Hid; rw [ST.out, insM_len]; omega
        clear S8
        go_wp2
        go_roundw
        case rel => exact ⟨j + 1, m + 1, by omega, by go_num, ⟨a8, c8, rfl⟩, M8, O8, B8⟩
        case measure => simp [intOf]; omega

theorem refLive_any {v0 : Value} {l : List Opn} {w : World} (hv : OpL w v0 l) : Calls Tryz.prog 7 #[v0] w (DoneL (liveL l) (chkL l) w) :=
  refLive_of hv (fun hb _ h => refLives_any (hv.keeps h) ((bagB_iff l).1 hb).2.1 ((bagB_iff l).1 hb).1)
end Go.Proofs.YtpgdnenkjommfaaGreat.Marks

/- What calls of marks answer: how long it can be. Conditions: none. -/
namespace Go.Proofs.YtpgdnenkjommfaaGreat.Marks
open Go.RowKit Go.WideShapes Stamp Go.Proofs.YtpgdnenkjommfaaGreat.Place Ops Codes Bags

end Go.Proofs.YtpgdnenkjommfaaGreat.Marks
