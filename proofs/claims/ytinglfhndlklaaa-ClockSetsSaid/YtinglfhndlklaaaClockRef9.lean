/- octavoref08: All, Ids: what each answers. Conditions: the slices' cells are replicas' spans. -/
import Derived.Test.YtinglfhndlklaaaClockRef8
namespace Go.Proofs.Ytinglfhndlklaaa.Clocks
open Go.RowKit Go.Proofs.Ytinglfhndlklaaa.Spans
attribute [local go_sem ↓] Go.wp_at_zero Go.wp_at_succ

theorem allI_take_le (c : List Tm) : ∀ k, (allI (c.take k)).length ≤ (allI c).length := by
  induction c with
  | nil => intro k; simp [allI]
  | cons x c ih =>
    intro k
    cases k with
    | zero => simp [allI]
    | succ k => have := ih k; simp only [List.take_succ_cons, allI, List.length_append]; omega
theorem spI_take_le (r : Nat) (l : List Sp) : ∀ k, (spI r (l.take k)).length ≤ (spI r l).length := by
  induction l with
  | nil => intro k; simp [spI]
  | cons x l ih =>
    intro k
    cases k with
    | zero => simp [spI]
    | succ k => have := ih k; simp only [List.take_succ_cons, spI, List.length_append]; omega
theorem ids_one (a : Id) : ids [a] = [.int .u32 (a.t : Int), .int .u8 (a.r : Int)] := rfl
/-- A row of stamps of the call's own. -/
def OwnI (w : World) (base : Nat) (v : Value) (L : List Id) : Prop := w.ownsRow base 34 2 v L.length (ids L)
theorem OwnI.nil (w : World) (base : Nat) : OwnI w base (.slice none 0 0) [] := World.ownsRow_nil _ _ _ _

set_option maxRecDepth 100000 in
set_option maxHeartbeats 4000000 in
theorem all_any {v : Value} {c : List Tm} {w : World} (hv : Tms w v c) (hc : Cok c) (hmany : manyC c ≤ 1024) :
    Calls Try.prog 56 #[v] w fun e w' => ∃ v', e = .returned v' ∧ OwnI w' w.heap.size v' (allI c) ∧ Below w.heap.size w w' := by
  obtain ⟨ao, cap, rfl⟩ := hv.shape
  obtain ⟨n, hn⟩ : ∃ n, n = c.length := ⟨_, rfl⟩
  have hm : n ≤ 9223372036854775807 := by rw [hn]; exact Tms.max hv
  have HV := Lib.hid hv
  have HN := Lib.hid hn
  have HC := Lib.hid hc
  have HL : Hid ((allI c).length ≤ 1024) := by show _ ≤ _; rw [allI_len (cok_all hc)]; exact hmany
  rw [← hn]
  have B0 := Lib.hid (Below.refl w.heap.size w)
  have O0 : Hid (OwnI w w.heap.size (.slice none 0 0) (allI (c.take 0))) := OwnI.nil _ _
  clear hv hn hc hmany
  go_enter Try.func56, Try.ntmps56
  go_wp2
  go_loopw [3, 4] (fun o i wr => ∃ k : Nat, k ≤ n ∧ i = .int .i64 (k : Int) ∧ Hid (OwnI wr w.heap.size o (allI (c.take k))) ∧ Hid (Below w.heap.size w wr)) (fun _ i _ => n - (intOf i).toNat)
  case atStart => exact ⟨0, by omega, rfl, O0, B0⟩
  case round =>
    clear O0 B0
    obtain ⟨k, hk, rfl, hown, hbel⟩ := hrel
    by_cases hkn : k < n
    · have q1 : decide (k < n) = true := by simpa using hkn
      have q2 : (0 : Int) ≤ (k : Int) := by omega
      have q3 : (k : Int) < (n : Int) := by omega
      have hkl : k < c.length := by rw [← HN.out]; exact hkn
      obtain ⟨b1, o1, u, rfl, hb1, ha0, ha1, -, hsp⟩ := HV.out.at k hkl
      have hs := tm_take_snoc c k hkl
      have hts := allI_snoc (c.take k) (c.getD k ztm)
      rw [← hs] at hts
      have hle := allI_take_le c (k + 1)
      rw [hts, List.length_append] at hle
      have hok := up_all HC.out _ (tm_mem hkl)
      obtain ⟨x, hx⟩ : ∃ x, x = c.getD k ztm := ⟨_, rfl⟩
      have hx' : c.getD k (0, []) = x := hx.symm
      rw [hx'] at ha0 hsp
      rw [← hx] at hts hle hok
      obtain ⟨xr, xs⟩ := x
      simp only at ha0 hsp hts hle hok
      obtain ⟨so, sc, rfl⟩ := hsp.shape
      have HOK : Hid (∀ y ∈ xs, Ok y) := ((mayB_iff _).1 hok.2.2.2).1.all
      have hx8 : xr < 8 := hok.2.1
      obtain ⟨wo, rfl⟩ : ∃ wo : World, wo = wr := ⟨_, rfl⟩
      obtain ⟨P, hP⟩ : ∃ P, P = allI (c.take k) := ⟨_, rfl⟩
      rw [← hP] at hown hts hle
      have HTS := Lib.hid hts
      have HLE : Hid (P.length + (spI xr xs).length ≤ 1024) := by show _ ≤ _; have := HL.out; omega
      obtain ⟨sl, hsl⟩ : ∃ sl, sl = xs.length := ⟨_, rfl⟩
      have HSL := Lib.hid hsl
      have HSP := Lib.hid hsp
      rw [← hsl] at ha1 HSP
      have CA : Hid (∀ W : World, Below w.heap.size w W → W.cell? ⟨b1, o1 + k * 2, none⟩ = some (.int .u8 (xr : Int)) ∧ W.cell? ⟨b1, o1 + k * 2 + 1, none⟩ = some (.slice so sl sc)) := fun W hW =>
        ⟨(hW.cell (p := ⟨b1, o1 + k * 2, none⟩) hb1).trans ha0, (hW.cell (p := ⟨b1, o1 + k * 2 + 1, none⟩) hb1).trans ha1⟩
      have hslm : sl ≤ 1024 := by rw [hsl]; exact ((mayB_iff _).1 hok.2.2.2).2
      have O1 : Hid (OwnI wo w.heap.size u3 (P ++ spI xr (xs.take 0))) := by show OwnI _ _ _ _; rw [List.take_zero]; simpa [spI] using hown.out
      clear hx hx' hs hts hle hok hP hsl hown hsp ha0 ha1
      go_wp2
      go_loopw [3, 5] (fun o j wr => ∃ i : Nat, i ≤ sl ∧ j = .int .i64 (i : Int) ∧ Hid (OwnI wr w.heap.size o (P ++ spI xr (xs.take i))) ∧ Hid (Below w.heap.size w wr)) (fun _ j _ => sl - (intOf j).toNat)
      case atStart => exact ⟨0, by omega, rfl, O1, hbel⟩
      case round =>
        clear O1
        obtain ⟨i, hi, rfl, hown, hbel2⟩ := hrel
        obtain ⟨w2, rfl⟩ : ∃ w2 : World, w2 = wr := ⟨_, rfl⟩
        obtain ⟨ha0, ha1⟩ := CA.out w2 hbel2.out
        by_cases his : i < sl
        · have p1 : decide (i < sl) = true := by simpa using his
          have p2 : (0 : Int) ≤ (i : Int) := by omega
          have p3 : (i : Int) < (sl : Int) := by omega
          obtain ⟨b2, o2, rfl, hb2, hc0, hc1⟩ := HSP.out.at i (by rw [← HSL.out]; exact his)
          have CB : Hid (∀ W : World, Below w.heap.size w W → W.cell? ⟨b2, o2 + i * 2, none⟩ = some (.int .u32 ((xs.getD i zsp).f : Int)) ∧ W.cell? ⟨b2, o2 + i * 2 + 1, none⟩ = some (.int .u32 ((xs.getD i zsp).t : Int))) := fun W hW =>
            ⟨(hW.cell (p := ⟨b2, o2 + i * 2, none⟩) hb2).trans hc0, (hW.cell (p := ⟨b2, o2 + i * 2 + 1, none⟩) hb2).trans hc1⟩
          have hss := take_snoc xs i (by rw [← HSL.out]; exact his)
          have htt := spI_snoc xr (xs.take i) (xs.getD i zsp)
          rw [← hss] at htt
          have hle2 := spI_take_le xr xs (i + 1)
          rw [htt, List.length_append, runI_len] at hle2
          have hzo : Ok (xs.getD i zsp) := HOK.out _ (by rw [List.getD, List.getElem?_eq_getElem (by rw [← HSL.out]; exact his)]; exact List.getElem_mem _)
          obtain ⟨z, hz⟩ : ∃ z, z = xs.getD i zsp := ⟨_, rfl⟩
          rw [← hz] at CB htt hle2 hzo
          obtain ⟨f, t, hf, ht⟩ := z
          unfold Ok at hzo
          simp only at CB htt hle2 hzo
          obtain ⟨z1, z2, z3⟩ := hzo
          obtain ⟨Q, hQ⟩ : ∃ Q, Q = P ++ spI xr (xs.take i) := ⟨_, rfl⟩
          rw [← hQ] at hown
          have HTT : Hid (P ++ spI xr (xs.take (i + 1)) = Q ++ runI xr f (t + 1 - f)) := by show _ = _; rw [htt, hQ, List.append_assoc]
          have HQL : Hid (Q.length + (t + 1 - f) ≤ 1024) := by show _ ≤ _; rw [hQ, List.length_append]; have := HLE.out; omega
          have O2 : Hid (OwnI w2 w.heap.size u3 (Q ++ runI xr f (f - f))) := by show OwnI _ _ _ _; rw [Nat.sub_self]; simpa [runI] using hown.out
          obtain ⟨d0, d1⟩ := CB.out w2 hbel2.out
          clear hz hss htt hle2 hQ hown hc0 hc1
          go_wp2
          go_loopw [3, 6] (fun o q wr => ∃ e : Nat, f ≤ e ∧ e ≤ t + 1 ∧ q = .int .u32 (e : Int) ∧ Hid (OwnI wr w.heap.size o (Q ++ runI xr f (e - f))) ∧ Hid (Below w.heap.size w wr)) (fun _ q _ => t + 1 - (intOf q).toNat)
          case atStart => exact ⟨f, by omega, by omega, rfl, O2, hbel2⟩
          case round =>
            clear O2 d0 d1 ha0 ha1
            obtain ⟨e, he1, he2, rfl, hown, hbel3⟩ := hrel
            obtain ⟨w3, rfl⟩ : ∃ w3 : World, w3 = wr := ⟨_, rfl⟩
            obtain ⟨ha0, ha1⟩ := CA.out w3 hbel3.out
            obtain ⟨d0, d1⟩ := CB.out w3 hbel3.out
            by_cases het : e ≤ t
            · have t1 : decide ((e : Int) ≤ (t : Int)) = true := decide_eq_true (by omega)
              have t2 : decide (e ≤ t) = true := decide_eq_true het
              have hxn : xr % 256 = xr := Nat.mod_eq_of_lt (by omega)
              have hrun := runI_snoc xr (e - f) f
              rw [show f + (e - f) = e by omega] at hrun
              have hlen : (Q ++ runI xr f (e - f)).length = Q.length + (e - f) := by rw [List.length_append, runI_len]
              obtain ⟨M, hM⟩ : ∃ M, M = Q ++ runI xr f (e - f) := ⟨_, rfl⟩
              rw [← hM] at hown hlen
              have HR : Hid (Q ++ runI xr f (e + 1 - f) = M ++ [idOf xr e]) := by show _ = _; rw [show e + 1 - f = e - f + 1 by omega, hrun, hM, List.append_assoc]
              have hML : M.length ≤ 1024 := by have := HQL.out; omega
              have SE : Hid (Sees (w3.alloc (.cells #[.int .u32 (e : Int), .int .u8 (xr : Int)] 34)) (.slice (some ⟨w3.heap.size, 0, none⟩) 1 1) 2 1 (ids [idOf xr e])) := by
                have h := sees_new w3 (ids [idOf xr e]) 2 1 rfl (by omega) 34 (0, 0)
                rw [ids_one, idOf_t (by omega), idOf_r (by omega)] at h
                show Sees _ _ _ _ (ids [idOf xr e])
                rw [ids_one, idOf_t (by omega), idOf_r (by omega)]
                exact h
              have BX := Lib.hid ((Below.refl w3.heap.size w3).alloc (Nat.le_refl _) (.cells #[.int .u32 (e : Int), .int .u8 (xr : Int)] 34))
              have OX := Lib.hid (own_stays (show w3.ownsRow _ _ _ _ _ _ from hown.out) BX.out)
              have hsz3 := hbel3.out.size
              have eT : IntKind.u32.wrap ((e : Int) + 1) = (e : Int) + 1 := by rw [IntKind.wrap_u32]; omega
              obtain ⟨oo, oc, rfl⟩ := Sees.shape (Sees.own (show w3.ownsRow _ _ _ _ _ _ from hown.out))
              obtain ⟨ml, hml⟩ : ∃ ml, ml = M.length := ⟨_, rfl⟩
              rw [← hml] at OX hML ⊢
              have HMLl := Lib.hid hml
              clear hrun hlen hM hown hml
              go_wp2_with (at_builtin; refine wpList_append_sees rfl (.tmp 45) (.tmp 53) 36 34 rfl Try.underlying36 id_info rfl (by decide) w.heap.size _ ml (ids M) rfl OX.out _ 1 _ rfl SE.out (ids_oneCell _) ?a1 ?a2 ?a3 ?_)
              case a1 => omega
              case a2 => omega
              case a3 => exact Nat.le_trans hsz3 BX.out.size
              rintro v5 w5 o5 g5 b5
              have O5 : Hid (OwnI w5 w.heap.size v5 (Q ++ runI xr f (e + 1 - f))) := by
                show World.ownsRow _ _ _ _ _ _ _
                rw [HR.out, ids_append, List.length_append, ← HMLl.out]
                exact o5
              have B5 := Lib.hid ((hbel3.out.trans (BX.out.mono hsz3)).trans b5)
              clear o5 g5 b5 OX SE BX
              go_wp2
              go_roundw
              case rel => exact ⟨e + 1, by omega, by omega, by go_num, O5, B5⟩
              case measure => simp [intOf]; omega
            · obtain rfl : e = t + 1 := by omega
              have t1 : decide (((t + 1 : Nat) : Int) ≤ (t : Int)) = false := decide_eq_false (by omega)
              have t1' : decide ((t : Int) + 1 ≤ (t : Int)) = false := decide_eq_false (by omega)
              have t2 : decide (t + 1 ≤ t) = false := decide_eq_false (by omega)
              have O6 : Hid (OwnI w3 w.heap.size u3 (P ++ spI xr (xs.take (i + 1)))) := by show OwnI _ _ _ _; rw [HTT.out]; exact hown.out
              clear hown
              go_wp2
              go_roundw
              case rel => exact ⟨i + 1, by omega, by go_num, O6, hbel3⟩
              case measure => simp [intOf]; omega
        · have p1 : decide (i < sl) = false := by simpa using his
          have hkk : xs.take i = xs := List.take_of_length_le (by have := HSL.out; omega)
          have HY3 : Hid (OwnI w2 w.heap.size u3 (allI (c.take (k + 1)))) := by show OwnI _ _ _ _; rw [HTS.out]; have := hown.out; rwa [hkk] at this
          clear hkk hown
          go_wp2
          go_roundw
          case rel => exact ⟨k + 1, by omega, by go_num, HY3, hbel2⟩
          case measure => simp [intOf]; omega
    · have q1 : decide (k < n) = false := by simpa using hkn
      have hkk : c.take k = c := List.take_of_length_le (by have := HN.out; omega)
      rw [hkk] at hown
      clear hkk
      go_wp2
      go_ret
      exact ⟨_, rfl, hown.out, hbel.out⟩
end Go.Proofs.Ytinglfhndlklaaa.Clocks
