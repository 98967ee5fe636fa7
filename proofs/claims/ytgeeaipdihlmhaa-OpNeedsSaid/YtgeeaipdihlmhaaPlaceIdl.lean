/- octavo/place: Last, Ids: what each answers. Conditions: the slice's cells are runs. -/
import Derived.Test.YtgeeaipdihlmhaaPlaceCheck
import Derived.Test.YtgeeaipdihlmhaaPlaceMore
import Derived.Test.YtgeeaipdihlmhaaPlaceApart
namespace Go.Proofs.Ytgeeaipdihlmhaa.Place
open Go.RowKit Stamp
attribute [local go_sem ↓] Go.wp_at_zero Go.wp_at_succ

set_option maxHeartbeats 2000000 in
theorem pLast_any {v : Value} {l : List Run} {w : World} (hv : Runs w v l) :
    Calls Try.prog 26 #[v] w fun e w' => e = .returned (.agg #[.int .u32 (lastV l).1, .int .u8 (lastV l).2]) ∧ Below w.heap.size w w' := by
  have HV := Lib.hid hv
  have B0 : Hid (Below w.heap.size w (w.alloc (.cells #[.int .u32 0, .int .u8 0] 27))) := (Below.refl _ _).alloc (Nat.le_refl _) _
  cases hm : mayB l
  · have M : Hid (∀ W : World, Below w.heap.size w W → Calls Try.prog 25 #[v] W fun e w' => e = .returned (.int .i64 8) ∧ Below W.heap.size W w') := fun W hW => check_is (HV.out.keeps hW) (by unfold chk; rw [hm]; rfl)
    have hlv : lastV l = (0, 0) := by unfold lastV; rw [hm]; rfl
    rw [hlv]
    clear hv hm hlv
    go_enter Try.func26, Try.ntmps26
    go_wp2_with fail
    refine (M.out _ B0.out).mono ?_
    rintro e w1 ⟨rfl, b1⟩
    obtain ⟨c0, c1, c2, c3⟩ := two_cells b1
    have B1 := Lib.hid b1
    clear b1
    go_wp2
    refine bodyPost_ret (v := .agg #[.int .u32 0, .int .u8 0]) (by simp [results, Try.results26, go_sem, c0, c1]) rfl ⟨rfl, ?_⟩
    exact set2 B1.out
  · have hM := (mayB_iff l).1 hm
    have M : Hid (∀ W : World, Below w.heap.size w W → Calls Try.prog 25 #[v] W fun e w' => e = .returned (.int .i64 0) ∧ Below W.heap.size W w') := fun W hW => check_is (HV.out.keeps hW) (by unfold chk; rw [if_pos hm])
    obtain ⟨ao, cap, rfl⟩ := hv.shape
    obtain ⟨n, hn⟩ : ∃ n, n = l.length := ⟨_, rfl⟩
    have HV2 : Hid (Runs w (.slice ao n cap) l) := by rw [hn]; exact hv
    rw [← hn] at M ⊢
    obtain ⟨k, hk⟩ : ∃ k, l.length = k + 1 := ⟨l.length - 1, by have := hM.1; omega⟩
    have hkn : n = k + 1 := by omega
    have hn64 : n ≤ 64 := by have := hM.2.1; omega
    obtain ⟨x, hx⟩ : ∃ x, l.getD k zrun = x := ⟨_, rfl⟩
    have hone : One x := by rw [← hx]; exact chain_one hM.2.2.1 (by omega)
    have hlv : lastV l = ((x.t : Int) + (x.m - 1), (x.r : Int)) := by unfold lastV; rw [if_pos hm, hk, Nat.add_sub_cancel, hx]
    have AT : Hid (∀ W : World, Below w.heap.size w W → ∃ b off, ao = some ⟨b, off, none⟩ ∧ b < W.heap.size ∧ W.cell? ⟨b, off + k * 3, none⟩ = some (.int .u32 (x.t : Int)) ∧ W.cell? ⟨b, off + k * 3 + 1, none⟩ = some (.int .u8 (x.r : Int)) ∧ W.cell? ⟨b, off + k * 3 + 2, none⟩ = some (.int .i64 x.m)) := fun W hW => by
      have h := (HV2.out.keeps hW).at k (by omega)
      rwa [hx] at h
    obtain ⟨t, r, m, ht, hr, hmm⟩ := x
    simp only at hlv AT
    obtain ⟨z, hz⟩ : ∃ z : Nat, (z : Int) = (t : Int) + (m - 1) := ⟨((t : Int) + (m - 1)).toNat, by have := hone.2.2.2.1; simp only at this; omega⟩
    have LO := Lib.hid (fun W => lastOf_any t r m z hz ⟨hone.2.2.2.1, hone.2.2.2.2.1⟩ hone.2.1 W)
    rw [hlv, ← hz]
    have q2 : (0 : Int) ≤ (k : Int) := by omega
    have q3 : (k : Int) < (n : Int) := by omega
    have e1 : (n : Int) - 1 = (k : Int) := by omega
    have e2 : IntKind.i64.wrap (k : Int) = (k : Int) := IntWalk.i64_in _ (by omega)
    clear hv hn hm hlv hM hk hx hone hz hkn HV HV2
    go_enter Try.func26, Try.ntmps26
    go_wp2_with fail
    refine (M.out _ B0.out).mono ?_
    rintro e w1 ⟨rfl, b1⟩
    have B1 := Lib.hid b1
    obtain ⟨b, off, rfl, hb, hx0, hx1, hx2⟩ := AT.out _ (below_of3 b1)
    clear b1
    go_wp2_with fail
    refine (LO.out _).mono ?_
    rintro e w2 ⟨rfl, b2⟩
    have b3 := B1.out.trans (b2.mono B1.out.size)
    obtain ⟨c0, c1, c2, c3⟩ := two_cells b3
    have B3 := Lib.hid b3
    clear b2 b3 hx0 hx1 hx2
    go_wp2
    refine bodyPost_ret (v := .agg #[.int .u32 (z : Int), .int .u8 (r : Int)]) (by simp [results, Try.results26, go_sem, c0, c1]) rfl ⟨rfl, ?_⟩
    exact set2 B3.out

set_option maxRecDepth 100000 in
set_option maxHeartbeats 4000000 in
theorem pIds_any {v : Value} {l : List Run} {w : World} (hv : Runs w v l) :
    Calls Try.prog 28 #[v] w fun e w' => ∃ ao cap, e = .returned (.tuple #[.slice ao (idsOf l).length cap, .int .i64 (idsE l)]) ∧ Ids w' (.slice ao (idsOf l).length cap) (idsOf l) ∧ Below w.heap.size w w' := by
  obtain ⟨ao, cap, rfl⟩ := hv.shape
  obtain ⟨n, hn⟩ : ∃ n, n = l.length := ⟨_, rfl⟩
  have HV := Lib.hid hv
  have HN := Lib.hid hn
  cases hm : mayB l
  · have M := Lib.hid (check_is hv (c := 8) (by unfold chk; rw [hm]; rfl))
    have h1 : idsOf l = [] := by unfold idsOf; rw [hm]; rfl
    have h2 : idsE l = 8 := by unfold idsE; rw [hm]; rfl
    rw [h1, h2]
    rw [← hn] at M ⊢
    clear hv hm h1 h2 hn
    go_enter Try.func28, Try.ntmps28
    go_wp2_with fail
    refine M.out.mono ?_
    rintro e w1 ⟨rfl, b1⟩
    go_wp2
    go_ret2
    exact ⟨none, 0, rfl, Ids.nil _, b1⟩
  have M := Lib.hid (check_is hv (c := 0) (by unfold chk; rw [if_pos hm]))
  have hM := (mayB_iff l).1 hm
  have h1 : idsOf l = all l := by unfold idsOf; rw [if_pos hm]
  have h2 : idsE l = 0 := by unfold idsE; rw [if_pos hm]
  have HC := Lib.hid hM.2.2.1
  have hl : n ≤ 64 := by rw [hn]; exact hM.2.1
  rw [h1, h2]
  rw [← hn] at M ⊢
  clear hv hm h1 h2 hM hn
  go_enter Try.func28, Try.ntmps28
  go_wp2_with fail
  refine M.out.mono ?_
  rintro e w1 ⟨rfl, b1⟩
  have B1 := Lib.hid b1
  clear b1
  go_wp2
  go_loopw [5, 16] (fun o i wr => ∃ (k n' : Nat), k ≤ n ∧ i = .int .i64 (k : Int) ∧ n' ≤ 4096 * k ∧ Hid (n' = (all (l.take k)).length) ∧ Hid (wr.ownsRow w.heap.size 27 2 o n' (ids (all (l.take k)))) ∧ Hid (Below w.heap.size w wr)) (fun _ i _ => n - (intOf i).toNat)
  case atStart => exact ⟨0, 0, by omega, rfl, by omega, Lib.hid rfl, Lib.hid (World.ownsRow_nil _ _ _ _), B1⟩
  case round =>
    obtain ⟨k, n', hk, rfl, hn', hlen, hown, hbel⟩ := hrel
    obtain ⟨wo, rfl⟩ : ∃ wo : World, wo = wr := ⟨_, rfl⟩
    by_cases hkn : k < n
    · have q1 : decide (k < n) = true := by simpa using hkn
      obtain ⟨b, off, rfl, hb, hx0, hx1, hx2⟩ := (HV.out.keeps hbel.out).at k (by rw [← HN.out]; exact hkn)
      have hone := chain_one HC.out (k := k) (by rw [← HN.out]; exact hkn)
      have hat := all_take l k (by rw [← HN.out]; exact hkn)
      obtain ⟨x, hx⟩ : ∃ x, x = l.getD k zrun := ⟨_, rfl⟩
      rw [← hx] at hx0 hx1 hx2 hone hat
      obtain ⟨m, hm, m1, m2, m3, m4⟩ := hone.nat
      rw [m3] at hat
      rw [hm] at hx2
      obtain ⟨t, r, mm, ht, hr, hmm⟩ := x
      simp only at hx0 hx1 hx2 hat m4
      have HAT := Lib.hid hat
      have q2 : (0 : Int) ≤ (k : Int) := by omega
      have q3 : (k : Int) < (n : Int) := by omega
      have KR : Hid ((wo.alloc (.cells #[.int .u32 (t : Int), .int .u8 (r : Int), .int .i64 (m : Int)] 24)).heap[wo.heap.size]? = some (.cells #[.int .u32 (t : Int), .int .u8 (r : Int), .int .i64 (m : Int)] 24)) := blk_new rfl
      have BR : Hid (Below w.heap.size w (wo.alloc (.cells #[.int .u32 (t : Int), .int .u8 (r : Int), .int .i64 (m : Int)] 24))) := hbel.out.alloc hbel.out.size _
      have OR : Hid ((wo.alloc (.cells #[.int .u32 (t : Int), .int .u8 (r : Int), .int .i64 (m : Int)] 24)).ownsRow w.heap.size 27 2 u5 n' (ids (all (l.take k)))) := own_stays hown.out ((Below.refl _ _).alloc (Nat.le_refl _) _)
      clear hx hone hm m3 hat
      obtain ⟨g, hg⟩ : ∃ g, g = wo.heap.size := ⟨_, rfl⟩
      have KG : Hid ((wo.alloc (.cells #[.int .u32 (t : Int), .int .u8 (r : Int), .int .i64 (m : Int)] 24)).heap[g]? = some (.cells #[.int .u32 (t : Int), .int .u8 (r : Int), .int .i64 (m : Int)] 24)) := by rw [hg]; exact KR.out
      have HG := Lib.hid hg
      clear KR hg
      go_wp2_with fail
      rw [← HG.out]
      go_loopw [5, 22] (fun o j wr => ∃ (y n2 : Nat), y ≤ m ∧ j = .int .i64 (y : Int) ∧ n2 = n' + y ∧ Hid (n2 = (all (l.take k) ++ up t r y).length) ∧ Hid (wr.ownsRow w.heap.size 27 2 o n2 (ids (all (l.take k) ++ up t r y))) ∧ Hid (Below w.heap.size w wr) ∧ Hid (wr.heap[g]? = some (.cells #[.int .u32 (t : Int), .int .u8 (r : Int), .int .i64 (m : Int)] 24))) (fun _ j _ => m - (intOf j).toNat)
      case atStart => exact ⟨0, n', by omega, rfl, by omega, Lib.hid (by simpa [up] using hlen.out), Lib.hid (by simpa [up] using OR.out), BR, KG⟩
      case round =>
        obtain ⟨y, n2, hy, rfl, hn2, hlen2, hown2, hbel2, hkg⟩ := hrel
        by_cases hym : y < m
        · have p1 : decide (y < m) = true := decide_eq_true hym
          have p2 : decide ((y : Int) < (m : Int)) = true := decide_eq_true (by omega)
          have hT : ((t : Int) + (y : Int)) = ((mk (t + y) r).t : Int) := by rw [mk_t (by omega)]; omega
          have hR : (r : Int) = ((mk (t + y) r).r : Int) := by rw [mk_r hr]
          have e3 : IntKind.u32.wrap (y : Int) = (y : Int) := by rw [IntKind.wrap_u32]; omega
          have e4 : IntKind.u32.wrap ((t : Int) + (y : Int)) = (t : Int) + (y : Int) := by rw [IntKind.wrap_u32]; omega
          obtain ⟨c0, c1, c2, -⟩ := cells_blk3 hkg.out
          have SE : Hid (Sees (wr.alloc (.cells #[.int .u32 ((t : Int) + (y : Int)), .int .u8 (r : Int)] 27)) (.slice (some ⟨wr.heap.size, 0, none⟩) 1 1) 2 1 (ids [mk (t + y) r])) := sees_blk2 (blk_new rfl) hT hR
          have OE : Hid ((wr.alloc (.cells #[.int .u32 ((t : Int) + (y : Int)), .int .u8 (r : Int)] 27)).ownsRow w.heap.size 27 2 u5 n2 (ids (all (l.take k) ++ up t r y))) := own_stays hown2.out ((Below.refl _ _).alloc (Nat.le_refl _) _)
          have BE : Hid (Below w.heap.size w (wr.alloc (.cells #[.int .u32 ((t : Int) + (y : Int)), .int .u8 (r : Int)] 27))) := hbel2.out.alloc hbel2.out.size _
          have KE : Hid ((wr.alloc (.cells #[.int .u32 ((t : Int) + (y : Int)), .int .u8 (r : Int)] 27)).heap[g]? = some (.cells #[.int .u32 (t : Int), .int .u8 (r : Int), .int .i64 (m : Int)] 24)) := blk_old hkg.out
          clear hT hR
          go_wp2_with (at_builtin; refine wpList_append_sees rfl (.tmp 25) (.tmp 34) 36 27 rfl Try.underlying36 id_info rfl (by decide) w.heap.size _ n2 (ids (all (l.take k) ++ up t r y)) rfl OE.out _ 1 _ rfl SE.out (ids_oneCell _) ?k1 ?k2 ?k3 ?_)
          case k1 => omega
          case k2 => omega
          case k3 => exact BE.out.size
          rintro v5 w5 o5 g5 b5
          have K5 := Lib.hid (blk_grown g5 (own_ne OE.out KE.out (fun c hc => by cases hc)) KE.out)
          have O5 := Lib.hid o5
          have B5 := Lib.hid (BE.out.trans b5)
          clear o5 g5 b5 SE OE BE KE c0 c1 c2
          go_wp2
          go_roundw
          case rel =>
            refine ⟨y + 1, n2 + 1, by omega, by go_num, by omega, Lib.hid ?_, Lib.hid ?_, B5, K5⟩
            · rw [up_snoc, ← List.append_assoc, List.length_append, ← hlen2.out]; rfl
            · rw [up_snoc, ← List.append_assoc, ids_append, hn2]; exact O5.out
          case measure => simp [intOf]; omega
        · obtain rfl : y = m := by omega
          have p1 : decide (y < y) = false := decide_eq_false (by omega)
          go_wp2
          go_roundw
          case rel =>
            refine ⟨k + 1, n2, by omega, by go_num, by omega, Lib.hid ?_, Lib.hid ?_, hbel2⟩
            · rw [HAT.out]; exact hlen2.out
            · rw [HAT.out]; exact hown2.out
          case measure => simp [intOf]; omega
    · have q1 : decide (k < n) = false := by simpa using hkn
      have hkk : l.take k = l := List.take_of_length_le (by have := HN.out; omega)
      rw [hkk] at hlen hown
      have I2 := Ids.own hown.out
      obtain ⟨ao2, cap2, hsh⟩ := I2.shape
      rw [hsh] at I2
      subst hsh
      have HI := Lib.hid I2
      clear I2 hkk
      go_wp2
      go_ret2
      exact ⟨_, _, rfl, HI.out, hbel.out⟩
end Go.Proofs.Ytgeeaipdihlmhaa.Place
