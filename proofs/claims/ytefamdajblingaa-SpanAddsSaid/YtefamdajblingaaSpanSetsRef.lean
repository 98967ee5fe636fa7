/- octavoref07: Both, Left, Add, Join, Less: what each answers. Conditions: the slices' cells are spans. -/
import Derived.Test.YtefamdajblingaaSpanMay
import Derived.Test.YtefamdajblingaaSpanWith
namespace Go.Proofs.Ytefamdajblingaa.Spans
open Go.RowKit
attribute [local go_sem ↓] Go.wp_at_zero Go.wp_at_succ

set_option maxHeartbeats 4000000 in
theorem both_any {v u : Value} {a b : List Sp} {w : World} (hv : Sps w v a) (hu : Sps w u b) (hf : Fine a) (hb : ∀ x ∈ b, Ok x) (la : a.length ≤ 1100) (lb : b.length ≤ 1100) :
    Calls Try.prog 36 #[v, u] w fun e w' => ∃ v', e = .returned v' ∧ w'.ownsRow w.heap.size 31 2 v' (both a b).length (sps (both a b)) ∧ Below w.heap.size w w' := by
  obtain ⟨bo, cb, rfl⟩ := hu.shape
  obtain ⟨n, hn⟩ : ∃ n, n = b.length := ⟨_, rfl⟩
  have HU := Lib.hid hu
  have HN := Lib.hid hn
  have HF := Lib.hid hf
  have HB := Lib.hid hb
  have HLA := Lib.hid la
  have TW := Lib.hid (twin_any hv (by omega))
  rw [← hn] at lb ⊢
  clear hv hu hn hf hb
  go_enter Try.func36, Try.ntmps36
  go_wp2_with fail
  refine TW.out.mono ?_
  rintro e w1 ⟨v1, rfl, o1, b1⟩
  have O1 : Hid (w1.ownsRow w.heap.size 31 2 v1 (both a (b.take 0)).length (sps (both a (b.take 0)))) := o1
  have B1 := Lib.hid b1
  clear o1 b1
  go_wp2
  go_loopw [5, 6] (fun o i wr => ∃ k : Nat, k ≤ n ∧ i = .int .i64 (k : Int) ∧ Hid (wr.ownsRow w.heap.size 31 2 o (both a (b.take k)).length (sps (both a (b.take k)))) ∧ Hid (Below w.heap.size w wr)) (fun _ i _ => n - (intOf i).toNat)
  case atStart => exact ⟨0, by omega, rfl, O1, B1⟩
  case round =>
    obtain ⟨k, hk, rfl, hown, hbel⟩ := hrel
    by_cases hkn : k < n
    · have q1 : decide (k < n) = true := by simpa using hkn
      obtain ⟨bb, off, rfl, hbb, hx0, hx1⟩ := (HU.out.keeps hbel.out).at k (by rw [← HN.out]; exact hkn)
      have hs := take_snoc b k (by rw [← HN.out]; exact hkn)
      have hok : Ok (b.getD k zsp) := HB.out _ (by rw [List.getD, List.getElem?_eq_getElem (by rw [← HN.out]; exact hkn)]; exact List.getElem_mem _)
      obtain ⟨y, hy⟩ : ∃ y, y = b.getD k zsp := ⟨_, rfl⟩
      rw [← hy] at hx0 hx1 hs hok
      have hsn : both a (b.take (k + 1)) = ins (both a (b.take k)) y := by rw [hs]; exact both_snoc _ _ _
      have hbt : ∀ x ∈ b.take k, Ok x := fun x hx => HB.out x (List.mem_of_mem_take hx)
      have hfine := (both_ok (b := b.take k) HF.out hbt).1
      have hlen : (both a (b.take k)).length ≤ 5000 := by
        have h1 := both_len (b.take k) a
        have h2 := HLA.out
        rw [List.length_take] at h1
        omega
      have W := Lib.hid (with_any (x := y) (Sps.own hown.out) hfine hok hlen)
      have HSN := Lib.hid hsn
      obtain ⟨yf, yt, hyf, hyt⟩ := y
      simp only at hx0 hx1 W
      have q2 : (0 : Int) ≤ (k : Int) := by omega
      have q3 : (k : Int) < (n : Int) := by omega
      clear hy hs hsn hbt hfine hlen hok
      go_wp2_with fail
      refine W.out.mono ?_
      rintro e w2 ⟨v2, rfl, o2, b2⟩
      have O2 := Lib.hid (own_base o2 hbel.out.size)
      have B2 := Lib.hid (bt hbel.out b2)
      clear o2 b2
      go_wp2
      go_roundw
      case rel => exact ⟨k + 1, by omega, by go_num, Lib.hid (by rw [HSN.out]; exact O2.out), B2⟩
      case measure => simp [intOf]; omega
    · have q1 : decide (k < n) = false := by simpa using hkn
      have hkk : b.take k = b := List.take_of_length_le (by have := HN.out; omega)
      rw [hkk] at hown
      clear hkk
      go_wp2
      go_ret
      exact ⟨_, rfl, hown.out, hbel.out⟩

set_option maxHeartbeats 4000000 in
theorem left_any {v u : Value} {a b : List Sp} {w : World} (hv : Sps w v a) (hu : Sps w u b) (hf : Fine a) (hb : ∀ x ∈ b, Ok x) (la : a.length ≤ 1100) (lb : b.length ≤ 1100) :
    Calls Try.prog 37 #[v, u] w fun e w' => ∃ v', e = .returned v' ∧ w'.ownsRow w.heap.size 31 2 v' (left a b).length (sps (left a b)) ∧ Below w.heap.size w w' := by
  obtain ⟨bo, cb, rfl⟩ := hu.shape
  obtain ⟨n, hn⟩ : ∃ n, n = b.length := ⟨_, rfl⟩
  have HU := Lib.hid hu
  have HN := Lib.hid hn
  have HF := Lib.hid hf
  have HB := Lib.hid hb
  have HLA := Lib.hid la
  have TW := Lib.hid (twin_any hv (by omega))
  rw [← hn] at lb ⊢
  clear hv hu hn hf hb
  go_enter Try.func37, Try.ntmps37
  go_wp2_with fail
  refine TW.out.mono ?_
  rintro e w1 ⟨v1, rfl, o1, b1⟩
  have O1 : Hid (w1.ownsRow w.heap.size 31 2 v1 (left a (b.take 0)).length (sps (left a (b.take 0)))) := o1
  have B1 := Lib.hid b1
  clear o1 b1
  go_wp2
  go_loopw [5, 6] (fun o i wr => ∃ k : Nat, k ≤ n ∧ i = .int .i64 (k : Int) ∧ Hid (wr.ownsRow w.heap.size 31 2 o (left a (b.take k)).length (sps (left a (b.take k)))) ∧ Hid (Below w.heap.size w wr)) (fun _ i _ => n - (intOf i).toNat)
  case atStart => exact ⟨0, by omega, rfl, O1, B1⟩
  case round =>
    obtain ⟨k, hk, rfl, hown, hbel⟩ := hrel
    by_cases hkn : k < n
    · have q1 : decide (k < n) = true := by simpa using hkn
      obtain ⟨bb, off, rfl, hbb, hx0, hx1⟩ := (HU.out.keeps hbel.out).at k (by rw [← HN.out]; exact hkn)
      have hs := take_snoc b k (by rw [← HN.out]; exact hkn)
      have hok : Ok (b.getD k zsp) := HB.out _ (by rw [List.getD, List.getElem?_eq_getElem (by rw [← HN.out]; exact hkn)]; exact List.getElem_mem _)
      obtain ⟨y, hy⟩ : ∃ y, y = b.getD k zsp := ⟨_, rfl⟩
      rw [← hy] at hx0 hx1 hs hok
      have hsn : left a (b.take (k + 1)) = del (left a (b.take k)) y := by rw [hs]; exact left_snoc _ _ _
      have hbt : ∀ x ∈ b.take k, Ok x := fun x hx => HB.out x (List.mem_of_mem_take hx)
      have hfine := (left_ok (b := b.take k) HF.out hbt).1
      have hlen : (left a (b.take k)).length ≤ 5000 := by
        have h1 := left_len (b := b.take k) HF.out hbt
        have h2 := HLA.out
        rw [List.length_take] at h1
        omega
      have W := Lib.hid (without_any (x := y) (Sps.own hown.out) hfine hok hlen)
      have HSN := Lib.hid hsn
      obtain ⟨yf, yt, hyf, hyt⟩ := y
      simp only at hx0 hx1 W
      have q2 : (0 : Int) ≤ (k : Int) := by omega
      have q3 : (k : Int) < (n : Int) := by omega
      clear hy hs hsn hbt hfine hlen hok
      go_wp2_with fail
      refine W.out.mono ?_
      rintro e w2 ⟨v2, rfl, o2, b2⟩
      have O2 := Lib.hid (own_base o2 hbel.out.size)
      have B2 := Lib.hid (bt hbel.out b2)
      clear o2 b2
      go_wp2
      go_roundw
      case rel => exact ⟨k + 1, by omega, by go_num, Lib.hid (by rw [HSN.out]; exact O2.out), B2⟩
      case measure => simp [intOf]; omega
    · have q1 : decide (k < n) = false := by simpa using hkn
      have hkk : b.take k = b := List.take_of_length_le (by have := HN.out; omega)
      rw [hkk] at hown
      clear hkk
      go_wp2
      go_ret
      exact ⟨_, rfl, hown.out, hbel.out⟩

/-- What is answered: a row of its own, and an error. -/
def Done (l : List Sp) (c : Int) (w : World) (e : Ending) (w' : World) : Prop :=
  ∃ ao cap, e = .returned (.tuple #[.slice ao l.length cap, .int .i64 c]) ∧ w'.ownsRow w.heap.size 31 2 (.slice ao l.length cap) l.length (sps l) ∧ Below w.heap.size w w'

def joins (a b : List Sp) : List Sp × Int := if mayB a = true ∧ mayB b = true then told (both a b) else ([], 8)
set_option maxHeartbeats 2000000 in
theorem refJoin_any {v u : Value} {a b : List Sp} {w : World} (hv : Sps w v a) (hu : Sps w u b) :
    Calls Try.prog 20 #[v, u] w (Done (joins a b).1 (joins a b).2 w) := by
  have HV := Lib.hid hv
  have HU := Lib.hid hu
  obtain ⟨L, c, hd⟩ : ∃ L c, joins a b = (L, c) := ⟨_, _, rfl⟩
  rw [hd]
  have HD := Lib.hid hd
  have M1 := Lib.hid (refMay_any hv)
  have M2 : Hid (∀ W : World, Below w.heap.size w W → Calls Try.prog 33 #[u] W fun e w' => e = .returned (.bool (mayB b)) ∧ Below W.heap.size W w') := fun W hW => refMay_any (HU.out.keeps hW)
  obtain ⟨pa, hpa⟩ : ∃ p, mayB a = p := ⟨_, rfl⟩
  obtain ⟨pb, hpb⟩ : ∃ p, mayB b = p := ⟨_, rfl⟩
  rw [hpa] at M1
  rw [hpb] at M2
  have HA := Lib.hid hpa
  have HB := Lib.hid hpb
  clear hv hu hd hpa hpb
  simp only
  cases pa
  · obtain ⟨rfl, rfl⟩ : L = [] ∧ c = 8 := by
      have h := HD.out
      unfold joins at h
      rw [if_neg (by rw [HA.out]; simp)] at h
      exact ⟨(Prod.mk.inj h).1.symm, (Prod.mk.inj h).2.symm⟩
    go_enter Try.func20, Try.ntmps20
    go_wp2_with fail
    refine M1.out.mono ?_
    rintro e w1 ⟨rfl, b1⟩
    go_wp2
    go_ret2
    exact ⟨none, 0, rfl, World.ownsRow_nil _ _ _ _, b1⟩
  cases pb
  · obtain ⟨rfl, rfl⟩ : L = [] ∧ c = 8 := by
      have h := HD.out
      unfold joins at h
      rw [if_neg (by rw [HB.out]; simp)] at h
      exact ⟨(Prod.mk.inj h).1.symm, (Prod.mk.inj h).2.symm⟩
    go_enter Try.func20, Try.ntmps20
    go_wp2_with fail
    refine M1.out.mono ?_
    rintro e w1 ⟨rfl, b1⟩
    have B1 := Lib.hid b1
    clear b1
    go_wp2_with fail
    refine (M2.out _ B1.out).mono ?_
    rintro e w2 ⟨rfl, b2⟩
    have B2 := Lib.hid (bt B1.out b2)
    clear b2
    go_wp2
    go_ret2
    exact ⟨none, 0, rfl, World.ownsRow_nil _ _ _ _, B2.out⟩
  have hA := (mayB_iff a).1 HA.out
  have hB := (mayB_iff b).1 HB.out
  have ST : Hid (∀ W : World, Below w.heap.size w W → Calls Try.prog 36 #[v, u] W fun e w' => ∃ v', e = .returned v' ∧ w'.ownsRow W.heap.size 31 2 v' (both a b).length (sps (both a b)) ∧ Below W.heap.size W w') := fun W hW => both_any (HV.out.keeps hW) (HU.out.keeps hW) hA.1 hB.1.all (by omega) (by omega)
  have hto : told (both a b) = (L, c) := by
    have h := HD.out
    unfold joins at h
    rwa [if_pos ⟨HA.out, HB.out⟩] at h
  have TO := Lib.hid (fun (W : World) (B : Nat) (x : Value) (h : W.ownsRow B 31 2 x (both a b).length (sps (both a b))) => told_any h)
  rw [hto] at TO
  simp only at TO
  clear hA hB hto HD
  go_enter Try.func20, Try.ntmps20
  go_wp2_with fail
  refine M1.out.mono ?_
  rintro e w1 ⟨rfl, b1⟩
  have B1 := Lib.hid b1
  clear b1
  go_wp2_with fail
  refine (M2.out _ B1.out).mono ?_
  rintro e w2 ⟨rfl, b2⟩
  have B2 := Lib.hid (bt B1.out b2)
  clear b2
  go_wp2_with fail
  refine (ST.out _ B2.out).mono ?_
  rintro e w3 ⟨v3, rfl, o3, b3⟩
  have O3 := Lib.hid o3
  have B3 := Lib.hid (bt B2.out b3)
  clear o3 b3
  go_wp2_with fail
  refine (TO.out _ _ _ O3.out).mono ?_
  rintro e w4 ⟨ao, cap, rfl, o4, rfl⟩
  have O4 := Lib.hid (own_base o4 B2.out.size)
  clear o4
  go_wp2
  go_ret2
  exact ⟨ao, cap, rfl, O4.out, B3.out⟩

def lefts (a b : List Sp) : List Sp × Int := if mayB a = true ∧ mayB b = true then told (left a b) else ([], 8)
set_option maxHeartbeats 2000000 in
theorem refLess_any {v u : Value} {a b : List Sp} {w : World} (hv : Sps w v a) (hu : Sps w u b) :
    Calls Try.prog 21 #[v, u] w (Done (lefts a b).1 (lefts a b).2 w) := by
  have HV := Lib.hid hv
  have HU := Lib.hid hu
  obtain ⟨L, c, hd⟩ : ∃ L c, lefts a b = (L, c) := ⟨_, _, rfl⟩
  rw [hd]
  have HD := Lib.hid hd
  have M1 := Lib.hid (refMay_any hv)
  have M2 : Hid (∀ W : World, Below w.heap.size w W → Calls Try.prog 33 #[u] W fun e w' => e = .returned (.bool (mayB b)) ∧ Below W.heap.size W w') := fun W hW => refMay_any (HU.out.keeps hW)
  obtain ⟨pa, hpa⟩ : ∃ p, mayB a = p := ⟨_, rfl⟩
  obtain ⟨pb, hpb⟩ : ∃ p, mayB b = p := ⟨_, rfl⟩
  rw [hpa] at M1
  rw [hpb] at M2
  have HA := Lib.hid hpa
  have HB := Lib.hid hpb
  clear hv hu hd hpa hpb
  simp only
  cases pa
  · obtain ⟨rfl, rfl⟩ : L = [] ∧ c = 8 := by
      have h := HD.out
      unfold lefts at h
      rw [if_neg (by rw [HA.out]; simp)] at h
      exact ⟨(Prod.mk.inj h).1.symm, (Prod.mk.inj h).2.symm⟩
    go_enter Try.func21, Try.ntmps21
    go_wp2_with fail
    refine M1.out.mono ?_
    rintro e w1 ⟨rfl, b1⟩
    go_wp2
    go_ret2
    exact ⟨none, 0, rfl, World.ownsRow_nil _ _ _ _, b1⟩
  cases pb
  · obtain ⟨rfl, rfl⟩ : L = [] ∧ c = 8 := by
      have h := HD.out
      unfold lefts at h
      rw [if_neg (by rw [HB.out]; simp)] at h
      exact ⟨(Prod.mk.inj h).1.symm, (Prod.mk.inj h).2.symm⟩
    go_enter Try.func21, Try.ntmps21
    go_wp2_with fail
    refine M1.out.mono ?_
    rintro e w1 ⟨rfl, b1⟩
    have B1 := Lib.hid b1
    clear b1
    go_wp2_with fail
    refine (M2.out _ B1.out).mono ?_
    rintro e w2 ⟨rfl, b2⟩
    have B2 := Lib.hid (bt B1.out b2)
    clear b2
    go_wp2
    go_ret2
    exact ⟨none, 0, rfl, World.ownsRow_nil _ _ _ _, B2.out⟩
  have hA := (mayB_iff a).1 HA.out
  have hB := (mayB_iff b).1 HB.out
  have ST : Hid (∀ W : World, Below w.heap.size w W → Calls Try.prog 37 #[v, u] W fun e w' => ∃ v', e = .returned v' ∧ w'.ownsRow W.heap.size 31 2 v' (left a b).length (sps (left a b)) ∧ Below W.heap.size W w') := fun W hW => left_any (HV.out.keeps hW) (HU.out.keeps hW) hA.1 hB.1.all (by omega) (by omega)
  have hto : told (left a b) = (L, c) := by
    have h := HD.out
    unfold lefts at h
    rwa [if_pos ⟨HA.out, HB.out⟩] at h
  have TO := Lib.hid (fun (W : World) (B : Nat) (x : Value) (h : W.ownsRow B 31 2 x (left a b).length (sps (left a b))) => told_any h)
  rw [hto] at TO
  simp only at TO
  clear hA hB hto HD
  go_enter Try.func21, Try.ntmps21
  go_wp2_with fail
  refine M1.out.mono ?_
  rintro e w1 ⟨rfl, b1⟩
  have B1 := Lib.hid b1
  clear b1
  go_wp2_with fail
  refine (M2.out _ B1.out).mono ?_
  rintro e w2 ⟨rfl, b2⟩
  have B2 := Lib.hid (bt B1.out b2)
  clear b2
  go_wp2_with fail
  refine (ST.out _ B2.out).mono ?_
  rintro e w3 ⟨v3, rfl, o3, b3⟩
  have O3 := Lib.hid o3
  have B3 := Lib.hid (bt B2.out b3)
  clear o3 b3
  go_wp2_with fail
  refine (TO.out _ _ _ O3.out).mono ?_
  rintro e w4 ⟨ao, cap, rfl, o4, rfl⟩
  have O4 := Lib.hid (own_base o4 B2.out.size)
  clear o4
  go_wp2
  go_ret2
  exact ⟨ao, cap, rfl, O4.out, B3.out⟩

def adds (l : List Sp) (f t : Nat) : List Sp × Int := if mayB l = true then (if Ok (mk f t) then told (ins l (mk f t)) else ([], 2)) else ([], 8)
set_option maxHeartbeats 4000000 in
theorem refAdd_any {v : Value} {l : List Sp} (f t : Nat) (hf : f < 4294967296) (ht : t < 4294967296) {w : World} (hv : Sps w v l) :
    Calls Try.prog 19 #[v, .int .u32 (f : Int), .int .u32 (t : Int)] w (Done (adds l f t).1 (adds l f t).2 w) := by
  have HV := Lib.hid hv
  obtain ⟨L, c, hd⟩ : ∃ L c, adds l f t = (L, c) := ⟨_, _, rfl⟩
  rw [hd]
  have HD := Lib.hid hd
  have M1 := Lib.hid (refMay_any hv)
  obtain ⟨pa, hpa⟩ : ∃ p, mayB l = p := ⟨_, rfl⟩
  rw [hpa] at M1
  have HA := Lib.hid hpa
  have hmf := mk_f (t := t) hf
  have hmt := mk_t (f := f) ht
  clear hv hd hpa
  simp only
  cases pa
  · obtain ⟨rfl, rfl⟩ : L = [] ∧ c = 8 := by
      have h := HD.out
      unfold adds at h
      rw [if_neg (by rw [HA.out]; simp)] at h
      exact ⟨(Prod.mk.inj h).1.symm, (Prod.mk.inj h).2.symm⟩
    clear hmf hmt
    go_enter Try.func19, Try.ntmps19
    go_wp2_with fail
    refine M1.out.mono ?_
    rintro e w1 ⟨rfl, b1⟩
    go_wp2
    go_ret2
    exact ⟨none, 0, rfl, World.ownsRow_nil _ _ _ _, b1⟩
  by_cases hok : Ok (mk f t)
  · have hok2 := hok
    unfold Ok at hok2
    rw [hmf, hmt] at hok2
    obtain ⟨o1, o2, o3⟩ := hok2
    have hto : told (ins l (mk f t)) = (L, c) := by
      have h := HD.out
      unfold adds at h
      rwa [if_pos HA.out, if_pos hok] at h
    have hA := (mayB_iff l).1 HA.out
    have WI : Hid (∀ W : World, Below w.heap.size w W → Calls Try.prog 35 #[v, .agg #[.int .u32 (f : Int), .int .u32 (t : Int)]] W fun e w' => ∃ v', e = .returned v' ∧ w'.ownsRow W.heap.size 31 2 v' (ins l (mk f t)).length (sps (ins l (mk f t))) ∧ Below W.heap.size W w') := fun W hW => by
      have := with_any (HV.out.keeps hW) hA.1 hok (by omega)
      rwa [hmf, hmt] at this
    have TO := Lib.hid (fun (W : World) (B : Nat) (x : Value) (h : W.ownsRow B 31 2 x (ins l (mk f t)).length (sps (ins l (mk f t)))) => told_any h)
    rw [hto] at TO
    simp only at TO
    have s1 : decide ((f : Int) < 1) = false := decide_eq_false (by omega)
    have s2 : decide ((t : Int) < (f : Int)) = false := decide_eq_false (by omega)
    have s3 : decide (t < f) = false := decide_eq_false (by omega)
    have s4 : decide ((1073741824 : Int) < (t : Int)) = false := decide_eq_false (by omega)
    have s5 : decide (1073741824 < t) = false := decide_eq_false (by omega)
    have s6 : ¬ f = 0 := by omega
    clear hA hto HD hmf hmt hok
    go_enter Try.func19, Try.ntmps19
    go_wp2_with fail
    refine M1.out.mono ?_
    rintro e w1 ⟨rfl, b1⟩
    have B1 := Lib.hid b1
    clear b1
    go_wp2_with fail
    refine (WI.out _ B1.out).mono ?_
    rintro e w3 ⟨v3, rfl, o3', b3⟩
    have O3 := Lib.hid o3'
    have B3 := Lib.hid (bt B1.out b3)
    clear o3' b3
    go_wp2_with fail
    refine (TO.out _ _ _ O3.out).mono ?_
    rintro e w4 ⟨ao, cap, rfl, o4, rfl⟩
    have O4 := Lib.hid (own_base o4 B1.out.size)
    clear o4
    go_wp2
    go_ret2
    exact ⟨ao, cap, rfl, O4.out, B3.out⟩
  · obtain ⟨rfl, rfl⟩ : L = [] ∧ c = 2 := by
      have h := HD.out
      unfold adds at h
      rw [if_pos HA.out, if_neg hok] at h
      exact ⟨(Prod.mk.inj h).1.symm, (Prod.mk.inj h).2.symm⟩
    unfold Ok at hok
    rw [hmf, hmt] at hok
    have hc : (decide ((f : Int) < 1) = true ∧ f = 0) ∨ (decide ((f : Int) < 1) = false ∧ ¬ f = 0 ∧ decide ((t : Int) < (f : Int)) = true ∧ decide (t < f) = true) ∨ (decide ((f : Int) < 1) = false ∧ ¬ f = 0 ∧ decide ((t : Int) < (f : Int)) = false ∧ decide (t < f) = false ∧ decide ((1073741824 : Int) < (t : Int)) = true ∧ decide (1073741824 < t) = true) := by
      by_cases h1 : f < 1
      · exact .inl ⟨decide_eq_true (by omega), by omega⟩
      by_cases h2 : t < f
      · exact .inr (.inl ⟨decide_eq_false (by omega), by omega, decide_eq_true (by omega), decide_eq_true h2⟩)
      · exact .inr (.inr ⟨decide_eq_false (by omega), by omega, decide_eq_false (by omega), decide_eq_false h2, decide_eq_true (by omega), decide_eq_true (by omega)⟩)
    clear hok hmf hmt HD
    rcases hc with ⟨s1, rfl⟩ | ⟨s1, s2, s3, s4⟩ | ⟨s1, s2, s3, s4, s5, s6⟩
    all_goals
      go_enter Try.func19, Try.ntmps19
      go_wp2_with fail
      refine M1.out.mono ?_
      rintro e w1 ⟨rfl, b1⟩
      have B1 := Lib.hid b1
      clear b1
      go_wp2
      go_ret2
      exact ⟨none, 0, rfl, World.ownsRow_nil _ _ _ _, B1.out⟩
end Go.Proofs.Ytefamdajblingaa.Spans
