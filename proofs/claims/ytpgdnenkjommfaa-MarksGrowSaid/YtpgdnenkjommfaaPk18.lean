/- octavo/marks.Joined: what it answers. Conditions: the slice's cells are operations. -/
import Derived.Shelf.SlSortCmp.InsertionK
import Derived.Calls
import Derived.StepT
import Derived.Below
import Derived.Sort.Grow
import Derived.Deep.Draws
import Derived.Test.YtpgdnenkjommfaaPk17
import Derived.Test.YtpgdnenkjommfaaPk08
import Derived.Test.YtpgdnenkjommfaaPk15
import Derived.Test.YtpgdnenkjommfaaPk07
import Derived.Test.YtpgdnenkjommfaaPk05
import Derived.Test.YtpgdnenkjommfaaPk03
import Derived.Test.YtpgdnenkjommfaaPk04

namespace Go.Proofs.Ytpgdnenkjommfaa.Marks
open Go.RowKit Go.WideShapes Stamp Go.Proofs.Ytpgdnenkjommfaa.Place Ops Codes Bags
attribute [local go_sem ↓] Go.wp_at_zero Go.wp_at_succ

theorem ZU (w : World) : (zeroValue 61).run Try.prog w = .ok (.agg #[]) w := by kernel_rfl
set_option maxRecDepth 100000 in
set_option maxHeartbeats 4000000 in
theorem mJoined_any {v : Value} {l : List Opn} (a : Id) {w : World} (hv : OpL w v l) :
    Calls Try.prog 11 #[v, .agg #[.int .u32 (a.t : Int), .int .u8 (a.r : Int)]] w fun e w' => e = .returned (.bool (joinedM l a)) ∧ Below w.heap.size w w' := by
  have B0 : Hid (Below w.heap.size w (w.alloc (.cells #[.int .u32 (a.t : Int), .int .u8 (a.r : Int)] 24))) := (Below.refl _ _).alloc (Nat.le_refl _) _
  have CK := Lib.hid (bCheck_any (hv.keeps B0.out))
  have P0 : Hid (Pair (w.alloc (.cells #[.int .u32 (a.t : Int), .int .u8 (a.r : Int)] 24)) w.heap.size (.int .u32 (a.t : Int)) (.int .u8 (a.r : Int))) := pair_new _ _ _ _
  by_cases hbag : Bag l
  rotate_left
  · have e1 : chkL l = 8 := chkL_no hbag
    have e2 : joinedM l a = false := by unfold joinedM; rw [bagB_no hbag]; rfl
    rw [e1] at CK
    rw [e2]
    clear hv e1 e2
    go_enter Try.func11, Try.ntmps11
    go_wp2_with fail
    refine CK.out.mono ?_
    rintro e w1 ⟨rfl, b1⟩
    have B1 := Lib.hid (bt B0.out b1)
    clear b1
    go_wp2
    go_ret
    exact ⟨rfl, B1.out⟩
  have e1 : chkL l = 0 := chkL_yes hbag
  have e2 : joinedM l a = ended l a := by unfold joinedM; rw [(bagB_iff l).2 hbag]; rfl
  rw [e1] at CK
  rw [e2]
  have JW : Hid (∀ W : World, Below w.heap.size w W → Calls Try.prog 23 #[v] W fun e w' => ∃ b n, e = .returned (.map (some b)) ∧ SetI w' b n (ended l) ∧ Below W.heap.size W w') := fun W h => by
    refine (joinedIn_any (hv.keeps h) hbag.2.1 hbag.1).mono ?_
    rintro e w' ⟨rfl, h1, h2⟩
    exact ⟨_, _, rfl, h1, h2⟩
  obtain ⟨ta, ra, hta, hra⟩ := a
  simp only at CK P0 B0 ⊢
  clear hv e1 e2 hbag
  go_enter Try.func11, Try.ntmps11
  go_wp2_with fail
  refine CK.out.mono ?_
  rintro e wl ⟨rfl, b1⟩
  have BW := Lib.hid (bt B0.out b1)
  have P1 := Lib.hid (P0.out.keeps b1)
  have JI : Hid (∀ W : World, Below wl.heap.size wl W → Calls Try.prog 23 #[v] W fun e w' => ∃ b n, e = .returned (.map (some b)) ∧ SetI w' b n (ended l) ∧ Below W.heap.size W w') := fun W h => JW.out W (bt BW.out h)
  have SK : Hid (∀ w' : World, Below wl.heap.size wl w' → Below wl.heap.size wl w' ∧ w'.cell? ⟨w.heap.size, 0, none⟩ = some (.int .u32 (ta : Int)) ∧ w'.cell? ⟨w.heap.size, 1, none⟩ = some (.int .u8 (ra : Int))) := fun W h => ⟨h, (P1.out.keeps h).2⟩
  clear b1 CK P0 B0 JW
  go_wp2
  refine wp_region_held_drew (S := fun w' => Below wl.heap.size wl w' ∧ w'.cell? ⟨w.heap.size, 0, none⟩ = some (.int .u32 (ta : Int)) ∧ w'.cell? ⟨w.heap.size, 1, none⟩ = some (.int .u8 (ra : Int))) (by kernel_rfl) (SK.out _ (drew1 _)) (fun hHeld => ?_)
  refine wpAnyH_take (i := 0) (v := ?v1) rfl (by kernel_rfl) (by kernel_rfl) (by kernel_rfl) (fun _ _ _ h => h) (Or.inl ⟨by rfl, ?y1⟩) (by assumption) ?_
  case y1 => intro w hSw; (try dsimp only at hSw); go_simp <;> with_reducible rfl
  try simp only [List.getElem_toArray, List.getElem_cons_zero, Act.put, List.setIfInBounds_toArray, List.set_cons_zero, List.set_cons_succ]
  refine wpAnyH_take (i := 2) (v := ?v2) rfl (by kernel_rfl) (by kernel_rfl) (by kernel_rfl) (fun _ _ _ h => h) (Or.inl ⟨by rfl, ?y2⟩) (by assumption) ?_
  case y2 => intro w hSw; (try dsimp only at hSw); go_simp <;> with_reducible rfl
  try simp only [List.getElem_toArray, List.getElem_cons_succ, List.getElem_cons_zero, Act.put, List.setIfInBounds_toArray, List.set_cons_zero, List.set_cons_succ]
  refine wpAnyH_ready (rs := [1, 7]) (by kernel_rfl) (by simp) ?_
  refine AllReadyH.cons rfl (fun K hK => ?_) ?z7
  case z7 =>
    refine AllReadyH.cons rfl (fun K hK => ?_) AllReadyH.nil
    go_simp
    have BX := Lib.hid ((Below.refl (wl.drew).heap.size (wl.drew)).alloc (Nat.le_refl _) (.cells #[] 61))
    refine hK.out _ _ (SK.out _ (bt hHeld.1 BX.out)) (fun hNew => ?_)
    clear hHeld
    have hHeld := hNew
    clear hNew hK K
    clear BX
    try simp only [List.getElem_toArray, List.getElem_cons_succ, List.getElem_cons_zero, Act.put, List.setIfInBounds_toArray, List.set_cons_zero, List.set_cons_succ]
    refine wpAnyH_ready (rs := [1]) (by kernel_rfl) (by simp) ?_
    refine AllReadyH.cons rfl (fun K hK => ?_) AllReadyH.nil
    go_simp
    refine (JI.out _ hHeld.1).mono ?_
    rintro e w9 ⟨b, n9, rfl, s9, b9⟩
    have S9 := Lib.hid s9
    refine hK.out _ _ (SK.out _ (bt hHeld.1 b9)) (fun hNew => ?_)
    clear hHeld
    have hHeld := hNew
    clear hNew hK K
    clear s9 b9
    try simp only [List.getElem_toArray, List.getElem_cons_succ, List.getElem_cons_zero, Act.put, List.setIfInBounds_toArray, List.set_cons_zero, List.set_cons_succ]
    refine wpAnyH_ready (rs := [3]) (by kernel_rfl) (by simp) ?_
    refine AllReadyH.cons rfl (fun K hK => ?_) AllReadyH.nil
    refine step_look_set rfl (.tmp 12) (.tmp 13) 55 61 rfl Try.underlying55 (ZU _) b n9 ⟨ta, ra, hta, hra⟩ (ended l) S9.out rfl rfl ?_
    refine hK.out _ _ hHeld (fun hNew => ?_)
    clear hHeld
    have hHeld := hNew
    clear hNew hK K
    try simp only [List.getElem_toArray, List.getElem_cons_succ, List.getElem_cons_zero, Act.put, List.setIfInBounds_toArray, List.set_cons_zero, List.set_cons_succ]
    refine wpAnyH_take (i := 4) (v := ?v3) rfl (by kernel_rfl) (by kernel_rfl) (by kernel_rfl) (fun _ _ _ h => h) (Or.inl ⟨by rfl, ?y3⟩) (by assumption) ?_
    case y3 => intro w hSw; (try dsimp only at hSw); go_simp <;> with_reducible rfl
    try simp only [List.getElem_toArray, List.getElem_cons_succ, List.getElem_cons_zero, Act.put, List.setIfInBounds_toArray, List.set_cons_zero, List.set_cons_succ]
    refine wpAnyH_take (i := 5) (v := ?v4) rfl (by kernel_rfl) (by kernel_rfl) (by kernel_rfl) (fun _ _ _ h => h) (Or.inl ⟨by rfl, ?y4⟩) (by assumption) ?_
    case y4 => intro w hSw; (try dsimp only at hSw); go_simp <;> with_reducible rfl
    try simp only [List.getElem_toArray, List.getElem_cons_succ, List.getElem_cons_zero, Act.put, List.setIfInBounds_toArray, List.set_cons_zero, List.set_cons_succ]
    refine wpAnyH_take (i := 6) (v := ?v5) rfl (by kernel_rfl) (by kernel_rfl) (by kernel_rfl) (fun _ _ _ h => h) (Or.inl ⟨by rfl, ?y5⟩) (by assumption) ?_
    case y5 => intro w hSw; (try dsimp only at hSw); go_simp <;> with_reducible rfl
    try simp only [List.getElem_toArray, List.getElem_cons_succ, List.getElem_cons_zero, Act.put, List.setIfInBounds_toArray, List.set_cons_zero, List.set_cons_succ]
    refine wpAnyH_ready (rs := [8]) (by kernel_rfl) (by simp) ?_
    refine AllReadyH.cons rfl (fun K hK => ?_) AllReadyH.nil
    go_simp
    refine hK.out _ _ hHeld (fun hNew => ?_)
    clear hHeld
    have hHeld := hNew
    clear hNew hK K
    try simp only [List.getElem_toArray, List.getElem_cons_succ, List.getElem_cons_zero, Act.put, List.setIfInBounds_toArray, List.set_cons_zero, List.set_cons_succ]
    refine wpAnyH_take (i := 9) (v := ?v6) rfl (by kernel_rfl) (by kernel_rfl) (by kernel_rfl) (fun _ _ _ h => h) (Or.inl ⟨by rfl, ?y6⟩) (by assumption) ?_
    case y6 => intro w hSw; (try dsimp only at hSw); go_simp <;> with_reducible rfl
    try simp only [List.getElem_toArray, List.getElem_cons_succ, List.getElem_cons_zero, Act.put, List.setIfInBounds_toArray, List.set_cons_zero, List.set_cons_succ]
    refine wpAnyH_done (by kernel_rfl) ?_ _
    go_wp2
    go_ret
    exact ⟨rfl, bt BW.out hHeld.1⟩
  go_simp
  refine (JI.out _ hHeld.1).mono ?_
  rintro e w9 ⟨b, n9, rfl, s9, b9⟩
  have S9 := Lib.hid s9
  refine hK.out _ _ (SK.out _ (bt hHeld.1 b9)) (fun hNew => ?_)
  clear hHeld
  have hHeld := hNew
  clear hNew hK K
  clear s9 b9
  try simp only [List.getElem_toArray, List.getElem_cons_succ, List.getElem_cons_zero, Act.put, List.setIfInBounds_toArray, List.set_cons_zero, List.set_cons_succ]
  refine wpAnyH_ready (rs := [3, 7]) (by kernel_rfl) (by simp) ?_
  refine AllReadyH.cons rfl (fun K hK => ?_) ?z8
  case z8 =>
    refine AllReadyH.cons rfl (fun K hK => ?_) AllReadyH.nil
    go_simp
    have BX := Lib.hid ((Below.refl (w9).heap.size (w9)).alloc (Nat.le_refl _) (.cells #[] 61))
    refine hK.out _ _ (SK.out _ (bt hHeld.1 BX.out)) (fun hNew => ?_)
    clear hHeld
    have hHeld := hNew
    clear hNew hK K
    replace S9 := Lib.hid (S9.out.keeps BX.out)
    clear BX
    try simp only [List.getElem_toArray, List.getElem_cons_succ, List.getElem_cons_zero, Act.put, List.setIfInBounds_toArray, List.set_cons_zero, List.set_cons_succ]
    refine wpAnyH_ready (rs := [3]) (by kernel_rfl) (by simp) ?_
    refine AllReadyH.cons rfl (fun K hK => ?_) AllReadyH.nil
    refine step_look_set rfl (.tmp 12) (.tmp 13) 55 61 rfl Try.underlying55 (ZU _) b n9 ⟨ta, ra, hta, hra⟩ (ended l) S9.out rfl rfl ?_
    refine hK.out _ _ hHeld (fun hNew => ?_)
    clear hHeld
    have hHeld := hNew
    clear hNew hK K
    try simp only [List.getElem_toArray, List.getElem_cons_succ, List.getElem_cons_zero, Act.put, List.setIfInBounds_toArray, List.set_cons_zero, List.set_cons_succ]
    refine wpAnyH_take (i := 4) (v := ?v7) rfl (by kernel_rfl) (by kernel_rfl) (by kernel_rfl) (fun _ _ _ h => h) (Or.inl ⟨by rfl, ?y7⟩) (by assumption) ?_
    case y7 => intro w hSw; (try dsimp only at hSw); go_simp <;> with_reducible rfl
    try simp only [List.getElem_toArray, List.getElem_cons_succ, List.getElem_cons_zero, Act.put, List.setIfInBounds_toArray, List.set_cons_zero, List.set_cons_succ]
    refine wpAnyH_take (i := 5) (v := ?v8) rfl (by kernel_rfl) (by kernel_rfl) (by kernel_rfl) (fun _ _ _ h => h) (Or.inl ⟨by rfl, ?y8⟩) (by assumption) ?_
    case y8 => intro w hSw; (try dsimp only at hSw); go_simp <;> with_reducible rfl
    try simp only [List.getElem_toArray, List.getElem_cons_succ, List.getElem_cons_zero, Act.put, List.setIfInBounds_toArray, List.set_cons_zero, List.set_cons_succ]
    refine wpAnyH_take (i := 6) (v := ?v9) rfl (by kernel_rfl) (by kernel_rfl) (by kernel_rfl) (fun _ _ _ h => h) (Or.inl ⟨by rfl, ?y9⟩) (by assumption) ?_
    case y9 => intro w hSw; (try dsimp only at hSw); go_simp <;> with_reducible rfl
    try simp only [List.getElem_toArray, List.getElem_cons_succ, List.getElem_cons_zero, Act.put, List.setIfInBounds_toArray, List.set_cons_zero, List.set_cons_succ]
    refine wpAnyH_ready (rs := [8]) (by kernel_rfl) (by simp) ?_
    refine AllReadyH.cons rfl (fun K hK => ?_) AllReadyH.nil
    go_simp
    refine hK.out _ _ hHeld (fun hNew => ?_)
    clear hHeld
    have hHeld := hNew
    clear hNew hK K
    try simp only [List.getElem_toArray, List.getElem_cons_succ, List.getElem_cons_zero, Act.put, List.setIfInBounds_toArray, List.set_cons_zero, List.set_cons_succ]
    refine wpAnyH_take (i := 9) (v := ?v10) rfl (by kernel_rfl) (by kernel_rfl) (by kernel_rfl) (fun _ _ _ h => h) (Or.inl ⟨by rfl, ?y10⟩) (by assumption) ?_
    case y10 => intro w hSw; (try dsimp only at hSw); go_simp <;> with_reducible rfl
    try simp only [List.getElem_toArray, List.getElem_cons_succ, List.getElem_cons_zero, Act.put, List.setIfInBounds_toArray, List.set_cons_zero, List.set_cons_succ]
    refine wpAnyH_done (by kernel_rfl) ?_ _
    go_wp2
    go_ret
    exact ⟨rfl, bt BW.out hHeld.1⟩
  refine step_look_set rfl (.tmp 12) (.tmp 13) 55 61 rfl Try.underlying55 (ZU _) b n9 ⟨ta, ra, hta, hra⟩ (ended l) S9.out rfl rfl ?_
  refine hK.out _ _ hHeld (fun hNew => ?_)
  clear hHeld
  have hHeld := hNew
  clear hNew hK K
  try simp only [List.getElem_toArray, List.getElem_cons_succ, List.getElem_cons_zero, Act.put, List.setIfInBounds_toArray, List.set_cons_zero, List.set_cons_succ]
  refine wpAnyH_take (i := 4) (v := ?v11) rfl (by kernel_rfl) (by kernel_rfl) (by kernel_rfl) (fun _ _ _ h => h) (Or.inl ⟨by rfl, ?y11⟩) (by assumption) ?_
  case y11 => intro w hSw; (try dsimp only at hSw); go_simp <;> with_reducible rfl
  try simp only [List.getElem_toArray, List.getElem_cons_succ, List.getElem_cons_zero, Act.put, List.setIfInBounds_toArray, List.set_cons_zero, List.set_cons_succ]
  refine wpAnyH_take (i := 5) (v := ?v12) rfl (by kernel_rfl) (by kernel_rfl) (by kernel_rfl) (fun _ _ _ h => h) (Or.inl ⟨by rfl, ?y12⟩) (by assumption) ?_
  case y12 => intro w hSw; (try dsimp only at hSw); go_simp <;> with_reducible rfl
  try simp only [List.getElem_toArray, List.getElem_cons_succ, List.getElem_cons_zero, Act.put, List.setIfInBounds_toArray, List.set_cons_zero, List.set_cons_succ]
  refine wpAnyH_take (i := 6) (v := ?v13) rfl (by kernel_rfl) (by kernel_rfl) (by kernel_rfl) (fun _ _ _ h => h) (Or.inl ⟨by rfl, ?y13⟩) (by assumption) ?_
  case y13 => intro w hSw; (try dsimp only at hSw); go_simp <;> with_reducible rfl
  try simp only [List.getElem_toArray, List.getElem_cons_succ, List.getElem_cons_zero, Act.put, List.setIfInBounds_toArray, List.set_cons_zero, List.set_cons_succ]
  refine wpAnyH_ready (rs := [7]) (by kernel_rfl) (by simp) ?_
  refine AllReadyH.cons rfl (fun K hK => ?_) AllReadyH.nil
  go_simp
  have BX := Lib.hid ((Below.refl (w9).heap.size (w9)).alloc (Nat.le_refl _) (.cells #[] 61))
  refine hK.out _ _ (SK.out _ (bt hHeld.1 BX.out)) (fun hNew => ?_)
  clear hHeld
  have hHeld := hNew
  clear hNew hK K
  clear BX
  try simp only [List.getElem_toArray, List.getElem_cons_succ, List.getElem_cons_zero, Act.put, List.setIfInBounds_toArray, List.set_cons_zero, List.set_cons_succ]
  refine wpAnyH_ready (rs := [8]) (by kernel_rfl) (by simp) ?_
  refine AllReadyH.cons rfl (fun K hK => ?_) AllReadyH.nil
  go_simp
  refine hK.out _ _ hHeld (fun hNew => ?_)
  clear hHeld
  have hHeld := hNew
  clear hNew hK K
  try simp only [List.getElem_toArray, List.getElem_cons_succ, List.getElem_cons_zero, Act.put, List.setIfInBounds_toArray, List.set_cons_zero, List.set_cons_succ]
  refine wpAnyH_take (i := 9) (v := ?v14) rfl (by kernel_rfl) (by kernel_rfl) (by kernel_rfl) (fun _ _ _ h => h) (Or.inl ⟨by rfl, ?y14⟩) (by assumption) ?_
  case y14 => intro w hSw; (try dsimp only at hSw); go_simp <;> with_reducible rfl
  try simp only [List.getElem_toArray, List.getElem_cons_succ, List.getElem_cons_zero, Act.put, List.setIfInBounds_toArray, List.set_cons_zero, List.set_cons_succ]
  refine wpAnyH_done (by kernel_rfl) ?_ _
  go_wp2
  go_ret
  exact ⟨rfl, bt BW.out hHeld.1⟩
end Go.Proofs.Ytpgdnenkjommfaa.Marks

/- octavo/marks.Ids: what it answers. Conditions: the slice's cells are operations. -/
namespace Go.Proofs.Ytpgdnenkjommfaa.Marks
open Go.RowKit Go.WideShapes Stamp Go.Proofs.Ytpgdnenkjommfaa.Place Ops Codes Bags
attribute [local go_sem ↓] Go.wp_at_zero Go.wp_at_succ

theorem ofC_dir {l : List Opn} (h : Bag l) : Clocks.ofC (stampsO (dirM l)) = (Clocks.among (stampsO (dirM l)), 0) := by
  have hl : (stampsO (dirM l)).length ≤ 1024 := by unfold stampsO dirM; rw [List.length_map]; exact Nat.le_trans (List.length_filter_le _ _) h.1
  have hm : Clocks.allMay (stampsO (dirM l)) = true := by
    unfold Clocks.allMay stampsO
    rw [List.all_eq_true]
    intro a ha
    obtain ⟨o, ho, rfl⟩ := List.mem_map.1 ha
    exact (mayO_parts (h.2.1 o (List.mem_filter.1 ho).1)).1
  unfold Clocks.ofC
  rw [if_neg (by omega), if_pos hm]
theorem dir_snoc_yes {l : List Opn} {x : Opn} (h : contB x = false) : stampsO (dirM (l ++ [x])) = stampsO (dirM l) ++ [idO x] := by
  unfold dirM stampsO
  rw [List.filter_append, List.map_append, List.filter_cons_of_pos (by simp [h])]
  rfl
theorem dir_snoc_no {l : List Opn} {x : Opn} (h : contB x = true) : stampsO (dirM (l ++ [x])) = stampsO (dirM l) := by
  unfold dirM stampsO
  rw [List.filter_append, List.map_append, List.filter_cons_of_neg (by simp [h])]
  simp

set_option maxRecDepth 100000 in
set_option maxHeartbeats 4000000 in
theorem mIds_any {v : Value} {l : List Opn} {w : World} (hv : OpL w v l) : Calls Try.prog 8 #[v] w (DoneC (idsM l) (chkL l) w) := by
  have CK := Lib.hid (bCheck_any hv)
  obtain ⟨ao, cap, rfl⟩ := hv.shape
  obtain ⟨n, hn⟩ : ∃ n, n = l.length := ⟨_, rfl⟩
  have HV : Hid (∀ W : World, Below w.heap.size w W → OpL W (.slice ao l.length cap) l) := fun W h => hv.keeps h
  have HN := Lib.hid hn
  rw [← hn] at CK ⊢
  by_cases hbag : Bag l
  rotate_left
  · have e1 : chkL l = 8 := chkL_no hbag
    have e2 : idsM l = [] := by unfold idsM; rw [bagB_no hbag]; rfl
    rw [e1] at CK ⊢
    rw [e2]
    clear hv hn e1 e2
    go_enter Try.func8, Try.ntmps8
    go_wp2_with fail
    refine CK.out.mono ?_
    rintro e w1 ⟨rfl, b1⟩
    have B1 := Lib.hid b1
    clear b1
    go_wp2
    go_ret2
    exact ⟨_, rfl, ⟨[], World.ownsRow_nil _ _ _ _, trivial⟩, B1.out⟩
  have e1 : chkL l = 0 := chkL_yes hbag
  have e2 : idsM l = Clocks.among (stampsO (dirM l)) := by unfold idsM; rw [(bagB_iff l).2 hbag]; rfl
  rw [e1] at CK ⊢
  rw [e2]
  have OF : Hid (∀ (W : World) (v : Value), Ids W v (stampsO (dirM l)) → Calls Try.prog 22 #[v] W fun e w' => ∃ v', e = .returned (.tuple #[v', .int .i64 0]) ∧ OwnC w' W.heap.size v' (Clocks.among (stampsO (dirM l))) ∧ Below W.heap.size W w') := fun W v h => by
    refine (Clocks.cOf_any Srt.sort_many (by decide) h (by unfold stampsO dirM; rw [List.length_map]; exact Nat.le_trans (List.length_filter_le _ _) hbag.1)).mono ?_
    rw [ofC_dir hbag]
    rintro e w' ⟨v', rfl, ho, hb⟩
    exact ⟨v', rfl, ho, hb⟩
  have hnm : n ≤ 1024 := by rw [hn]; exact hbag.1
  obtain ⟨R, hR⟩ : ∃ z, Clocks.among (stampsO (dirM l)) = z := ⟨_, rfl⟩
  rw [hR] at OF ⊢
  clear hv hn e1 e2 hR hbag
  go_enter Try.func8, Try.ntmps8
  go_wp2_with fail
  refine CK.out.mono ?_
  rintro e w1 ⟨rfl, b1⟩
  have S1 : Hid (Shr idE 24 w w1 (.slice none 0 0) (stampsO (dirM (l.take 0)))) := Shr.nil _ _ _ _
  have M1 : Hid (0 = (stampsO (dirM (l.take 0))).length) := rfl
  have B1 := Lib.hid b1
  clear b1 CK
  go_wp2
  go_loopw [5, 15] (fun v i wr => ∃ j m : Nat, j ≤ n ∧ m ≤ j ∧ i = .int .i64 (j : Int) ∧ (∃ ao cap, v = .slice ao m cap) ∧ Hid (m = (stampsO (dirM (l.take j))).length) ∧ Hid (Shr idE 24 w wr v (stampsO (dirM (l.take j)))) ∧ Hid (Below w.heap.size w wr)) (fun _ i _ => n - (intOf i).toNat)
  case atStart => exact ⟨0, 0, by omega, by omega, rfl, ⟨none, 0, rfl⟩, M1, S1, B1⟩
  case round =>
    clear S1 B1 M1
    obtain ⟨j, m, hj, hmj, rfl, ⟨aoL, capL, rfl⟩, hm, hshr, hbel⟩ := hrel
    by_cases hjn : j < n
    rotate_left
    · have q3 : decide (j < n) = false := by simpa using hjn
      have hkk : l.take j = l := List.take_of_length_le (by have := HN.out; omega)
      rw [hkk] at hshr
      clear hkk hm
      have SI := Lib.hid (shr_ids hshr.out)
      clear hshr
      go_wp2_with fail
      refine (OF.out _ _ SI.out).mono ?_
      rintro e w2 ⟨v2, rfl, o2, b2⟩
      have O2 : Hid (OwnC w2 w.heap.size v2 R) := Clocks.OwnC.base o2 hbel.out.size
      have B2 := Lib.hid (bt hbel.out b2)
      clear o2 b2
      go_wp2
      go_ret2
      exact ⟨_, rfl, O2.out, B2.out⟩
    have q3 : decide (j < n) = true := by simpa using hjn
    have q4 : (0 : Int) ≤ (j : Int) := by omega
    have q5 : (j : Int) < (n : Int) := by omega
    have hjl : j < l.length := by rw [← HN.out]; exact hjn
    obtain ⟨bb, oo, u, e, hbb, hru, h0, h1, h2, h3, h4⟩ := opl_at (HV.out wr hbel.out) j hjl
    subst e
    obtain ⟨x, hx⟩ : ∃ x, x = l[j]'hjl := ⟨_, rfl⟩
    rw [← hx] at hru h0 h1 h2 h4
    have CT : Hid (∀ W : World, Calls Try.prog 21 #[opv x u] W fun e w' => e = .returned (.bool (contB x)) ∧ Below W.heap.size W w') := fun W => oContent_any W
    obtain ⟨uo, uc, rfl⟩ := hru.shape
    obtain ⟨nu, hnu⟩ : ∃ n, n = x.pl.length := ⟨_, rfl⟩
    rw [← hnu] at h3 CT
    have INN : Hid (idE.inn w [.int .u32 (x.t : Int), .int .u8 (x.r : Int)] (idO x)) := rfl
    have hst : l.take (j + 1) = l.take j ++ [x] := by rw [List.take_succ_eq_append_getElem hjl, hx]
    have FY : Hid (contB x = false → stampsO (dirM (l.take (j + 1))) = stampsO (dirM (l.take j)) ++ [idO x]) := fun h => by rw [hst]; exact dir_snoc_yes h
    have FN : Hid (contB x = true → stampsO (dirM (l.take (j + 1))) = stampsO (dirM (l.take j))) := fun h => by rw [hst]; exact dir_snoc_no h
    obtain ⟨cb, hcb⟩ : ∃ z, contB x = z := ⟨_, rfl⟩
    rw [hcb] at CT FY FN
    have HO : Hid (∀ v : Value, opv x v = .agg #[.int .u8 (x.k : Int), .int .u32 (x.t : Int), .int .u8 (x.r : Int), v, .int .i64 x.p]) := fun v => rfl
    clear hx hru hnu hst hcb
    obtain ⟨k, hk⟩ : ∃ z, x.k = z := ⟨_, rfl⟩
    obtain ⟨t, ht⟩ : ∃ z, x.t = z := ⟨_, rfl⟩
    obtain ⟨r, hr⟩ : ∃ z, x.r = z := ⟨_, rfl⟩
    obtain ⟨p, hp⟩ : ∃ z, x.p = z := ⟨_, rfl⟩
    rw [hk, ht, hr, hp] at HO
    simp only [HO.out] at CT
    rw [hk] at h0
    rw [ht] at h1
    rw [hr] at h2
    rw [hp] at h4
    rw [ht, hr] at INN
    have BL : Hid (Below wr.heap.size wr (wr.alloc (.cells #[.int .u8 (k : Int), .int .u32 (t : Int), .int .u8 (r : Int), .slice uo nu uc, .int .i64 p] 27))) := (Below.refl _ _).alloc (Nat.le_refl _) _
    have BW := Lib.hid (bt hbel.out BL.out)
    have SL := Lib.hid (hshr.out.keeps BL.out)
    have X0 : Hid ((wr.alloc (.cells #[.int .u8 (k : Int), .int .u32 (t : Int), .int .u8 (r : Int), .slice uo nu uc, .int .i64 p] 27)).heap[wr.heap.size]? = some (.cells #[.int .u8 (k : Int), .int .u32 (t : Int), .int .u8 (r : Int), .slice uo nu uc, .int .i64 p] 27)) := blk_new rfl
    clear hk ht hr hp HO hshr
    go_wp2_with fail
    refine (CT.out _).mono ?_
    rintro e w2 ⟨rfl, b2⟩
    have B2 := Lib.hid (bt BW.out b2)
    have S2 := Lib.hid (SL.out.keeps b2)
    have X2 := Lib.hid (blk_below b2 X0.out)
    clear b2 SL X0 CT BL BW
    cases cb
    rotate_left
    · have FT := Lib.hid (FN.out rfl)
      rw [← FT.out] at S2 hm
      clear FY FN FT
      go_wp2
      go_roundw
      case rel => exact ⟨j + 1, m, by omega, by omega, by go_num, ⟨_, _, rfl⟩, hm, S2, B2⟩
      case measure => simp [intOf]; omega
    have FT := Lib.hid (FY.out rfl)
    clear FY FN
    have c1 := cell_of_row _ _ 1 _ _ _ X2.out
    have c2 := cell_of_row _ _ 2 _ _ _ X2.out
    have HZ : Hid (w.heap.size ≤ w2.heap.size) := B2.out.size
    go_wp2_with (at_builtin; refine wpList_append_enc (E := idE) Try.underlying52 id_info rfl (w0 := w) (wp := w2) (by rfl) (.tmp 22) (.tmp 25) (by rfl) (by rfl) S2.out (G := w2.heap.size) (by rfl) rfl (c := #[.int .u32 (t : Int), .int .u8 (r : Int)]) INN.out hm.out (by omega) (by omega) HZ.out ?_)
    rintro v6 w6 s6 va vc rfl b6
    have S6 := Lib.hid s6
    rw [← FT.out] at S6
    have M6 : Hid (m + 1 = (stampsO (dirM (l.take (j + 1)))).length) := by unfold Hid; rw [FT.out, List.length_append, List.length_singleton, ← hm.out]
    have B6 := Lib.hid (B2.out.trans b6)
    clear s6 b6 S2 c1 c2 X2 FT hm
    go_wp2
    go_roundw
    case rel => exact ⟨j + 1, m + 1, by omega, by omega, by go_num, ⟨va, vc, rfl⟩, M6, S6, B6⟩
    case measure => simp [intOf]; omega
end Go.Proofs.Ytpgdnenkjommfaa.Marks

/- Lists of operations as the row that a sort passes through. Conditions: places that may be, or the beginning. -/
namespace Go.Proofs.Ytpgdnenkjommfaa.Marks
open Go.RowKit Go.WideShapes Go.Sort Stamp Go.Proofs.Ytpgdnenkjommfaa.Place Ops Codes

/-! ### Flat rows -/
theorem flat_list {α : Type} [Inhabited α] (enc : α → List Value) (k : Nat) (hk0 : 0 < k) (hk : ∀ x, (enc x).length = k) : ∀ ds : List α,
    (List.range (ds.length * k)).map (fun t => (enc (ds[t / k]!))[t % k]!) = ds.flatMap enc
  | [] => by simp
  | x :: ds => by
    rw [List.length_cons, show (ds.length + 1) * k = k + ds.length * k by rw [Nat.succ_mul]; omega, List.range_add, List.map_append, List.flatMap_cons]
    congr 1
    · apply List.ext_getElem
      · simp [hk]
      · intro i h1 h2
        have hi : i < k := by simpa using h1
        rw [List.getElem_map, List.getElem_range, Nat.div_eq_of_lt hi, Nat.mod_eq_of_lt hi]
        show (enc x)[i]! = _
        rw [getElem!_pos (enc x) i h2]
    · rw [List.map_map, ← flat_list enc k hk0 hk ds]
      apply List.map_congr_left
      intro t _
      simp only [Function.comp]
      rw [Nat.add_div_left _ hk0, Nat.add_mod_left]
      rfl
theorem flatK_list {α : Type} [Inhabited α] (enc : α → List Value) (k : Nat) (hk0 : 0 < k) (hk : ∀ x, (enc x).length = k) (d : Array α) : (flatK enc k d).toList = d.toList.flatMap enc := by
  rw [← flat_list enc k hk0 hk d.toList]
  unfold flatK
  rw [Array.toList_map, Array.toList_range]
  apply List.map_congr_left
  intro t _
  simp [Array.getElem!_eq_getD, Array.getD_eq_getD_getElem?]
theorem putCells_take (F c : Array Value) (h : F.size ≤ c.size) : (putCells id 0 F c).toList.take F.size = F.toList := by
  apply List.ext_getElem
  · simp [putCells]; omega
  · intro i h1 h2
    have hi : i < F.size := by simpa using h2
    rw [List.getElem_take]
    simp [putCells, hi]
theorem putCells_size (F c : Array Value) (o : Nat) : (putCells id o F c).size = c.size := by simp [putCells]

/-! ### The sort's worlds -/
theorem srt_other {α : Type} [Inhabited α] (enc : α → List Value) (k : Nat) (w : World) (g o m : Nat) (d : Array α) (os : Array Obj) {j : Nat} (hj : j ≠ g) (hs : j < w.heap.size) : (sortWorldK enc k w g o m d os).heap[j]? = w.heap[j]? := by
  show ((w.heap.modify g _) ++ os)[j]? = _
  rw [Array.getElem?_append_left (by simpa using hs), Array.getElem?_modify, if_neg (Ne.symm hj)]
theorem srt_row {α : Type} [Inhabited α] (enc : α → List Value) (k : Nat) {w : World} {g : Nat} (m : Nat) (d : Array α) (os : Array Obj) {cur : Array Value} {e : TypeId} {fr : Nat × Nat} (h : w.heap[g]? = some (.cells cur e fr)) : (sortWorldK enc k w g 0 m d os).heap[g]? = some (.cells (putCells id 0 (flatK enc k d) cur) e fr) := by
  have hs := (Array.getElem?_eq_some_iff.1 h).1
  show ((w.heap.modify g _) ++ os)[g]? = _
  rw [Array.getElem?_append_left (by simpa using hs), Array.getElem?_modify, if_pos rfl, h]
  rfl
theorem srt_below {α : Type} [Inhabited α] (enc : α → List Value) (k : Nat) (w : World) (g o m B : Nat) (d : Array α) (os : Array Obj) (hB : B ≤ g) (hs : g < w.heap.size) : Below B w (sortWorldK enc k w g o m d os) := by
  refine ⟨rfl, rfl, rfl, ?_, fun j hj => srt_other enc k w g o m d os (by omega) (by omega)⟩
  show w.heap.size ≤ ((w.heap.modify g _) ++ os).size
  simp

/-! ### Operations as a row's elements -/
/-- An operation whose place is of the call's own. -/
def Elt (w : World) (base : Nat) : Type := {x : Opn × Value // anyB x.1.pl = true ∧ w.ownsRow base 50 3 x.2 x.1.pl.length (runs x.1.pl)}
instance (w : World) (base : Nat) : Inhabited (Elt w base) := ⟨⟨(zop, .slice none 0 0), rfl, World.ownsRow_nil _ _ _ _⟩⟩
def encE {w : World} {base : Nat} (x : Elt w base) : List Value := [.int .u8 (x.1.1.k : Int), .int .u32 (x.1.1.t : Int), .int .u8 (x.1.1.r : Int), x.1.2, .int .i64 x.1.1.p]
def opE' {w : World} {base : Nat} (x : Elt w base) : Opn := x.1.1
theorem encE_len {w : World} {base : Nat} (x : Elt w base) : (encE x).length = 5 := rfl
theorem elts_of {w : World} {base : Nat} : ∀ {cs : List Value} {l : List Opn}, HoldP w base cs l → (∀ o ∈ l, anyB o.pl = true) → ∃ ds : List (Elt w base), cs = ds.flatMap encE ∧ l = ds.map opE'
  | _, [], h, _ => ⟨[], h, rfl⟩
  | _, o :: l, ⟨v, d, h1, h2, h3⟩, hm => by
    obtain ⟨ds, e1, e2⟩ := elts_of h3 (fun o ho => hm o (by simp [ho]))
    have ho := hm o (by simp)
    obtain ⟨z, hz⟩ : ∃ z : Elt w base, z.1 = (o, v) := ⟨⟨(o, v), ho, h2⟩, rfl⟩
    refine ⟨z :: ds, ?_, ?_⟩
    · rw [h1, e1, List.flatMap_cons]; unfold encE; rw [hz]
    · rw [List.map_cons, ← e2]; unfold opE'; rw [hz]
theorem holdP_of {w w' : World} {base : Nat} (hk : ∀ x : Elt w base, w'.ownsRow base 50 3 x.1.2 x.1.1.pl.length (runs x.1.1.pl)) : ∀ ds : List (Elt w base), HoldP w' base (ds.flatMap encE) (ds.map opE')
  | [] => rfl
  | x :: ds => ⟨x.1.2, ds.flatMap encE, by rw [List.flatMap_cons]; rfl, hk x, holdP_of hk ds⟩
/-- Places stay while the operations are moved about. -/
theorem elt_stays {w : World} {base g : Nat} {cur : Array Value} (hg : w.heap[g]? = some (.cells cur 27 (0, 0))) (m : Nat) (d : Array (Elt w base)) (os : Array Obj) (x : Elt w base) :
    (sortWorldK encE 5 w g 0 m d os).ownsRow base 50 3 x.1.2 x.1.1.pl.length (runs x.1.1.pl) := by
  obtain ⟨x, _, h⟩ := x
  refine ⟨h.1, ?_⟩
  rcases h.2 with h | ⟨b, cap, c, e1, e2, e3, e4⟩
  · exact .inl h
  · refine .inr ⟨b, cap, c, e1, e2, ?_, e4⟩
    rw [srt_other encE 5 w g 0 m d os ?_ (Array.getElem?_eq_some_iff.1 e3).1]
    · exact e3
    · rintro rfl
      rw [hg] at e3
      injection e3 with e3
      injection e3 with _ e3 _
      exact absurd e3 (by decide)
theorem elt_holds {w : World} {base g cap n : Nat} {ds : List (Elt w base)} (hg : ∃ cur, w.heap[g]? = some (.cells cur 27 (0, 0)) ∧ cur.size = cap * 5 ∧ cur.toList.take (n * 5) = ds.flatMap encE) (hn : n = ds.length) (hc : n ≤ cap) : HoldsK encE 5 w g 0 ds.toArray := by
  obtain ⟨cur, h1, h2, h3⟩ := hg
  intro j hj
  rw [size_flatK] at hj
  have hj' : j < ds.length * 5 := by simpa using hj
  have hjc : j < cur.size := by rw [h2]; have := Nat.mul_le_mul_right 5 hc; omega
  have e : cur[j]? = (flatK encE 5 ds.toArray)[j]? := by
    rw [← Array.getElem?_toList, ← Array.getElem?_toList, flatK_list encE 5 (by decide) encE_len, ← h3, List.getElem?_take, if_pos (by omega)]
  have hf : j < (flatK encE 5 ds.toArray).size := by rw [size_flatK]; exact hj
  rw [Nat.zero_add]
  constructor
  · have e2 : w.cell? ⟨g, j, none⟩ = cur[j]? := by simp [World.cell?, h1]
    rw [e2, e, Array.getElem?_eq_getElem hf, getElem!_pos _ j hf]
    rfl
  · simp [World.frozen?, h1]

/-! ### Their order -/
def cfE {w : World} {base : Nat} (x y : Elt w base) : Int := cmp x.1.1.pl y.1.1.pl
theorem cfE_is {w : World} {base : Nat} (x y : Elt w base) : cfE x y = Go.Proofs.Ytpgdnenkjommfaa.Place.hold (all x.1.1.pl) (all y.1.1.pl) := by
  unfold cfE cmp
  rw [if_pos ⟨x.2.1, y.2.1⟩]
theorem ltE_is {w : World} {base : Nat} (x y : Elt w base) : ltOf cfE x y = true ↔ Go.Proofs.Ytpgdnenkjommfaa.Place.hold (all x.1.1.pl) (all y.1.1.pl) = -1 := by
  unfold ltOf
  rw [cfE_is, decide_eq_true_iff]
  have := hold_range (all x.1.1.pl) (all y.1.1.pl)
  omega
theorem ltE_no {w : World} {base : Nat} (x y : Elt w base) : ltOf cfE x y = false ↔ ¬ Go.Proofs.Ytpgdnenkjommfaa.Place.hold (all x.1.1.pl) (all y.1.1.pl) = -1 := by
  rw [← ltE_is, Bool.not_eq_true]
theorem swoE (w : World) (base : Nat) : SWO (ltOf (cfE (w := w) (base := base))) where
  irrefl x := by rw [ltE_no, (hold_eq _ _).2 rfl]; decide
  trans x y z h1 h2 := by rw [ltE_is] at *; exact hold_trans _ _ _ h1 h2
  ntrans x y z h1 h2 := by
    rw [ltE_no] at *
    intro h3
    have n1 := hold_neg (all x.1.1.pl) (all y.1.1.pl)
    rcases hold_range (all x.1.1.pl) (all y.1.1.pl) with h | h | h
    · exact h1 h
    · have := (hold_eq _ _).1 h
      rw [this] at h3
      exact h2 h3
    · exact h2 (hold_trans _ _ _ (by omega) h3)
end Go.Proofs.Ytpgdnenkjommfaa.Marks

/- The draws of a run: no step takes any back. Conditions: none. -/
namespace Go.Proofs.Ytpgdnenkjommfaa.Draws
open Go Go.RowKit Go.Sort

theorem ask_drawn {α : Type} (q : Ask α) : ∀ w : World, w.drawn ≤ (w.ask q).2.drawn := by
  induction q with
  | done a => intro w; exact Nat.le_refl _
  | ask what range k ih =>
    intro w
    rw [World.ask]
    split
    · exact ih _ _
    · exact Nat.le_trans (Nat.le_succ _) (ih _ { w with drawn := w.drawn + 1 })
theorem sys_drawn (w : World) (c : Sys) : w.drawn ≤ (w.sys c).2.drawn := by
  have h := ask_drawn (Kernel.perform c w.os) w
  unfold World.sys
  split
  · exact Nat.le_refl _
  · rename_i r os w' _ heq
    rw [heq] at h
    exact h
def rd {α : Type} : Result α → Nat
  | .ok _ w => w.drawn
  | .halt _ w => w.drawn
theorem setCell_drawn (w : World) (a : Addr) (v : Value) : (w.setCell a v).drawn = w.drawn := rfl
theorem freeze_drawn (w : World) (a : Addr) (n : Nat) : (w.freeze a n).drawn = w.drawn := by
  unfold World.freeze
  split <;> rfl
theorem viewStore_drawn {p : Program} {w : World} {at_ : Addr} {u : TypeId} {k : Addr} {v : Value} {am : Bool} {r : World × List Addr} (h : w.viewStore p at_ u k v am = .ok r) : r.1.drawn = w.drawn := by
  unfold World.viewStore at h
  simp only [bind, Except.bind, pure, Except.pure] at h
  repeat' first
    | (simp only [reduceCtorEq] at h; done)
    | (cases h; rfl)
    | split at h
theorem farStore_drawn {p : Program} {w : World} {a : Addr} {v : Value} {am : Bool} {r : World × List Addr} (h : w.farStore p a v am = .ok r) : r.1.drawn = w.drawn := by
  unfold World.farStore at h
  repeat' first
    | (cases h; done)
    | (rename_i hr; cases h; exact viewStore_drawn hr)
    | split at h
theorem run_drawn {α : Type} (p : Program) (s : Sem α) : ∀ w : World, w.drawn ≤ rd (s.run p w) := by
  induction s with
  | pure a => intro w; exact Nat.le_refl _
  | load m a k ih =>
    intro w
    rw [Sem.run]
    split
    · exact ih _ _
    · split
      · exact ih _ _
      · exact Nat.le_refl _
  | store m a v k ih =>
    intro w
    by_cases hc : (∃ c, v = .agg c) ∨ ∃ c, v = .tuple c
    · rcases hc with ⟨c, rfl⟩ | ⟨c, rfl⟩ <;> (rw [Sem.run]; exact Nat.le_refl _)
    · rw [Sem.run]
      · split
        · split
          · exact Nat.le_refl _
          · have := ih (w.setCell a v); rw [setCell_drawn] at this; exact this
        · split
          · rename_i hf
            have := farStore_drawn hf
            rw [← this]
            exact ih _
          · exact Nat.le_refl _
      · exact fun c h => hc (.inl ⟨c, h⟩)
      · exact fun c h => hc (.inr ⟨c, h⟩)
  | new o k ih => intro w; rw [Sem.run]; exact ih _ { w with heap := w.heap.push o }
  | shape r k ih => intro w; rw [Sem.run]; exact ih _ _
  | freeze a n k ih => intro w; rw [Sem.run]; have := ih (w.freeze a n); rw [freeze_drawn] at this; exact this
  | frozen a k ih => intro w; rw [Sem.run]; exact ih _ _
  | getObj r k ih =>
    intro w
    rw [Sem.run]
    split
    · exact Nat.le_refl _
    · exact ih _ _
    · exact Nat.le_refl _
  | setObj r o k ih =>
    intro w
    rw [Sem.run]
    split
    · exact Nat.le_refl _
    · exact ih { w with heap := w.heap.setIfInBounds r o }
    · exact Nat.le_refl _
  | choose q k ih =>
    intro w
    rw [Sem.run]
    split
    · exact ih _ _
    · exact Nat.le_trans (Nat.le_succ _) (ih _ { w with drawn := w.drawn + 1 })
  | sys c k ih => intro w; rw [Sem.run]; exact Nat.le_trans (sys_drawn w c) (ih _ _)
  | program k ih => intro w; rw [Sem.run]; exact ih _ _
  | mark m k ih => intro w; rw [Sem.run]; exact ih _
  | halt h => intro w; exact Nat.le_refl _

/-! ### A goroutine's step -/
def gd : GStep → Nat
  | .go _ w _ => w.drawn
  | .comm _ _ _ _ w _ => w.drawn
  | .spawn _ _ w _ => w.drawn
  | .count _ w _ => w.drawn
  | .timer _ _ w _ => w.drawn
  | .alone _ _ w _ => w.drawn
  | .newcoro _ _ _ w _ => w.drawn
  | .coroswitch _ _ _ w _ => w.drawn
  | .collect _ w _ => w.drawn
  | .watch _ w _ => w.drawn
  | .ended _ w _ => w.drawn
theorem after_drawn (es : Array Event) (s : GStep) : gd (s.after es) = gd s := by cases s <;> rfl
theorem endWith_drawn (w : World) (fd : Nat) (t : ByteArray) (o : Outcome) : w.drawn ≤ gd (endWith w fd t o) := by
  have h := sys_drawn w (.write fd t)
  unfold endWith
  simp only []
  split
  · rename_i heq; rw [heq] at h
    split <;> exact h
  · rename_i heq; rw [heq] at h; exact h
  · rename_i heq; rw [heq] at h; exact h
theorem endThrow_drawn (fr : Frame) (m : String) (w : World) : gd (endThrow fr m w) = w.drawn := rfl
theorem endPrinting_drawn (p : Program) (fr : Frame) (v : Value) (w : World) : gd (endPrinting p fr v w) = w.drawn := by
  unfold endPrinting
  simp only []
  split <;> rfl
theorem run_ok {α : Type} {p : Program} {s : Sem α} {w w' : World} {a : α} (h : s.run p w = .ok a w') : w.drawn ≤ w'.drawn := by
  have := run_drawn p s w
  rw [h] at this
  exact this
theorem run_halt {α : Type} {p : Program} {s : Sem α} {w w' : World} {x : Halt} (h : s.run p w = .halt x w') : w.drawn ≤ w'.drawn := by
  have := run_drawn p s w
  rw [h] at this
  exact this
theorem endFatal_drawn (p : Program) (fr : Frame) (cs : List Frame) (d : Option Dying) (m : String) (w : World) : w.drawn ≤ gd (endFatal p fr cs d m w) := by
  unfold endFatal
  simp only []
  split
  · rename_i h; exact run_ok h
  · rename_i h; exact run_halt h
  · rename_i h; exact run_halt h
theorem writeOn_drawn (p : Program) (fr : Frame) (d : Dying) (f : Fatal) (w : World) : w.drawn ≤ gd (writeOn p fr d f w) := by
  unfold writeOn
  simp only [Sem.runT_eq]
  split
  · exact Nat.le_refl _
  · split <;> rename_i h <;> simp only [Prod.mk.injEq] at h <;> first | exact run_ok h.1 | exact run_halt h.1
theorem die_drawn (p : Program) (fr : Frame) (d : Dying) (w : World) : w.drawn ≤ gd (die p fr d w) := by
  unfold die
  simp only [Sem.runT_eq]
  repeat' first
    | exact Nat.le_refl _
    | exact writeOn_drawn _ _ _ _ _
    | exact endWith_drawn _ _ _ _
    | (rename_i h; exact run_ok h)
    | (rename_i h; exact run_halt h)
    | (rename_i h; rw [after_drawn, endPrinting_drawn]; exact run_halt h)
    | split
theorem doReturn_drawn (p : Program) (main : Bool) (fr : Frame) (cs : List Frame) (d : Option Dying) (v : Value) (w : World) : gd (doReturn p main fr cs d v w) = w.drawn := by
  unfold doReturn
  simp only []
  repeat' first
    | rfl
    | split
theorem run_le {α : Type} {p : Program} {s : Sem α} {w w' : World} {a : α} {n : Nat} (h : s.run p w = .ok a w') (hn : w'.drawn ≤ n) : w.drawn ≤ n := Nat.le_trans (run_ok h) hn
theorem gd_ite {c : Prop} [Decidable c] {a b : GStep} {n : Nat} (ha : n ≤ gd a) (hb : n ≤ gd b) : n ≤ gd (if c then a else b) := by split <;> assumption
theorem gd_elim {α : Type} {o : Option α} {a : GStep} {f : α → GStep} {n : Nat} (ha : n ≤ gd a) (hf : ∀ x, n ≤ gd (f x)) : n ≤ gd (o.elim a f) := by
  cases o
  · exact ha
  · exact hf _
theorem early_drawn (p : Program) (fr : Frame) (cs : List Frame) (d : Option Dying) (g : Nat) (w : World) : w.drawn ≤ gd (early p fr cs d g w) := by
  unfold early
  simp only []
  repeat' first
    | exact Nat.le_refl _
    | exact run_ok (by assumption)
    | exact run_halt (by assumption)
    | (refine run_le (by assumption) ?_; exact Nat.le_refl _)
    | split
theorem callDeferred_drawn (p : Program) (fr : Frame) (cs : List Frame) (d : Option Dying) (x : Deferred) (w : World) : w.drawn ≤ gd (callDeferred p fr cs d x w) := by
  unfold callDeferred
  simp only [Sem.runT_eq]
  refine gd_ite (Nat.le_refl _) ?_
  · rw [after_drawn]
    repeat' first
      | exact run_ok (by assumption)
      | exact run_halt (by assumption)
      | exact Nat.le_trans (run_halt (by assumption)) (endFatal_drawn _ _ _ _ _ _)
      | split
theorem unwind_drawn (p : Program) (main : Bool) (fr : Frame) (cs : List Frame) (d : Option Dying) (w : World) : w.drawn ≤ gd (unwind p main fr cs d w) := by
  unfold unwind
  simp only [Sem.runT_eq]
  repeat' first
    | exact Nat.le_refl _
    | exact callDeferred_drawn _ _ _ _ _ _
    | (rw [doReturn_drawn]; exact Nat.le_refl _)
    | (rw [endPrinting_drawn]; exact Nat.le_refl _)
    | exact run_ok (by assumption)
    | exact run_halt (by assumption)
    | (rw [doReturn_drawn]; exact run_ok (by assumption))
    | (rw [after_drawn])
    | split
theorem apply_drawn (p : Program) (l : Bool) (fr : Frame) (cs : List Frame) (d : Option Dying) (s : Sem Next) (w : World) : w.drawn ≤ gd (stepG.apply p l fr cs d s w) := by
  unfold stepG.apply
  have e : (if l = true then s.runT p w #[] else (s.run p w, #[])).1 = s.run p w := by
    split
    · rw [Sem.runT_eq]
    · rfl
  revert e
  generalize (if l = true then s.runT p w #[] else (s.run p w, #[])) = re
  intro e
  obtain ⟨r, es⟩ := re
  simp only at e
  subst e
  simp only []
  rw [after_drawn]
  split
  all_goals repeat' first
    | exact run_ok (by assumption)
    | exact run_halt (by assumption)
    | exact Nat.le_trans (run_halt (by assumption)) (endFatal_drawn _ _ _ _ _ _)
    | exact Nat.le_trans (run_halt (by assumption)) (early_drawn _ _ _ _ _ _)
    | split
theorem oper_drawn (p : Program) (l : Bool) (fr : Frame) (cs : List Frame) (d : Option Dying) (w : World) : w.drawn ≤ gd (stepG.oper p l fr cs d w) := by
  unfold stepG.oper
  repeat' first
    | exact Nat.le_refl _
    | exact apply_drawn _ _ _ _ _ _ _
    | split
theorem exec_drawn (p : Program) (main : Bool) (l : Bool) (fr : Frame) (cs : List Frame) (d : Option Dying) (w : World) : w.drawn ≤ gd (stepG.exec p main l fr cs d w) := by
  unfold stepG.exec
  simp only [Sem.runT_eq]
  split
  all_goals repeat' first
    | exact Nat.le_refl _
    | exact apply_drawn _ _ _ _ _ _ _
    | exact oper_drawn _ _ _ _ _ _
    | exact run_ok (by assumption)
    | exact run_halt (by assumption)
    | (rw [doReturn_drawn]; exact run_ok (by assumption))
    | exact Nat.le_trans (run_ok (by assumption)) (apply_drawn _ _ _ _ _ _ _)
    | (rw [after_drawn])
    | (refine gd_elim ?_ (fun _ => ?_))
    | split
theorem stepG_drawn (p : Program) (main : Bool) (g : Goroutine) (w : World) (l : Bool) : w.drawn ≤ gd (stepG p main g w l) := by
  unfold stepG
  simp only []
  split
  · exact die_drawn _ _ _ _
  · exact exec_drawn _ _ _ _ _ _ _
  · exact unwind_drawn _ _ _ _ _ _
/-! ### The machine's -/
theorem waitingAt_drawn {r : Rest} {c : Array CommCase} {w w' : World} (h : waitingAt r c w = some w') : w'.drawn = w.drawn := by
  unfold waitingAt at h
  repeat' first
    | (simp at h; done)
    | (cases h; rfl)
    | split at h
theorem communicate_drawn (p : Program) (rest : Rest) (gs : Array Goroutine) (i : Nat) (g : Goroutine) (cases : Array CommCase) (blocking : Bool)
    (shape : CommShape) (w : World) (m' : Machine) (h : (communicate p rest gs i g cases blocking shape w).1 = .next m') : w.drawn ≤ m'.world.drawn := by
  unfold communicate at h
  simp only [] at h
  repeat' first
    | (simp at h; done)
    | (simp only [Stepped.next.injEq] at h; subst h; exact Nat.le_refl _)
    | (simp only [Stepped.next.injEq] at h; subst h; exact run_ok (by assumption))
    | (simp only [Stepped.next.injEq] at h; subst h; refine run_le (by assumption) ?_; exact Nat.le_refl _)
    | (simp only [Stepped.next.injEq] at h; subst h; refine run_le (by assumption) ?_; refine run_le (by assumption) ?_; exact Nat.le_refl _)
    | (simp only [Stepped.next.injEq] at h; subst h; refine run_le (by assumption) ?_; exact run_halt (by assumption))
    | (simp only [Stepped.next.injEq] at h; subst h; rename_i hw; exact Nat.le_of_eq (waitingAt_drawn hw).symm)
    | split at h
theorem look_drawn (p : Program) (gs : Array Goroutine) (rest : Rest) (w : World) (m' : Machine)
    (h : look p gs rest w = .next m') : w.drawn ≤ m'.world.drawn := by
  unfold look at h
  simp only [] at h
  repeat' first
    | (simp at h; done)
    | (simp only [Stepped.next.injEq] at h; subst h; refine run_le (by assumption) ?_; exact Nat.le_refl _)
    | split at h
theorem retime_drawn (m : Machine) (k : Nat) (t : Timer) (a b : Nat) : (retime m k t a b).2.world.drawn = m.world.drawn := by
  unfold retime
  simp only []
  split
  · unfold drain; split <;> rfl
  · rfl
theorem opened_drawn {m m' : Machine} {var : Addr} (h : timerOp.opened m var = some m') : m'.world.drawn = m.world.drawn := by
  unfold timerOp.opened at h
  repeat' first
    | (simp at h; done)
    | (cases h; rfl)
    | split at h
theorem named_drawn {m m' : Machine} {var : Addr} {f : Nat → Timer → Value × Machine} {v : Value} {n : Nat} (hf : ∀ k t, (f k t).2.world.drawn = n) (h : timerOp.named m var f = .ok (v, m')) : m'.world.drawn = n := by
  unfold timerOp.named at h
  split at h
  · simp only [Except.ok.injEq] at h
    rename_i c _
    have := hf c (m.rest.timers.getD c default)
    rw [h] at this
    exact this
  · cases h
theorem timerOp_drawn {m m' : Machine} {op : TimerOp} {v : Value} (h : timerOp m op = .ok (v, m')) : m'.world.drawn = m.world.drawn := by
  unfold timerOp at h
  repeat' first
    | (simp at h; done)
    | (cases h; rfl)
    | exact named_drawn (fun k t => retime_drawn _ _ _ _ _) h
    | (rename_i ho; exact named_drawn (fun k t => (retime_drawn _ _ _ _ _).trans (opened_drawn ho)) h)
    | split at h
theorem runT_drawn (p : Program) (m m' : Machine) (i : Nat) (b : Bool) (h : (runT p m i b).1 = .next m') : m.world.drawn ≤ m'.world.drawn := by
  simp only [runT] at h
  revert h
  generalize m.gs.swapAt! _ _ = gg
  have hs := stepG_drawn p (i == 0) gg.1 m.world b
  revert hs
  generalize stepG p _ gg.1 m.world b = s
  intro hs h
  cases s <;> simp only [] at h <;> simp only [gd] at hs
  all_goals first
    | (simp at h; done)
    | (exact Nat.le_trans hs (communicate_drawn _ _ _ _ _ _ _ _ _ _ h))
    | (exact Nat.le_trans hs (look_drawn _ _ _ _ _ h))
    | (simp only [Stepped.next.injEq] at h; subst h; exact hs)
    | (repeat' first
        | (simp at h; done)
        | (simp only [Stepped.next.injEq] at h; subst h; exact hs)
        | (simp only [Stepped.next.injEq] at h; subst h; rename_i hq; have := timerOp_drawn hq; simp only at this; exact Nat.le_trans hs (Nat.le_of_eq this.symm))
        | (simp only [Stepped.next.injEq] at h; subst h; rename_i hq; have := congrArg gd hq; rw [endThrow_drawn] at this; exact Nat.le_trans hs (Nat.le_of_eq this))
        | split at h)

theorem serve_drawn (p : Program) (m m' : Machine) (k : Nat) (h : serve p m k = .next m') : m.world.drawn ≤ m'.world.drawn := by
  unfold serve at h
  simp only [] at h
  repeat' first
    | (simp at h; done)
    | (simp only [Stepped.next.injEq] at h; subst h; exact Nat.le_refl _)
    | split at h
def moved : Move → Nat → Prop
  | .goroutine m _, n => n ≤ m.world.drawn
  | .machine (.next m) _, n => n ≤ m.world.drawn
  | .machine (.ended _ _) _, _ => True
theorem moved_machine {s : Stepped} {ops : Array MemOp} {n : Nat} (h : ∀ m', s = .next m' → n ≤ m'.world.drawn) : moved (.machine s ops) n := by
  cases s
  · exact h _ rfl
  · exact trivial
theorem run_moved {α : Type} {p : Program} {s : Sem α} {w w' : World} {a : α} {x : Move} (h : s.run p w = .ok a w') (hn : moved x w'.drawn) : moved x w.drawn := by
  have := run_ok h
  cases x with
  | goroutine m i => exact Nat.le_trans this hn
  | machine s ops =>
    cases s
    · exact Nat.le_trans this hn
    · exact trivial
theorem askOn_drawn (p : Program) (m : Machine) : moved (askOn p m) m.world.drawn := by
  unfold askOn
  simp only []
  repeat' first
    | exact trivial
    | (refine run_moved (by assumption) ?_; exact moved_machine (fun m' h => serve_drawn _ _ _ _ h))
    | (refine run_moved (by assumption) ?_; exact Nat.le_refl _)
    | (refine run_moved (by assumption) ?_; refine run_moved (by assumption) ?_; exact Nat.le_refl _)
    | (refine run_moved (by assumption) ?_; refine run_moved (by assumption) ?_; refine run_moved (by assumption) ?_; exact Nat.le_refl _)
    | (refine run_moved (by assumption) ?_; refine run_moved (by assumption) ?_; refine run_moved (by assumption) ?_; refine run_moved (by assumption) ?_; exact Nat.le_refl _)
    | (rename_i hs _ _ _ _ _ _ _ _ _ hc _ _ _ hq _; have h1 := Nat.le_trans (run_ok hs) (run_ok hc); have h2 := run_ok hq; exact Nat.le_trans h1 h2)
    | (rename_i hs _ _ _ _ _ _ _ _ _ hc _ _ _ hq _ _ _ _ hz _; have h1 := Nat.le_trans (run_ok hs) (run_ok hc); have h2 := Nat.le_trans (run_ok hq) (run_ok hz); exact Nat.le_trans h1 h2)
    | split
theorem moved_le {x : Move} {n k : Nat} (h : moved x k) (hn : n ≤ k) : moved x n := by
  cases x with
  | goroutine m i => exact Nat.le_trans hn h
  | machine s ops =>
    cases s
    · exact Nat.le_trans hn h
    · exact trivial
theorem ask_drawn' (p : Program) (m : Machine) : moved (ask p m) m.world.drawn := by
  unfold ask
  split
  · split
    · exact trivial
    · split
      · rename_i hr _ _ hl
        exact moved_le (askOn_drawn _ _) (Nat.le_trans (run_ok hr) (look_drawn _ _ _ _ _ hl))
      · rename_i hr _ hl
        exact moved_machine (fun m' h => (hl m' h).elim)
    · rename_i hr
      exact moved_le (askOn_drawn _ _) (run_ok hr)
  · exact askOn_drawn _ _
theorem move_drawn (p : Program) (m : Machine) : moved (move p m) m.world.drawn := by
  unfold move
  repeat' first
    | exact trivial
    | exact Nat.le_refl _
    | exact ask_drawn' _ _
    | split
theorem stepT_drawn (p : Program) (m m' : Machine) (b : Bool) (h : (stepT p m b).1 = .next m') : m.world.drawn ≤ m'.world.drawn := by
  have hm := move_drawn p m
  unfold stepT at h
  split at h
  · rename_i m1 i he
    rw [he] at hm
    exact Nat.le_trans hm (runT_drawn _ _ _ _ _ h)
  · rename_i s ops he
    rw [he] at hm
    simp only at h
    subst h
    exact hm
theorem runN_drawn (p : Program) : ∀ (n : Nat) (m m' : Machine), runN p n m = .next m' → m.world.drawn ≤ m'.world.drawn
  | 0, m, m', h => by
    rw [runN] at h
    cases h
    exact Nat.le_refl _
  | n + 1, m, m', h => by
    rw [runN] at h
    split at h
    · rename_i m1 h1
      exact Nat.le_trans (stepT_drawn p m m1 true h1) (runN_drawn p n m1 m' h)
    · rename_i hl; exact (hl m' h).elim
theorem steps_drawn {p : Program} {m m' : Machine} (h : Steps p m m') : m.world.drawn ≤ m'.world.drawn := by
  obtain ⟨n, hn⟩ := h
  exact runN_drawn p n m m' hn
/-- Of what a call answers: its draws are no fewer than those ahead of it. -/
theorem calls_drawn {P : Program} {f : FuncId} {args : Array Value} {w : World} {R : Ending → World → Prop} (h : Calls P f args w fun e w' => (∃ v, e = .returned v) ∧ R e w') :
    Calls P f args w fun e w' => R e w' ∧ w.drawn ≤ w'.drawn := by
  intro cs
  obtain ⟨e, w', fr, ⟨⟨v, rfl⟩, hr⟩, hc, hf, hl⟩ := h cs
  exact ⟨_, w', fr, ⟨hr, steps_drawn hc⟩, hc, hf, hl⟩
theorem below_grow {w w' : World} (h : Below w.heap.size w w') (hd : w.drawn ≤ w'.drawn) : ∃ q os, w' = grow (w.drewN q) os := by
  refine ⟨w'.drawn - w.drawn, w'.heap.extract w.heap.size w'.heap.size, ?_⟩
  have e1 : w'.heap = w.heap ++ w'.heap.extract w.heap.size w'.heap.size := by
    apply Array.ext_getElem?
    intro i
    by_cases hi : i < w.heap.size
    · rw [Array.getElem?_append_left hi]; exact h.block i hi
    · rw [Array.getElem?_append_right (by omega), Array.getElem?_extract]
      by_cases h2 : i < w'.heap.size
      · rw [if_pos (by omega)]; congr 1; omega
      · rw [if_neg (by omega)]; exact Array.getElem?_eq_none (by omega)
  have e2 : w'.drawn = w.drawn + (w'.drawn - w.drawn) := by omega
  obtain ⟨h1, h2, h3, h4, h5⟩ := h
  obtain ⟨heap, tape, drawn, os, output⟩ := w
  obtain ⟨heap', tape', drawn', os', output'⟩ := w'
  simp only at h1 h2 h3 e1 e2
  subst h1 h2 h3
  unfold grow World.drewN
  simp only [World.mk.injEq]
  exact ⟨e1, trivial, e2, trivial, trivial⟩
/-- A call that leaves all that was there: behind it the world has grown, and has drawn, and nothing else. -/
theorem calls_grow {P : Program} {f : FuncId} {args : Array Value} {w : World} {v : Value} (h : Calls P f args w fun e w' => e = .returned v ∧ Below w.heap.size w w') :
    Calls P f args w fun e w' => e = .returned v ∧ ∃ q os, w' = grow (w.drewN q) os :=
  (calls_drawn (R := fun e w' => e = .returned v ∧ Below w.heap.size w w') (h.mono fun _ _ k => ⟨⟨v, k.1⟩, k⟩)).mono fun _ _ k => ⟨k.1.1, below_grow k.1.2 k.2⟩
end Go.Proofs.Ytpgdnenkjommfaa.Draws

/- octavo/place: Compare, Begins: what each answers. Conditions: the slices' cells are runs. -/
namespace Go.Proofs.Ytpgdnenkjommfaa.Place
open Go.RowKit Stamp
attribute [local go_sem ↓] Go.wp_at_zero Go.wp_at_succ

set_option maxRecDepth 100000 in
set_option maxHeartbeats 4000000 in
theorem pCompare_any {a b : Value} {p q : List Run} {w : World} (ha : Runs w a p) (hb : Runs w b q) :
    Calls Try.prog 17 #[a, b] w fun e w' => e = .returned (.int .i64 (cmp p q)) ∧ Below w.heap.size w w' := by
  have HA := Lib.hid ha
  have HB := Lib.hid hb
  obtain ⟨pb, hpb⟩ : ∃ pb, anyB p = pb := ⟨_, rfl⟩
  obtain ⟨qb, hqb⟩ : ∃ qb, anyB q = qb := ⟨_, rfl⟩
  have A1 : Hid (∀ W : World, Below w.heap.size w W → Calls Try.prog 37 #[a] W fun e w' => e = .returned (.bool pb) ∧ Below W.heap.size W w') := fun W hW => stands_is (HA.out.keeps hW) hpb
  have A2 : Hid (∀ W : World, Below w.heap.size w W → Calls Try.prog 37 #[b] W fun e w' => e = .returned (.bool qb) ∧ Below W.heap.size W w') := fun W hW => stands_is (HB.out.keeps hW) hqb
  have HPB := Lib.hid hpb
  have HQB := Lib.hid hqb
  clear ha hb hpb hqb
  cases pb
  · have hz : cmp p q = 0 := by unfold cmp; rw [if_neg (by rw [HPB.out]; simp)]
    rw [hz]
    clear hz
    go_enter Try.func17, Try.ntmps17
    go_wp2_with fail
    refine (A1.out _ (Below.refl _ _)).mono ?_
    rintro e w1 ⟨rfl, b1⟩
    go_wp2
    go_ret
    exact ⟨rfl, b1⟩
  cases qb
  · have hz : cmp p q = 0 := by unfold cmp; rw [if_neg (by rw [HQB.out]; simp)]
    rw [hz]
    clear hz
    go_enter Try.func17, Try.ntmps17
    go_wp2_with fail
    refine (A1.out _ (Below.refl _ _)).mono ?_
    rintro e w1 ⟨rfl, b1⟩
    have B1 := Lib.hid b1
    clear b1
    go_wp2_with fail
    refine (A2.out _ B1.out).mono ?_
    rintro e w2 ⟨rfl, b2⟩
    have B2 := Lib.hid (bt B1.out b2)
    clear b2
    go_wp2
    go_ret
    exact ⟨rfl, B2.out⟩
  have hz : cmp p q = hold (all p) (all q) := by unfold cmp; rw [if_pos ⟨HPB.out, HQB.out⟩]
  have AP : Hid (∀ W : World, Below w.heap.size w W → Calls Try.prog 38 #[a, b] W (Parted (hold (all p) (all q)) (first (all p) (all q)) W)) := fun W hW => apart_any (HA.out.keeps hW) (HB.out.keeps hW) ((anyB_iff p).1 HPB.out).chain ((anyB_iff q).1 HQB.out).chain
  rw [hz]
  obtain ⟨h0, hh0⟩ : ∃ h0, h0 = hold (all p) (all q) := ⟨_, rfl⟩
  obtain ⟨f0, hf0⟩ : ∃ f0, f0 = first (all p) (all q) := ⟨_, rfl⟩
  rw [← hh0, ← hf0] at AP
  rw [← hh0]
  clear hz hh0 hf0
  go_enter Try.func17, Try.ntmps17
  go_wp2_with fail
  refine (A1.out _ (Below.refl _ _)).mono ?_
  rintro e w1 ⟨rfl, b1⟩
  have B1 := Lib.hid b1
  clear b1
  go_wp2_with fail
  refine (A2.out _ B1.out).mono ?_
  rintro e w2 ⟨rfl, b2⟩
  have B2 := Lib.hid (bt B1.out b2)
  clear b2
  go_wp2_with fail
  refine (AP.out _ B2.out).mono ?_
  rintro e w3 ⟨x, y, rfl, he, hf, b3⟩
  have B3 := Lib.hid (bt B2.out b3)
  clear b3 AP hf A1 A2 B1 B2
  obtain ⟨t1, r1, m1, ht1, hr1, hm1⟩ := x
  obtain ⟨t2, r2, m2, ht2, hr2, hm2⟩ := y
  unfold ends at he
  simp only at he ⊢
  obtain ⟨wl, hwl⟩ : ∃ wl, wl = (w3.alloc (.cells #[.int .u32 (t1 : Int), .int .u8 (r1 : Int), .int .i64 m1] 50)).alloc (.cells #[.int .u32 (t2 : Int), .int .u8 (r2 : Int), .int .i64 m2] 50) := ⟨_, rfl⟩
  have PA : Hid (Tri wl w3.heap.size (.int .u32 (t1 : Int)) (.int .u8 (r1 : Int)) (.int .i64 m1)) := by
    rw [hwl]
    exact (tri_new w3 (.int .u32 (t1 : Int)) (.int .u8 (r1 : Int)) (.int .i64 m1) 50).keeps ((Below.refl _ _).alloc (Nat.le_refl _) _)
  have PB : Hid (Tri wl (w3.heap.size + 1) (.int .u32 (t2 : Int)) (.int .u8 (r2 : Int)) (.int .i64 m2)) := by
    have := tri_new (w3.alloc (.cells #[.int .u32 (t1 : Int), .int .u8 (r1 : Int), .int .i64 m1] 50)) (.int .u32 (t2 : Int)) (.int .u8 (r2 : Int)) (.int .i64 m2) 50
    rw [hwl]
    unfold Hid
    simpa using this
  have BL : Hid (Below w.heap.size w wl) := by rw [hwl]; exact (B3.out.alloc B3.out.size _).alloc (Nat.le_trans B3.out.size (by simp)) _
  by_cases hm1z : m1 = 0
  · rw [if_pos hm1z] at he
    by_cases hm2z : m2 = 0
    · rw [if_pos hm2z] at he
      simp only at he
      subst hm1z hm2z he
      go_wp2
      rw [← hwl]
      go_ret
      exact ⟨rfl, BL.out⟩
    · rw [if_neg hm2z] at he
      simp only at he
      have u1 : (m2 == 0) = false := by simpa using hm2z
      subst hm1z he
      go_wp2
      rw [← hwl]
      go_ret
      exact ⟨rfl, BL.out⟩
  · rw [if_neg hm1z] at he
    have u1 : (m1 == 0) = false := by simpa using hm1z
    by_cases hm2z : m2 = 0
    · rw [if_pos hm2z] at he
      simp only at he
      subst hm2z he
      go_wp2
      rw [← hwl]
      go_ret
      exact ⟨rfl, BL.out⟩
    · rw [if_neg hm2z] at he
      have u2 : (m2 == 0) = false := by simpa using hm2z
      have LS := Lib.hid (less_any t2 r2 t1 r1 ht2 hr2 ht1 hr1)
      have F1 := Lib.hid (firstOf_any t1 r1 m1)
      have F2 := Lib.hid (firstOf_any t2 r2 m2)
      obtain ⟨lb, hlb⟩ : ∃ lb, less t2 r2 t1 r1 = lb := ⟨_, rfl⟩
      rw [hlb] at LS he
      clear hlb hm1z hm2z
      cases lb
      all_goals
        simp only [Bool.false_eq_true, if_false, if_true] at he
        subst he
        go_wp2
        rw [← hwl]
        clear hwl
        go_region_held3 (fun w' => Below wl.heap.size wl w' ∧ w'.cell? ⟨w3.heap.size, 0, none⟩ = some (.int .u32 (t1 : Int)) ∧ w'.cell? ⟨w3.heap.size, 1, none⟩ = some (.int .u8 (r1 : Int)) ∧ w'.cell? ⟨w3.heap.size, 2, none⟩ = some (.int .i64 m1) ∧ w'.cell? ⟨w3.heap.size + 1, 0, none⟩ = some (.int .u32 (t2 : Int)) ∧ w'.cell? ⟨w3.heap.size + 1, 1, none⟩ = some (.int .u8 (r2 : Int)) ∧ w'.cell? ⟨w3.heap.size + 1, 2, none⟩ = some (.int .i64 m2))
          (first | exact keepT2 PA.out PB.out (drew1 _) (Below.refl _ _) | (go_split_ands; exact keepT2 PA.out PB.out (drew1 _) (by assumption)) | (go_split_ands; exact keepT2 PA.out PB.out (by assumption) (by assumption)))
          ((first | (go_at_call 40; (with_reducible refine (firstOf_any _ _ _ _).mono ?_); rintro e w4 ⟨rfl, b4⟩) | (go_at_call 39; (with_reducible refine (LS.out _).mono ?_); rintro e w6 ⟨rfl, b6⟩)))
      all_goals
        go_wp2
        go_ret
        go_split_ands
        exact ⟨rfl, BL.out.trans (Below.mono (by assumption) BL.out.size)⟩

end Go.Proofs.Ytpgdnenkjommfaa.Place
