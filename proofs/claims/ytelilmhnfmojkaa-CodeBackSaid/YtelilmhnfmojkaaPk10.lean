/- octavoref10.Bytes, Put: what each answers. Conditions: the place's cells are runs; Bytes: the operation may be. -/
import Derived.Test.YtelilmhnfmojkaaPk09
import Derived.Test.YtelilmhnfmojkaaPk08
import Derived.Test.YtelilmhnfmojkaaPk01
import Derived.Test.YtelilmhnfmojkaaPk06

namespace Go.Proofs.Ytelilmhnfmojkaa.Codes
open Go.RowKit Go.WideShapes Num Go.Proofs.Ytelilmhnfmojkaa.Place Ops
attribute [local go_sem ↓] Go.wp_at_zero Go.wp_at_succ

/-- Bytes of the call's own. -/
def Gave (l : List UInt8) (w : World) (e : Ending) (w' : World) : Prop := ∃ v', e = .returned v' ∧ w'.ownsRow w.heap.size 5 1 v' l.length (bs l) ∧ Below w.heap.size w w'

set_option maxHeartbeats 8000000 in
theorem refBytesO_any {vp : Value} {o : Opn} {w : World} (hv : Runs w vp o.pl) (hm : mayO o = true) :
    Calls Try.prog 32 #[opv o vp] w (Gave (bytesO o) w) := by
  have HR : Hid (∀ W : World, Below w.heap.size w W → Runs W vp o.pl) := fun W h => hv.keeps h
  obtain ⟨ao, cap, rfl⟩ := hv.shape
  have hkc := kind_cases hm
  have hlf := last_fin hkc.2.1
  have hMay := (mayB_iff o.pl).1 hkc.2.1
  have hl64 := hMay.2.1
  have HC := Lib.hid hMay.2.2.1
  have HK := Lib.hid hkc
  have HL := Lib.hid hlf
  have HBY : Hid (bytesO o = nums (o.k :: o.pl.length :: (runNums 0 o.pl ++ tailNums o))) := rfl
  have OWN := Lib.hid (fun (W : World) => refOwn_any (v := .slice ao o.pl.length cap) (o := o) W)
  have OB : Hid (ownB o = (decide (o.k = 1) || decide (o.k = 2))) := rfl
  obtain ⟨bo, hbo⟩ : ∃ b, ownB o = b := ⟨_, rfl⟩
  rw [hbo] at OWN OB
  obtain ⟨k, t, r, l, p, hk, ht, hr', hp'⟩ := o
  unfold opv at OWN ⊢
  simp only at OWN OB HC HK HL HR HBY hl64 ⊢
  obtain ⟨n, hn⟩ : ∃ n, n = l.length := ⟨_, rfl⟩
  have HN := Lib.hid hn
  rw [← hn] at OWN HBY hl64 ⊢
  obtain ⟨B, hB⟩ : ∃ B, B = w.heap.size := ⟨_, rfl⟩
  unfold Gave
  rw [← hB] at HR ⊢
  have HBL : Hid (B ≤ w.heap.size) := by rw [hB]; exact Nat.le_refl _
  obtain ⟨H, hH⟩ : ∃ H, H = w.heap.size := ⟨_, rfl⟩
  have B0 : Hid (Below B w (w.alloc (.cells #[.int .u8 (k : Int), .int .u32 (t : Int), .int .u8 (r : Int), .slice ao n cap, .int .i64 p] 35))) := (Below.refl _ _).alloc HBL.out _
  have X0 : Hid ((w.alloc (.cells #[.int .u8 (k : Int), .int .u32 (t : Int), .int .u8 (r : Int), .slice ao n cap, .int .i64 p] 35)).heap[H]? = some (.cells #[.int .u8 (k : Int), .int .u32 (t : Int), .int .u8 (r : Int), .slice ao n cap, .int .i64 p] 35)) := by rw [hH]; exact heap_alloc_new w _
  have kb : k ≤ most := by unfold most; omega
  have nb : n ≤ most := by unfold most; omega
  clear hv hm hkc hlf hMay hn hbo hB
  go_enter Try.func32, Try.ntmps32
  have HH := Lib.hid hH
  clear hH
  go_wp2_with fail
  refine (refBytes_any k kb _).mono ?_
  rintro e w1 ⟨v1, rfl, h1, b1⟩
  rw [← HH.out]
  clear HH
  have O1 : Hid (w1.ownsRow B 5 1 v1 (nums [k]).length (bs (nums [k]))) := by rw [nums_one]; exact op_base h1 (Nat.le_trans HBL.out B0.out.size)
  have X1 : Hid (w1.heap[H]? = some (.cells #[.int .u8 (k : Int), .int .u32 (t : Int), .int .u8 (r : Int), .slice ao n cap, .int .i64 p] 35)) := Kinds.below b1 _ _ _ _ (by decide) X0.out
  have B1 : Hid (Below B w w1) := B0.out.trans (b1.mono (Nat.le_trans HBL.out B0.out.size))
  obtain ⟨c0, c1, c2, c3, c4⟩ := cells5 X1.out
  have HLENa : Hid ((nums [k]).length ≤ 2000) := by have := nums_len [k]; simp at this; unfold Hid; omega
  clear h1 b1 X0 B0
  go_wp2_with fail
  refine (refBytes_any n nb _).mono ?_
  rintro e wAa ⟨uAa, rfl, hu, hb⟩
  obtain ⟨uoa, uca, rfl⟩ := own_shape hu
  have OAa := Lib.hid (own_stays O1.out hb)
  have XAa : Hid (wAa.heap[H]? = some (.cells #[.int .u8 (k : Int), .int .u32 (t : Int), .int .u8 (r : Int), .slice ao n cap, .int .i64 p] 35)) := Kinds.below hb _ _ _ _ (by decide) X1.out
  have SAa : Hid (Sees wAa (.slice uoa (enc n).length uca) 1 (enc n).length (bs (enc n))) := Sees.own hu
  have BAa : Hid (Below B w wAa) := B1.out.trans (hb.mono (Nat.le_trans HBL.out B1.out.size))
  have ELa : (enc n).length ≤ 6 := (encF_len 5 _).2
  have bza : B ≤ wAa.heap.size := Nat.le_trans HBL.out BAa.out.size
  have ala : (nums [k]).length ≤ 2000 := HLENa.out
  clear hu hb c0 c1 c2 c3 c4
  go_wp2_with (at_builtin; refine wpList_append_sees rfl (.tmp 11) (.tmp 15) 22 5 rfl Try.underlying22 u8_info rfl (by decide) B _ _ _ rfl OAa.out _ (enc n).length _ rfl SAa.out (bs_oneCell _) ?k1 ?k2 ?k3 ?_)
  case k1 => omega
  case k2 => omega
  case k3 => exact bza
  rintro va wa o5 g5 b5
  have Oa : Hid (wa.ownsRow B 5 1 va (nums ([k, n] ++ runNums 0 (l.take 0))).length (bs (nums ([k, n] ++ runNums 0 (l.take 0))))) := by
    have eqn : nums ([k, n] ++ runNums 0 (l.take 0)) = nums [k] ++ enc n := by simp [nums, runNums]
    unfold Hid; rw [eqn, bs_append]; simpa using o5
  have Xa : Hid (wa.heap[H]? = some (.cells #[.int .u8 (k : Int), .int .u32 (t : Int), .int .u8 (r : Int), .slice ao n cap, .int .i64 p] 35)) := Kinds.grown OAa.out g5 _ _ _ _ (by decide) XAa.out
  have Ba : Hid (Below B w wa) := BAa.out.trans b5
  obtain ⟨c0, c1, c2, c3, c4⟩ := cells5 Xa.out
  clear o5 g5 b5 OAa XAa SAa BAa ELa bza ala O1 X1 B1
  go_wp2
  go_loopw [3, 4, 5] (fun b a i wr => ∃ (j : Nat) (z : Int), j ≤ n ∧ i = .int .i64 (j : Int) ∧ a = .int .i64 z ∧ Hid (z = finF 0 (l.take j)) ∧ Hid (wr.ownsRow B 5 1 b (nums ([k, n] ++ runNums 0 (l.take j))).length (bs (nums ([k, n] ++ runNums 0 (l.take j))))) ∧
    Hid (wr.heap[H]? = some (.cells #[.int .u8 (k : Int), .int .u32 (t : Int), .int .u8 (r : Int), .slice ao n cap, .int .i64 p] 35)) ∧ Hid (Below B w wr)) (fun _ _ i _ => n - (intOf i).toNat)
  case atStart => exact ⟨0, 0, by omega, rfl, rfl, Lib.hid rfl, Oa, Xa, Ba⟩
  case round =>
    clear Oa Xa Ba c0 c1 c2 c3 c4
    obtain ⟨j, z, hj, rfl, rfl, hz, hown, hbox, hbel⟩ := hrel
    obtain ⟨c0, c1, c2, c3, c4⟩ := cells5 hbox.out
    have HLEN : Hid (∀ j, j ≤ n → (nums ([k, n] ++ runNums 0 (l.take j))).length ≤ 1200) := fun j hj => by
      have := nums_len ([k, n] ++ runNums 0 (l.take j))
      rw [List.length_append, runNums_len, List.length_take] at this
      simp only [List.length_cons, List.length_nil] at this
      omega
    by_cases hjn : j < n
    · have q1 : decide (j < n) = true := by simpa using hjn
      have q2 : (0 : Int) ≤ (j : Int) := by omega
      have q3 : (j : Int) < (n : Int) := by omega
      have hjl : j < l.length := by rw [← HN.out]; exact hjn
      obtain ⟨bb, oo, rfl, hbb, hc0, hc1, hc2⟩ := (HR.out wr hbel.out).at j hjl
      have ho := chain_one HC.out hjl
      have ha := chain_ahead HC.out hjl
      obtain ⟨hs1, hs2⟩ := runs_snoc hjl
      rw [← hz.out] at ha hs1
      obtain ⟨x, hx⟩ : ∃ x, x = l.getD j zrun := ⟨_, rfl⟩
      rw [← hx] at hc0 hc1 hc2 ho ha hs1 hs2
      obtain ⟨xt, xr, xm, h1, h2, h3⟩ := x
      unfold Place.One at ho
      simp only at hc0 hc1 hc2 ho ha hs1 hs2
      obtain ⟨m, rfl⟩ := Int.eq_ofNat_of_zero_le (show 0 ≤ xm by omega)
      obtain ⟨d, hd⟩ := Int.eq_ofNat_of_zero_le (show 0 ≤ (xt : Int) - z by omega)
      have e1 : IntKind.i64.wrap (d : Int) = (d : Int) := IntWalk.i64_in _ (by omega)
      have HD : Hid (((xt : Int) - z).toNat = d) := by unfold Hid; omega
      have db : d ≤ most := by unfold most; omega
      have rb : xr ≤ most := by unfold most; omega
      have mb : m ≤ most := by unfold most; omega
      have HS1 := Lib.hid hs1
      have HS2 := Lib.hid hs2
      have hl0 := HLEN.out j hj
      have BA1 : Hid (Below B w (wr.alloc (.cells #[.int .u32 (xt : Int), .int .u8 (xr : Int), .int .i64 (m : Int)] 71))) := hbel.out.alloc (Nat.le_trans HBL.out hbel.out.size) _
      have OW : Hid ((wr.alloc (.cells #[.int .u32 (xt : Int), .int .u8 (xr : Int), .int .i64 (m : Int)] 71)).ownsRow B 5 1 u3 (nums ([k, n] ++ runNums 0 (l.take j))).length (bs (nums ([k, n] ++ runNums 0 (l.take j))))) := own_stays hown.out ((Below.refl _ _).alloc (Nat.le_refl _) _)
      have XW : Hid ((wr.alloc (.cells #[.int .u32 (xt : Int), .int .u8 (xr : Int), .int .i64 (m : Int)] 71)).heap[H]? = some (.cells #[.int .u8 (k : Int), .int .u32 (t : Int), .int .u8 (r : Int), .slice (some ⟨bb, oo, none⟩) n cap, .int .i64 p] 35)) := blk_old hbox.out
      obtain ⟨R, hR⟩ : ∃ R, R = wr.heap.size := ⟨_, rfl⟩
      have RW : Hid ((wr.alloc (.cells #[.int .u32 (xt : Int), .int .u8 (xr : Int), .int .i64 (m : Int)] 71)).heap[R]? = some (.cells #[.int .u32 (xt : Int), .int .u8 (xr : Int), .int .i64 (m : Int)] 71)) := by rw [hR]; exact blk_new rfl
      have LT := Lib.hid (fun W => rend_any xt xr m h1 (by omega) W)
      have HM : Hid (fin ⟨xt, xr, (m : Int), h1, h2, h3⟩ = (xt : Int) + (m : Int) - 1) := rfl
      have HLENb : Hid ((nums ([k, n] ++ runNums 0 (l.take j))).length ≤ 2000) := by unfold Hid; omega
      have HLENc : Hid ((nums ([k, n] ++ runNums 0 (l.take j) ++ [d])).length ≤ 2000) := by
        have := (encF_len 5 d).2; unfold Hid; rw [nums_append, nums_one, List.length_append]; unfold enc; omega
      have HLENd : Hid ((nums ([k, n] ++ runNums 0 (l.take j) ++ [d] ++ [xr])).length ≤ 2000) := by
        have := (encF_len 5 d).2; have := (encF_len 5 xr).2; unfold Hid; rw [nums_append, nums_one, nums_append _ [d], nums_one, List.length_append, List.length_append]; unfold enc; omega
      have HR2 := Lib.hid hR
      clear hR
      clear hs1 hs2 hz ha ho hx hown hbox hbel
      go_wp2_with fail
      refine (refBytes_any d db _).mono ?_
      rintro e wAb ⟨uAb, rfl, hu, hb⟩
      obtain ⟨uob, ucb, rfl⟩ := own_shape hu
      rw [← HR2.out]
      clear HR2
      have OAb := Lib.hid (own_stays OW.out hb)
      have XAb : Hid (wAb.heap[H]? = some (.cells #[.int .u8 (k : Int), .int .u32 (t : Int), .int .u8 (r : Int), .slice (some ⟨bb, oo, none⟩) n cap, .int .i64 p] 35)) := Kinds.below hb _ _ _ _ (by decide) XW.out
      have RAb : Hid (wAb.heap[R]? = some (.cells #[.int .u32 (xt : Int), .int .u8 (xr : Int), .int .i64 (m : Int)] 71)) := Kinds.below hb _ _ _ _ (by decide) RW.out
      have SAb : Hid (Sees wAb (.slice uob (enc d).length ucb) 1 (enc d).length (bs (enc d))) := Sees.own hu
      have BAb : Hid (Below B w wAb) := BA1.out.trans (hb.mono (Nat.le_trans HBL.out BA1.out.size))
      have ELb : (enc d).length ≤ 6 := (encF_len 5 _).2
      have bzb : B ≤ wAb.heap.size := Nat.le_trans HBL.out BAb.out.size
      have alb : (nums ([k, n] ++ runNums 0 (l.take j))).length ≤ 2000 := HLENb.out
      clear hu hb c0 c1 c2 c3 c4
      go_wp2_with (at_builtin; refine wpList_append_sees rfl (.tmp 29) (.tmp 35) 22 5 rfl Try.underlying22 u8_info rfl (by decide) B _ _ _ rfl OAb.out _ (enc d).length _ rfl SAb.out (bs_oneCell _) ?k1 ?k2 ?k3 ?_)
      case k1 => omega
      case k2 => omega
      case k3 => exact bzb
      rintro vb wb o5 g5 b5
      have Ob : Hid (wb.ownsRow B 5 1 vb (nums ([k, n] ++ runNums 0 (l.take j) ++ [d])).length (bs (nums ([k, n] ++ runNums 0 (l.take j) ++ [d])))) := by
        have eqn : nums ([k, n] ++ runNums 0 (l.take j) ++ [d]) = nums ([k, n] ++ runNums 0 (l.take j)) ++ enc d := by rw [nums_append _ [d], nums_one]
        unfold Hid; rw [eqn, bs_append]; simpa using o5
      have Xb : Hid (wb.heap[H]? = some (.cells #[.int .u8 (k : Int), .int .u32 (t : Int), .int .u8 (r : Int), .slice (some ⟨bb, oo, none⟩) n cap, .int .i64 p] 35)) := Kinds.grown OAb.out g5 _ _ _ _ (by decide) XAb.out
      have Rb : Hid (wb.heap[R]? = some (.cells #[.int .u32 (xt : Int), .int .u8 (xr : Int), .int .i64 (m : Int)] 71)) := Kinds.grown OAb.out g5 _ _ _ _ (by decide) RAb.out
      have Bb : Hid (Below B w wb) := BAb.out.trans b5
      obtain ⟨c0, c1, c2, c3, c4⟩ := cells5 Xb.out
      obtain ⟨r0, r1, r2, -, -⟩ := cells_blk3 Rb.out
      clear o5 g5 b5 OAb XAb SAb BAb ELb bzb alb OW XW BA1 RAb RW
      go_wp2_with fail
      refine (refBytes_any xr rb _).mono ?_
      rintro e wAc ⟨uAc, rfl, hu, hb⟩
      obtain ⟨uoc, ucc, rfl⟩ := own_shape hu
      have OAc := Lib.hid (own_stays Ob.out hb)
      have XAc : Hid (wAc.heap[H]? = some (.cells #[.int .u8 (k : Int), .int .u32 (t : Int), .int .u8 (r : Int), .slice (some ⟨bb, oo, none⟩) n cap, .int .i64 p] 35)) := Kinds.below hb _ _ _ _ (by decide) Xb.out
      have RAc : Hid (wAc.heap[R]? = some (.cells #[.int .u32 (xt : Int), .int .u8 (xr : Int), .int .i64 (m : Int)] 71)) := Kinds.below hb _ _ _ _ (by decide) Rb.out
      have SAc : Hid (Sees wAc (.slice uoc (enc xr).length ucc) 1 (enc xr).length (bs (enc xr))) := Sees.own hu
      have BAc : Hid (Below B w wAc) := Bb.out.trans (hb.mono (Nat.le_trans HBL.out Bb.out.size))
      have ELc : (enc xr).length ≤ 6 := (encF_len 5 _).2
      have bzc : B ≤ wAc.heap.size := Nat.le_trans HBL.out BAc.out.size
      have alc : (nums ([k, n] ++ runNums 0 (l.take j) ++ [d])).length ≤ 2000 := HLENc.out
      clear hu hb c0 c1 c2 c3 c4 r0 r1 r2
      go_wp2_with (at_builtin; refine wpList_append_sees rfl (.tmp 37) (.tmp 41) 22 5 rfl Try.underlying22 u8_info rfl (by decide) B _ _ _ rfl OAc.out _ (enc xr).length _ rfl SAc.out (bs_oneCell _) ?k1 ?k2 ?k3 ?_)
      case k1 => omega
      case k2 => omega
      case k3 => exact bzc
      rintro vc wc o5 g5 b5
      have Oc : Hid (wc.ownsRow B 5 1 vc (nums ([k, n] ++ runNums 0 (l.take j) ++ [d] ++ [xr])).length (bs (nums ([k, n] ++ runNums 0 (l.take j) ++ [d] ++ [xr])))) := by
        have eqn : nums ([k, n] ++ runNums 0 (l.take j) ++ [d] ++ [xr]) = nums ([k, n] ++ runNums 0 (l.take j) ++ [d]) ++ enc xr := by rw [nums_append _ [xr], nums_one]
        unfold Hid; rw [eqn, bs_append]; simpa using o5
      have Xc : Hid (wc.heap[H]? = some (.cells #[.int .u8 (k : Int), .int .u32 (t : Int), .int .u8 (r : Int), .slice (some ⟨bb, oo, none⟩) n cap, .int .i64 p] 35)) := Kinds.grown OAc.out g5 _ _ _ _ (by decide) XAc.out
      have Rc : Hid (wc.heap[R]? = some (.cells #[.int .u32 (xt : Int), .int .u8 (xr : Int), .int .i64 (m : Int)] 71)) := Kinds.grown OAc.out g5 _ _ _ _ (by decide) RAc.out
      have Bc : Hid (Below B w wc) := BAc.out.trans b5
      obtain ⟨c0, c1, c2, c3, c4⟩ := cells5 Xc.out
      obtain ⟨r0, r1, r2, -, -⟩ := cells_blk3 Rc.out
      clear o5 g5 b5 OAc XAc SAc BAc ELc bzc alc Ob Xb Bb RAc Rb
      go_wp2_with fail
      refine (refBytes_any m mb _).mono ?_
      rintro e wAd ⟨uAd, rfl, hu, hb⟩
      obtain ⟨uod, ucd, rfl⟩ := own_shape hu
      have OAd := Lib.hid (own_stays Oc.out hb)
      have XAd : Hid (wAd.heap[H]? = some (.cells #[.int .u8 (k : Int), .int .u32 (t : Int), .int .u8 (r : Int), .slice (some ⟨bb, oo, none⟩) n cap, .int .i64 p] 35)) := Kinds.below hb _ _ _ _ (by decide) Xc.out
      have RAd : Hid (wAd.heap[R]? = some (.cells #[.int .u32 (xt : Int), .int .u8 (xr : Int), .int .i64 (m : Int)] 71)) := Kinds.below hb _ _ _ _ (by decide) Rc.out
      have SAd : Hid (Sees wAd (.slice uod (enc m).length ucd) 1 (enc m).length (bs (enc m))) := Sees.own hu
      have BAd : Hid (Below B w wAd) := Bc.out.trans (hb.mono (Nat.le_trans HBL.out Bc.out.size))
      have ELd : (enc m).length ≤ 6 := (encF_len 5 _).2
      have bzd : B ≤ wAd.heap.size := Nat.le_trans HBL.out BAd.out.size
      have ald : (nums ([k, n] ++ runNums 0 (l.take j) ++ [d] ++ [xr])).length ≤ 2000 := HLENd.out
      clear hu hb c0 c1 c2 c3 c4 r0 r1 r2
      go_wp2_with (at_builtin; refine wpList_append_sees rfl (.tmp 43) (.tmp 46) 22 5 rfl Try.underlying22 u8_info rfl (by decide) B _ _ _ rfl OAd.out _ (enc m).length _ rfl SAd.out (bs_oneCell _) ?k1 ?k2 ?k3 ?_)
      case k1 => omega
      case k2 => omega
      case k3 => exact bzd
      rintro vd wd o5 g5 b5
      have Od : Hid (wd.ownsRow B 5 1 vd (nums ([k, n] ++ runNums 0 (l.take (j + 1)))).length (bs (nums ([k, n] ++ runNums 0 (l.take (j + 1)))))) := by
        have eqn : nums ([k, n] ++ runNums 0 (l.take (j + 1))) = nums ([k, n] ++ runNums 0 (l.take j) ++ [d] ++ [xr]) ++ enc m := by
          rw [HS1.out, HD.out, ← nums_one m, ← nums_append]; simp
        unfold Hid; rw [eqn, bs_append]; simpa using o5
      have Xd : Hid (wd.heap[H]? = some (.cells #[.int .u8 (k : Int), .int .u32 (t : Int), .int .u8 (r : Int), .slice (some ⟨bb, oo, none⟩) n cap, .int .i64 p] 35)) := Kinds.grown OAd.out g5 _ _ _ _ (by decide) XAd.out
      have Rd : Hid (wd.heap[R]? = some (.cells #[.int .u32 (xt : Int), .int .u8 (xr : Int), .int .i64 (m : Int)] 71)) := Kinds.grown OAd.out g5 _ _ _ _ (by decide) RAd.out
      have Bd : Hid (Below B w wd) := BAd.out.trans b5
      obtain ⟨c0, c1, c2, c3, c4⟩ := cells5 Xd.out
      obtain ⟨r0, r1, r2, -, -⟩ := cells_blk3 Rd.out
      clear o5 g5 b5 OAd XAd SAd BAd ELd bzd ald Oc Xc Bc RAd Rc
      go_wp2_with fail
      refine (LT.out _).mono ?_
      rintro e w4 ⟨rfl, b4⟩
      have X4 : Hid (w4.heap[H]? = some (.cells #[.int .u8 (k : Int), .int .u32 (t : Int), .int .u8 (r : Int), .slice (some ⟨bb, oo, none⟩) n cap, .int .i64 p] 35)) := Kinds.below b4 _ _ _ _ (by decide) Xd.out
      have B4 : Hid (Below B w w4) := Bd.out.trans (b4.mono (Nat.le_trans HBL.out Bd.out.size))
      have O4 := Lib.hid (own_stays Od.out b4)
      have HZ2 : Hid ((xt : Int) + (m : Int) - 1 = finF 0 (l.take (j + 1))) := by
        unfold Hid; rw [HS2.out, HM.out]
      clear b4 r0 r1 r2 Xd Bd Od Rd c0 c1 c2 c3 c4
      go_wp2
      go_roundw
      case rel => exact ⟨j + 1, _, by omega, by go_num, rfl, HZ2, O4, X4, B4⟩
      case measure => simp [intOf]; omega
    · have q1 : decide (j < n) = false := by simpa using hjn
      have hkk : l.take j = l := List.take_of_length_le (by have := HN.out; omega)
      have hl0 := HLEN.out j hj
      rw [hkk] at hown hz hl0
      have hz2 : z = (lastV l).1 := by rw [hz.out, HL.out.1]
      have HZ := Lib.hid hz2
      have hzb : 1 ≤ z ∧ z ≤ 1073741824 := by rw [hz2]; exact ⟨HL.out.2.1, HL.out.2.2.1⟩
      have DONE : Hid (∀ L : List Nat, tailNums ⟨k, t, r, l, p, hk, ht, hr', hp'⟩ = L → bytesO ⟨k, t, r, l, p, hk, ht, hr', hp'⟩ = nums ([k, n] ++ runNums 0 l ++ L)) := fun L hL => by
        rw [HBY.out, hL]; simp
      have hmayt := Stamp.may_iff.1 HK.out.1
      have OX := hown
      have XX := hbox
      have BX := hbel
      clear hkk hz hz2 HL HBY hown hbox hbel HLEN
      go_wp2_with fail
      refine (OWN.out _).mono ?_
      rintro e w4 ⟨rfl, b4⟩
      have X4 : Hid (w4.heap[H]? = some (.cells #[.int .u8 (k : Int), .int .u32 (t : Int), .int .u8 (r : Int), .slice ao n cap, .int .i64 p] 35)) := Kinds.below b4 _ _ _ _ (by decide) XX.out
      have B4 : Hid (Below B w w4) := BX.out.trans (b4.mono (Nat.le_trans HBL.out BX.out.size))
      have O4 := Lib.hid (own_stays OX.out b4)
      clear b4 OX XX BX c0 c1 c2 c3 c4
      obtain ⟨c0, c1, c2, c3, c4⟩ := cells5 X4.out
      have HLENf : Hid ((nums ([k, n] ++ runNums 0 l)).length ≤ 2000) := by unfold Hid; omega
      rcases HK.out.2.2 with ⟨k1, g1, g2, g3, g4⟩ | ⟨k2, g1, g2, g3⟩ | ⟨k3, g1, g2⟩
      · obtain rfl : bo = true := by rw [OB.out]; simp [k1]
        have q5 : ((k : Int) == 1) = true := by simp; omega
        obtain ⟨pn, rfl⟩ := Int.eq_ofNat_of_zero_le g3
        have pb : pn ≤ most := by unfold most; omega
        have TL : Hid (tailNums ⟨k, t, r, l, (pn : Int), hk, ht, hr', hp'⟩ = [pn]) := by
          unfold Hid tailNums; rw [if_pos k1]; simp
        clear k1 g1 g2 g3 g4
        go_wp2_with fail
        refine (refBytes_any pn pb _).mono ?_
        rintro e wAf ⟨uAf, rfl, hu, hb⟩
        obtain ⟨uof, ucf, rfl⟩ := own_shape hu
        have OAf := Lib.hid (own_stays O4.out hb)
        have XAf : Hid (wAf.heap[H]? = some (.cells #[.int .u8 (k : Int), .int .u32 (t : Int), .int .u8 (r : Int), .slice ao n cap, .int .i64 (pn : Int)] 35)) := Kinds.below hb _ _ _ _ (by decide) X4.out
        have SAf : Hid (Sees wAf (.slice uof (enc pn).length ucf) 1 (enc pn).length (bs (enc pn))) := Sees.own hu
        have BAf : Hid (Below B w wAf) := B4.out.trans (hb.mono (Nat.le_trans HBL.out B4.out.size))
        have ELf : (enc pn).length ≤ 6 := (encF_len 5 _).2
        have bzf : B ≤ wAf.heap.size := Nat.le_trans HBL.out BAf.out.size
        have alf : (nums ([k, n] ++ runNums 0 l)).length ≤ 2000 := HLENf.out
        clear hu hb c0 c1 c2 c3 c4
        go_wp2_with (at_builtin; refine wpList_append_sees rfl (.tmp 55) (.tmp 58) 22 5 rfl Try.underlying22 u8_info rfl (by decide) B _ _ _ rfl OAf.out _ (enc pn).length _ rfl SAf.out (bs_oneCell _) ?k1 ?k2 ?k3 ?_)
        case k1 => omega
        case k2 => omega
        case k3 => exact bzf
        rintro vf wf o5 g5 b5
        have Of : Hid (wf.ownsRow B 5 1 vf (nums ([k, n] ++ runNums 0 l ++ [pn])).length (bs (nums ([k, n] ++ runNums 0 l ++ [pn])))) := by
          have eqn : nums ([k, n] ++ runNums 0 l ++ [pn]) = nums ([k, n] ++ runNums 0 l) ++ enc pn := by rw [nums_append _ [pn], nums_one]
          unfold Hid; rw [eqn, bs_append]; simpa using o5
        have Xf : Hid (wf.heap[H]? = some (.cells #[.int .u8 (k : Int), .int .u32 (t : Int), .int .u8 (r : Int), .slice ao n cap, .int .i64 (pn : Int)] 35)) := Kinds.grown OAf.out g5 _ _ _ _ (by decide) XAf.out
        have Bf : Hid (Below B w wf) := BAf.out.trans b5
        obtain ⟨c0, c1, c2, c3, c4⟩ := cells5 Xf.out
        clear o5 g5 b5 OAf XAf SAf BAf ELf bzf alf O4 X4 B4
        go_wp2
        go_ret
        exact ⟨_, rfl, by rw [DONE.out _ TL.out]; exact Of.out, Bf.out⟩
      · obtain rfl : bo = true := by rw [OB.out]; simp [k2]
        have q5 : ((k : Int) == 1) = false := by simp; omega
        have TL : Hid (tailNums ⟨k, t, r, l, p, hk, ht, hr', hp'⟩ = []) := by
          unfold Hid tailNums; rw [if_neg (by simp; omega), if_pos (by simp; omega)]
        clear k2 g1 g2 g3
        go_wp2
        go_ret
        exact ⟨_, rfl, by rw [DONE.out _ TL.out, List.append_nil]; exact O4.out, B4.out⟩
      · obtain rfl : bo = false := by rw [OB.out]; simp; omega
        obtain ⟨d, hd⟩ := Int.eq_ofNat_of_zero_le (show 0 ≤ (t : Int) - z by rw [HZ.out]; omega)
        have e1 : IntKind.i64.wrap (d : Int) = (d : Int) := IntWalk.i64_in _ (by omega)
        have db : d ≤ most := by unfold most; omega
        have rb : r ≤ most := by unfold most; omega
        have TL : Hid (tailNums ⟨k, t, r, l, p, hk, ht, hr', hp'⟩ = [d, r]) := by
          unfold Hid tailNums; rw [if_neg (by simp; omega), if_neg (by simp; omega), ← HZ.out]
          simp only [List.cons.injEq, and_true]; omega
        have HLENg : Hid ((nums ([k, n] ++ runNums 0 l ++ [d])).length ≤ 2000) := by
          have := (encF_len 5 d).2; unfold Hid; rw [nums_append, nums_one, List.length_append]; unfold enc; omega
        clear g1 g2
        go_wp2_with fail
        refine (refBytes_any d db _).mono ?_
        rintro e wAf ⟨uAf, rfl, hu, hb⟩
        obtain ⟨uof, ucf, rfl⟩ := own_shape hu
        have OAf := Lib.hid (own_stays O4.out hb)
        have XAf : Hid (wAf.heap[H]? = some (.cells #[.int .u8 (k : Int), .int .u32 (t : Int), .int .u8 (r : Int), .slice ao n cap, .int .i64 p] 35)) := Kinds.below hb _ _ _ _ (by decide) X4.out
        have SAf : Hid (Sees wAf (.slice uof (enc d).length ucf) 1 (enc d).length (bs (enc d))) := Sees.own hu
        have BAf : Hid (Below B w wAf) := B4.out.trans (hb.mono (Nat.le_trans HBL.out B4.out.size))
        have ELf : (enc d).length ≤ 6 := (encF_len 5 _).2
        have bzf : B ≤ wAf.heap.size := Nat.le_trans HBL.out BAf.out.size
        have alf : (nums ([k, n] ++ runNums 0 l)).length ≤ 2000 := HLENf.out
        clear hu hb c0 c1 c2 c3 c4
        go_wp2_with (at_builtin; refine wpList_append_sees rfl (.tmp 61) (.tmp 68) 22 5 rfl Try.underlying22 u8_info rfl (by decide) B _ _ _ rfl OAf.out _ (enc d).length _ rfl SAf.out (bs_oneCell _) ?k1 ?k2 ?k3 ?_)
        case k1 => omega
        case k2 => omega
        case k3 => exact bzf
        rintro vf wf o5 g5 b5
        have Of : Hid (wf.ownsRow B 5 1 vf (nums ([k, n] ++ runNums 0 l ++ [d])).length (bs (nums ([k, n] ++ runNums 0 l ++ [d])))) := by
          have eqn : nums ([k, n] ++ runNums 0 l ++ [d]) = nums ([k, n] ++ runNums 0 l) ++ enc d := by rw [nums_append _ [d], nums_one]
          unfold Hid; rw [eqn, bs_append]; simpa using o5
        have Xf : Hid (wf.heap[H]? = some (.cells #[.int .u8 (k : Int), .int .u32 (t : Int), .int .u8 (r : Int), .slice ao n cap, .int .i64 p] 35)) := Kinds.grown OAf.out g5 _ _ _ _ (by decide) XAf.out
        have Bf : Hid (Below B w wf) := BAf.out.trans b5
        obtain ⟨c0, c1, c2, c3, c4⟩ := cells5 Xf.out
        clear o5 g5 b5 OAf XAf SAf BAf ELf bzf alf O4 X4 B4
        go_wp2_with fail
        refine (refBytes_any r rb _).mono ?_
        rintro e wAg ⟨uAg, rfl, hu, hb⟩
        obtain ⟨uog, ucg, rfl⟩ := own_shape hu
        have OAg := Lib.hid (own_stays Of.out hb)
        have XAg : Hid (wAg.heap[H]? = some (.cells #[.int .u8 (k : Int), .int .u32 (t : Int), .int .u8 (r : Int), .slice ao n cap, .int .i64 p] 35)) := Kinds.below hb _ _ _ _ (by decide) Xf.out
        have SAg : Hid (Sees wAg (.slice uog (enc r).length ucg) 1 (enc r).length (bs (enc r))) := Sees.own hu
        have BAg : Hid (Below B w wAg) := Bf.out.trans (hb.mono (Nat.le_trans HBL.out Bf.out.size))
        have ELg : (enc r).length ≤ 6 := (encF_len 5 _).2
        have bzg : B ≤ wAg.heap.size := Nat.le_trans HBL.out BAg.out.size
        have alg : (nums ([k, n] ++ runNums 0 l ++ [d])).length ≤ 2000 := HLENg.out
        clear hu hb c0 c1 c2 c3 c4
        go_wp2_with (at_builtin; refine wpList_append_sees rfl (.tmp 70) (.tmp 75) 22 5 rfl Try.underlying22 u8_info rfl (by decide) B _ _ _ rfl OAg.out _ (enc r).length _ rfl SAg.out (bs_oneCell _) ?k1 ?k2 ?k3 ?_)
        case k1 => omega
        case k2 => omega
        case k3 => exact bzg
        rintro vg wg o5 g5 b5
        have Og : Hid (wg.ownsRow B 5 1 vg (nums ([k, n] ++ runNums 0 l ++ [d, r])).length (bs (nums ([k, n] ++ runNums 0 l ++ [d, r])))) := by
          have eqn : nums ([k, n] ++ runNums 0 l ++ [d, r]) = nums ([k, n] ++ runNums 0 l ++ [d]) ++ enc r := by rw [← nums_one r, ← nums_append]; simp
          unfold Hid; rw [eqn, bs_append]; simpa using o5
        have Xg : Hid (wg.heap[H]? = some (.cells #[.int .u8 (k : Int), .int .u32 (t : Int), .int .u8 (r : Int), .slice ao n cap, .int .i64 p] 35)) := Kinds.grown OAg.out g5 _ _ _ _ (by decide) XAg.out
        have Bg : Hid (Below B w wg) := BAg.out.trans b5
        obtain ⟨c0, c1, c2, c3, c4⟩ := cells5 Xg.out
        clear o5 g5 b5 OAg XAg SAg BAg ELg bzg alg Of Xf Bf
        go_wp2
        go_ret
        exact ⟨_, rfl, by rw [DONE.out _ TL.out]; exact Og.out, Bg.out⟩

set_option maxHeartbeats 1000000 in
theorem refPutO_any {vp : Value} {o : Opn} {w : World} (hv : Runs w vp o.pl) :
    Calls Try.prog 14 #[opv o vp] w (Put2 (chkO o) (putB o) w) := by
  have HV := Lib.hid hv
  have M : Hid (∀ W : World, Below w.heap.size w W → Calls Try.prog 31 #[opv o vp] W fun e w' => e = .returned (.bool (mayO o)) ∧ Below W.heap.size W w') := fun W hW => refMayO_any (hv.keeps hW)
  cases hm : mayO o
  · rw [show chkO o = 8 by unfold chkO; rw [hm]; rfl, show putB o = [] by unfold putB; rw [hm]; rfl]
    rw [hm] at M
    obtain ⟨k, t, r, l, p, hk, ht, hr, hp⟩ := o
    unfold opv at M ⊢
    simp only at M ⊢
    have B0 : Hid (Below w.heap.size w (w.alloc (.cells #[.int .u8 (k : Int), .int .u32 (t : Int), .int .u8 (r : Int), vp, .int .i64 p] 35))) := (Below.refl _ _).alloc (Nat.le_refl _) _
    clear hv hm HV
    go_enter Try.func14, Try.ntmps14
    go_wp2_with fail
    refine (M.out _ B0.out).mono ?_
    rintro e w1 ⟨rfl, b1⟩
    have B1 := Lib.hid (bt B0.out b1)
    clear b1
    go_wp2
    go_ret2
    exact ⟨_, rfl, World.ownsRow_nil _ _ _ _, B1.out⟩
  · rw [show chkO o = 0 by unfold chkO; rw [if_pos hm], show putB o = bytesO o by unfold putB; rw [if_pos hm]]
    have C : Hid (∀ W : World, Below w.heap.size w W → Calls Try.prog 32 #[opv o vp] W (Gave (bytesO o) W)) := fun W hW => refBytesO_any (HV.out.keeps hW) hm
    rw [hm] at M
    obtain ⟨L, hL⟩ : ∃ L, L = bytesO o := ⟨_, rfl⟩
    rw [← hL] at C ⊢
    obtain ⟨k, t, r, l, p, hk, ht, hr, hp⟩ := o
    unfold opv at M C ⊢
    simp only at M C ⊢
    have B0 : Hid (Below w.heap.size w (w.alloc (.cells #[.int .u8 (k : Int), .int .u32 (t : Int), .int .u8 (r : Int), vp, .int .i64 p] 35))) := (Below.refl _ _).alloc (Nat.le_refl _) _
    clear hv hm HV hL
    go_enter Try.func14, Try.ntmps14
    go_wp2_with fail
    refine (M.out _ B0.out).mono ?_
    rintro e w1 ⟨rfl, b1⟩
    obtain ⟨c0, c1, c2, c3, c4⟩ := five_cells b1
    have B1 := Lib.hid (bt B0.out b1)
    clear b1
    go_wp2_with fail
    refine (C.out _ B1.out).mono ?_
    rintro e w2 ⟨v2, rfl, o2, b2⟩
    have O2 : Hid (w2.ownsRow w.heap.size 5 1 v2 L.length (bs L)) := op_base o2 B1.out.size
    have B2 := Lib.hid (bt B1.out b2)
    clear o2 b2 c0 c1 c2 c3 c4
    go_wp2
    go_ret2
    exact ⟨_, rfl, O2.out, B2.out⟩
end Go.Proofs.Ytelilmhnfmojkaa.Codes

/- Slices of elements of any kind, whose cells may hold slices themselves: what such a slice value holds. Conditions: none. -/
namespace Go.Proofs.Ytelilmhnfmojkaa
open Go.RowKit Go.WideShapes

/-- How elements of a kind lie in cells: how many cells, and what they hold in a world. -/
structure Enc (α : Type) where
  sz : Nat
  pos : 0 < sz
  inn : World → List Value → α → Prop
  len : ∀ {w : World} {cs : List Value} {a : α}, inn w cs a → cs.length = sz
  one : ∀ {w : World} {cs : List Value} {a : α}, inn w cs a → ∀ u ∈ cs, u.oneCell' = true
  keep : ∀ {w w' : World} {cs : List Value} {a : α}, Below w.heap.size w w' → inn w cs a → inn w' cs a

/-- Elements one behind the other. -/
def Enc.rows {α : Type} (E : Enc α) (w : World) : List Value → List α → Prop
  | cs, [] => cs = []
  | cs, a :: l => ∃ c d, cs = c ++ d ∧ E.inn w c a ∧ E.rows w d l
theorem Enc.rows_len {α : Type} {E : Enc α} {w : World} : ∀ {cs : List Value} {l : List α}, E.rows w cs l → cs.length = l.length * E.sz
  | cs, [], h => by rw [show cs = [] from h]; simp
  | cs, a :: l, ⟨c, d, h1, h2, h3⟩ => by
    rw [h1, List.length_append, E.len h2, Enc.rows_len h3, List.length_cons, Nat.succ_mul]
    omega
theorem Enc.rows_one {α : Type} {E : Enc α} {w : World} : ∀ {cs : List Value} {l : List α}, E.rows w cs l → ∀ u ∈ cs, u.oneCell' = true
  | cs, [], h, u, hu => by rw [show cs = [] from h] at hu; simp at hu
  | cs, a :: l, ⟨c, d, h1, h2, h3⟩, u, hu => by
    rw [h1, List.mem_append] at hu
    rcases hu with hu | hu
    · exact E.one h2 u hu
    · exact Enc.rows_one h3 u hu
theorem Enc.rows_keep {α : Type} {E : Enc α} {w w' : World} (hb : Below w.heap.size w w') : ∀ {cs : List Value} {l : List α}, E.rows w cs l → E.rows w' cs l
  | _, [], h => h
  | _, _ :: _, ⟨c, d, h1, h2, h3⟩ => ⟨c, d, h1, E.keep hb h2, Enc.rows_keep hb h3⟩
theorem Enc.rows_append {α : Type} {E : Enc α} {w : World} : ∀ {cs ds : List Value} {l m : List α}, E.rows w cs l → E.rows w ds m → E.rows w (cs ++ ds) (l ++ m)
  | cs, ds, [], m, h, k => by rw [show cs = [] from h]; exact k
  | cs, ds, a :: l, m, ⟨c, d, h1, h2, h3⟩, k => ⟨c, d ++ ds, by rw [h1, List.append_assoc], h2, Enc.rows_append h3 k⟩
theorem Enc.rows_snoc {α : Type} {E : Enc α} {w : World} {cs c : List Value} {l : List α} {a : α} (h : E.rows w cs l) (k : E.inn w c a) : E.rows w (cs ++ c) (l ++ [a]) :=
  Enc.rows_append h ⟨c, [], by simp, k, rfl⟩
/-- The cells of one of them. -/
theorem Enc.rows_at {α : Type} {E : Enc α} {w : World} : ∀ {cs : List Value} {l : List α} (k : Nat) (hk : k < l.length), E.rows w cs l → ∃ c, E.inn w c (l[k]'hk) ∧ ∀ j, j < E.sz → cs[k * E.sz + j]? = c[j]?
  | cs, a :: l, 0, _, ⟨c, d, h1, h2, h3⟩ => ⟨c, h2, fun j hj => by rw [h1, Nat.zero_mul, Nat.zero_add, List.getElem?_append_left (by rw [E.len h2]; exact hj)]⟩
  | cs, a :: l, k + 1, hk, ⟨c, d, h1, h2, h3⟩ => by
    obtain ⟨e, h4, h5⟩ := Enc.rows_at k (by simpa using hk) h3
    refine ⟨e, by simpa using h4, fun j hj => ?_⟩
    rw [h1, List.getElem?_append_right (by rw [E.len h2, Nat.succ_mul]; omega), E.len h2, show (k + 1) * E.sz + j - E.sz = k * E.sz + j by rw [Nat.succ_mul]; omega]
    exact h5 j hj
theorem Enc.rows_take {α : Type} {E : Enc α} {w : World} : ∀ {cs : List Value} {l : List α} (k : Nat), E.rows w cs l → E.rows w (cs.take (k * E.sz)) (l.take k)
  | cs, [], k, h => by rw [show cs = [] from h]; simp [Enc.rows]
  | cs, a :: l, 0, _ => by simp [Enc.rows]
  | cs, a :: l, k + 1, ⟨c, d, h1, h2, h3⟩ => by
    refine ⟨c, d.take (k * E.sz), ?_, h2, Enc.rows_take k h3⟩
    rw [h1, List.take_append, E.len h2, List.take_of_length_le (by rw [E.len h2, Nat.succ_mul]; omega), show (k + 1) * E.sz - E.sz = k * E.sz by rw [Nat.succ_mul]; omega]
theorem Enc.rows_drop {α : Type} {E : Enc α} {w : World} : ∀ {cs : List Value} {l : List α} (k : Nat), E.rows w cs l → E.rows w (cs.drop (k * E.sz)) (l.drop k)
  | cs, [], k, h => by rw [show cs = [] from h]; simp [Enc.rows]
  | cs, a :: l, 0, h => by simpa using h
  | cs, a :: l, k + 1, ⟨c, d, h1, h2, h3⟩ => by
    have := Enc.rows_drop k h3
    rw [h1, List.drop_append, E.len h2, List.drop_eq_nil_of_le (by rw [E.len h2, Nat.succ_mul]; omega), List.nil_append, show (k + 1) * E.sz - E.sz = k * E.sz by rw [Nat.succ_mul]; omega]
    exact this

/-- A slice of them. -/
def Seq {α : Type} (E : Enc α) (w : World) (v : Value) (l : List α) : Prop := ∃ cs, Sees w v E.sz l.length cs ∧ E.rows w cs l
theorem Seq.keeps {α : Type} {E : Enc α} {w w' : World} {v : Value} {l : List α} (h : Seq E w v l) (hb : Below w.heap.size w w') : Seq E w' v l := by
  obtain ⟨cs, h1, h2⟩ := h
  exact ⟨cs, h1.keeps hb, Enc.rows_keep hb h2⟩
theorem Seq.nil {α : Type} (E : Enc α) (w : World) : Seq E w (.slice none 0 0) [] := ⟨[], Sees.nil w E.sz, rfl⟩
theorem Seq.shape {α : Type} {E : Enc α} {w : World} {v : Value} {l : List α} (h : Seq E w v l) : ∃ ao cap, v = .slice ao l.length cap := by
  obtain ⟨cs, h1, _⟩ := h; exact h1.shape
theorem Seq.max {α : Type} {E : Enc α} {w : World} {v : Value} {l : List α} (h : Seq E w v l) : l.length ≤ 9223372036854775807 := by
  obtain ⟨cs, h1, _⟩ := h; exact Sees.max h1
theorem Seq.cap {α : Type} {E : Enc α} {w : World} {ao : Option Addr} {m cap : Nat} {l : List α} (h : Seq E w (.slice ao m cap) l) : m = l.length ∧ l.length ≤ cap ∧ cap ≤ 9223372036854775807 ∧ (ao = none → cap = 0) := by
  obtain ⟨cs, h1, _⟩ := h; exact h1.cap
/-- The cells of one of them, in memory. -/
theorem Seq.at {α : Type} {E : Enc α} {w : World} {ao : Option Addr} {m cap : Nat} {l : List α} (h : Seq E w (.slice ao m cap) l) (k : Nat) (hk : k < l.length) :
    ∃ b off c, ao = some ⟨b, off, none⟩ ∧ b < w.heap.size ∧ E.inn w c (l[k]'hk) ∧ ∀ j, j < E.sz → w.cell? ⟨b, off + k * E.sz + j, none⟩ = c[j]? := by
  obtain ⟨cs, h1, h2⟩ := h
  obtain ⟨c, h3, h4⟩ := Enc.rows_at k hk h2
  have hl := Enc.rows_len h2
  have hp := E.pos
  have hkl : k * E.sz + E.sz ≤ l.length * E.sz := by rw [← Nat.succ_mul]; exact Nat.mul_le_mul_right _ hk
  obtain ⟨b, off, e1, e2, e3⟩ := Sees.at h1 (k * E.sz) (by omega)
  refine ⟨b, off, c, e1, e2, h3, fun j hj => ?_⟩
  rw [show off + k * E.sz + j = off + (k * E.sz + j) by omega, e3 _ (by omega)]
  exact h4 j hj
theorem Seq.take {α : Type} {E : Enc α} {w : World} {ao : Option Addr} {n cap : Nat} {l : List α} (h : Seq E w (.slice ao n cap) l) {m : Nat} (hm : m ≤ l.length) : Seq E w (.slice ao m cap) (l.take m) := by
  obtain ⟨cs, ⟨h1, ao', cap', he, h2, h3, h4, h5⟩, h6⟩ := h
  obtain ⟨rfl, rfl, rfl⟩ := Value.slice.inj he
  have hl : (l.take m).length = m := by rw [List.length_take]; omega
  refine ⟨cs.take (m * E.sz), ⟨?_, ao, cap, by rw [hl], by omega, h3, h4, ?_⟩, Enc.rows_take m h6⟩
  · rw [List.length_take, h1, hl]
    exact Nat.min_eq_left (Nat.mul_le_mul_right _ hm)
  · rcases h5 with h5 | ⟨b, off, rfl, hb, hc⟩
    · left; rw [h5]; simp
    · right
      refine ⟨b, off, rfl, hb, fun j u hj => hc j u ?_⟩
      rw [List.getElem?_take] at hj
      split at hj
      · exact hj
      · cases hj
/-- A row of the call's own. -/
theorem Seq.own {α : Type} {E : Enc α} {w : World} {base : Nat} {e : TypeId} {v : Value} {n : Nat} {cs : List Value} {l : List α} (h : w.ownsRow base e E.sz v n cs) (hr : E.rows w cs l) : Seq E w v l := by
  have h1 := h.1
  rw [Enc.rows_len hr] at h1
  obtain rfl : l.length = n := Nat.eq_of_mul_eq_mul_right E.pos h1
  exact ⟨cs, Sees.own h, hr⟩
/-- A slice of elements as an element itself. -/
def Enc.slice {α : Type} (E : Enc α) : Enc (List α) where
  sz := 1
  pos := by decide
  inn w cs l := ∃ v, cs = [v] ∧ Seq E w v l
  len := by rintro w cs l ⟨v, rfl, _⟩; rfl
  one := by
    rintro w cs l ⟨v, rfl, h⟩ u hu
    obtain ⟨ao, cap, rfl⟩ := h.shape
    simp only [List.mem_singleton] at hu
    subst hu
    rfl
  keep := by rintro w w' cs l hb ⟨v, rfl, h⟩; exact ⟨v, rfl, h.keeps hb⟩
end Go.Proofs.Ytelilmhnfmojkaa

/- Operations as elements of slices. Conditions: none. -/
namespace Go.Proofs.Ytelilmhnfmojkaa.Ops
open Go.RowKit Go.WideShapes

def opE : Enc Opn where
  sz := 5
  pos := by decide
  inn w cs o := ∃ v, cs = [.int .u8 (o.k : Int), .int .u32 (o.t : Int), .int .u8 (o.r : Int), v, .int .i64 o.p] ∧ Runs w v o.pl
  len := by rintro w cs o ⟨v, rfl, _⟩; rfl
  one := by
    rintro w cs o ⟨v, rfl, h⟩ u hu
    obtain ⟨ao, cap, rfl⟩ := h.shape
    simp only [List.mem_cons, List.not_mem_nil, or_false] at hu
    rcases hu with rfl | rfl | rfl | rfl | rfl <;> rfl
  keep := by rintro w w' cs o hb ⟨v, rfl, h⟩; exact ⟨v, rfl, h.keeps hb⟩
/-- A slice of operations. -/
abbrev OpL (w : World) (v : Value) (l : List Opn) : Prop := Seq opE w v l
/-- One of them, in memory. -/
theorem opl_at {w : World} {ao : Option Addr} {m cap : Nat} {l : List Opn} (h : OpL w (.slice ao m cap) l) (k : Nat) (hk : k < l.length) :
    ∃ b off v, ao = some ⟨b, off, none⟩ ∧ b < w.heap.size ∧ Runs w v (l[k]'hk).pl ∧ w.cell? ⟨b, off + k * 5, none⟩ = some (.int .u8 ((l[k]'hk).k : Int)) ∧ w.cell? ⟨b, off + k * 5 + 1, none⟩ = some (.int .u32 ((l[k]'hk).t : Int)) ∧ w.cell? ⟨b, off + k * 5 + 2, none⟩ = some (.int .u8 ((l[k]'hk).r : Int)) ∧
      w.cell? ⟨b, off + k * 5 + 3, none⟩ = some v ∧ w.cell? ⟨b, off + k * 5 + 4, none⟩ = some (.int .i64 (l[k]'hk).p) := by
  obtain ⟨b, off, c, h1, h2, ⟨v, rfl, h3⟩, h4⟩ := h.at k hk
  exact ⟨b, off, v, h1, h2, h3, h4 0 (by decide), h4 1 (by decide), h4 2 (by decide), h4 3 (by decide), h4 4 (by decide)⟩
end Go.Proofs.Ytelilmhnfmojkaa.Ops

/- Lists of operations: what a slice value holds, places of the call's own; the bytes of a list. Conditions: none. -/
namespace Go.Proofs.Ytelilmhnfmojkaa.Codes
open Go.RowKit Go.WideShapes Num Go.Proofs.Ytelilmhnfmojkaa.Place Ops

theorem op_info : (Try.prog.info? 35).map (fun i => (i.zero, i.size, i.bytes)) = some (some (.agg #[.int .u8 0, .int .u32 0, .int .u8 0, .slice none 0 0, .int .i64 0]), 5, 48) := by kernel_rfl
/-- Operations in cells, each place of the call's own. -/
def HoldP (w : World) (base : Nat) : List Value → List Opn → Prop
  | cs, [] => cs = []
  | cs, o :: l => ∃ v d, cs = [.int .u8 (o.k : Int), .int .u32 (o.t : Int), .int .u8 (o.r : Int), v, .int .i64 o.p] ++ d ∧ w.ownsRow base 71 3 v o.pl.length (runs o.pl) ∧ HoldP w base d l
theorem HoldP.rows {w : World} {base : Nat} : ∀ {cs : List Value} {l : List Opn}, HoldP w base cs l → opE.rows w cs l
  | _, [], h => h
  | _, _ :: _, ⟨v, d, h1, h2, h3⟩ => ⟨_, d, h1, ⟨v, rfl, Runs.own h2⟩, HoldP.rows h3⟩
theorem HoldP.keeps {w w' : World} {base : Nat} (hb : Below w.heap.size w w') : ∀ {cs : List Value} {l : List Opn}, HoldP w base cs l → HoldP w' base cs l
  | _, [], h => h
  | _, _ :: _, ⟨v, d, h1, h2, h3⟩ => ⟨v, d, h1, own_stays h2 hb, HoldP.keeps hb h3⟩
theorem HoldP.append {w : World} {base : Nat} : ∀ {cs ds : List Value} {l m : List Opn}, HoldP w base cs l → HoldP w base ds m → HoldP w base (cs ++ ds) (l ++ m)
  | cs, _, [], _, h, h2 => by rw [show cs = [] from h]; exact h2
  | _, ds, _ :: _, _, ⟨v, d, h1, h3, h4⟩, h2 => ⟨v, d ++ ds, by rw [h1, List.append_assoc], h3, HoldP.append h4 h2⟩
theorem HoldP.base {w : World} {b b' : Nat} (hb : b' ≤ b) : ∀ {cs : List Value} {l : List Opn}, HoldP w b cs l → HoldP w b' cs l
  | _, [], h => h
  | _, _ :: _, ⟨v, d, h1, h2, h3⟩ => ⟨v, d, h1, op_base h2 hb, HoldP.base hb h3⟩
theorem HoldP.grown {w w' : World} {base sz n B : Nat} {v : Value} {rs : List Value} (hg : w.grownBy w' v.ownBlock) (hv : w.ownsRow B 35 sz v n rs) : ∀ {cs : List Value} {l : List Opn}, HoldP w base cs l → HoldP w' base cs l
  | _, [], h => h
  | _, _ :: _, ⟨u, d, h1, h2, h3⟩ => by
    refine ⟨u, d, h1, ?_, HoldP.grown hg hv h3⟩
    refine ⟨h2.1, h2.2.imp id fun ⟨g, cap, cur, e1, e2, e3, e4⟩ => ⟨g, cap, cur, e1, e2, ?_, e4⟩⟩
    exact blk_grown hg (own_ne hv e3 (by intro c h; injection h with h1 h2 h3; exact absurd h2 (by decide))) e3
/-- A list of the call's own, its places too. -/
def OwnL (w : World) (base : Nat) (v : Value) (l : List Opn) : Prop := ∃ cs, w.ownsRow base 35 5 v l.length cs ∧ HoldP w base cs l
theorem OwnL.opl {w : World} {base : Nat} {v : Value} {l : List Opn} (h : OwnL w base v l) : OpL w v l := by
  obtain ⟨cs, h1, h2⟩ := h
  exact ⟨cs, Sees.own h1, h2.rows⟩
theorem OwnL.keeps {w w' : World} {base : Nat} {v : Value} {l : List Opn} (h : OwnL w base v l) (hb : Below w.heap.size w w') : OwnL w' base v l := by
  obtain ⟨cs, h1, h2⟩ := h
  exact ⟨cs, own_stays h1 hb, h2.keeps hb⟩
theorem OwnL.nil (w : World) (base : Nat) : OwnL w base (.slice none 0 0) [] := ⟨[], World.ownsRow_nil _ _ _ _, rfl⟩
theorem OwnL.base {w : World} {b b' : Nat} {v : Value} {l : List Opn} (h : OwnL w b v l) (hb : b' ≤ b) : OwnL w b' v l := by
  obtain ⟨cs, h1, h2⟩ := h
  exact ⟨cs, op_base h1 hb, h2.base hb⟩
/-- One more behind a list: what is appended, and to where. -/
theorem OwnL.snoc {W W8 w5 : World} {base m : Nat} {v v5 u : Value} {cs : List Value} {l : List Opn} {o : Opn} (h1 : W.ownsRow base 35 5 v l.length cs) (h2 : HoldP W base cs l) (hb : Below W.heap.size W W8)
    (hu : W8.ownsRow base 71 3 u o.pl.length (runs o.pl)) (g5 : W8.grownBy w5 v.ownBlock) (o5 : w5.ownsRow base 35 5 v5 m (cs ++ [.int .u8 (o.k : Int), .int .u32 (o.t : Int), .int .u8 (o.r : Int), u, .int .i64 o.p])) (hm : m = l.length + 1) : OwnL w5 base v5 (l ++ [o]) := by
  have hx := own_stays h1 hb
  refine ⟨_, by rw [List.length_append, List.length_singleton, ← hm]; exact o5, ?_⟩
  refine HoldP.append (HoldP.grown g5 hx (h2.keeps hb)) ?_
  exact HoldP.grown g5 hx ⟨u, [], rfl, hu, rfl⟩
theorem five_one (o : Opn) (u : Value) (hu : ∃ ao n cap, u = .slice ao n cap) : ∀ x ∈ [Value.int .u8 (o.k : Int), .int .u32 (o.t : Int), .int .u8 (o.r : Int), u, .int .i64 o.p], x.oneCell' = true := by
  obtain ⟨ao, n, cap, rfl⟩ := hu
  intro x hx
  simp only [List.mem_cons, List.not_mem_nil, or_false] at hx
  rcases hx with rfl | rfl | rfl | rfl | rfl <;> rfl

theorem bytesO_len {o : Opn} (h : mayO o = true) : (bytesO o).length ≤ 1200 := by
  have h1 := nums_len (opNums o)
  have hM := (mayB_iff o.pl).1 (kind_cases h).2.1
  have h2 : (tailNums o).length ≤ 2 := by unfold tailNums; split; simp; split <;> simp
  unfold bytesO
  have h3 : (opNums o).length ≤ 196 := by
    unfold opNums
    simp only [List.length_cons, List.length_append, runNums_len]
    have := hM.2.1
    omega
  omega
theorem bytesL_len : ∀ {l : List Opn}, (∀ o ∈ l, mayO o = true) → (bytesL l).length ≤ 1200 * l.length
  | [], _ => by simp [bytesL]
  | o :: l, h => by
    have h1 := bytesO_len (h o (by simp))
    have h2 := bytesL_len (l := l) (fun x hx => h x (by simp [hx]))
    simp only [bytesL, List.length_append, List.length_cons]
    omega
theorem bytesL_take (l : List Opn) (k : Nat) (h : k < l.length) : bytesL (l.take (k + 1)) = bytesL (l.take k) ++ bytesO (l[k]'h) := by
  rw [List.take_succ_eq_append_getElem h, bytesL_append]; simp [bytesL]
/-- May all of a list's be? -/
def allM (l : List Opn) : Bool := l.all mayO
theorem allM_iff (l : List Opn) : allM l = true ↔ ∀ o ∈ l, mayO o = true := by simp [allM]
theorem allM_no {l : List Opn} {k : Nat} (h : k < l.length) (hn : mayO (l[k]'h) = false) : allM l = false := by
  cases hh : allM l
  · rfl
  · rw [(allM_iff l).1 hh _ (List.getElem_mem h)] at hn; cases hn
/-- What All answers. -/
def allC (l : List Opn) : Int := if 1024 < l.length then 4 else if allM l = true then 0 else 8
def allB (l : List Opn) : List UInt8 := if 1024 < l.length then [] else if allM l = true then listB l else []
theorem listB_nums (l : List Opn) : listB l = nums [l.length] ++ bytesL l := by unfold listB; rw [nums_one]
end Go.Proofs.Ytelilmhnfmojkaa.Codes

/- octavo/code.All, octavoref10.List, All: what each answers. Conditions: the slice's cells are operations. -/
namespace Go.Proofs.Ytelilmhnfmojkaa.Codes
open Go.RowKit Go.WideShapes Num Go.Proofs.Ytelilmhnfmojkaa.Place Ops
attribute [local go_sem ↓] Go.wp_at_zero Go.wp_at_succ

set_option maxRecDepth 100000 in
set_option maxHeartbeats 8000000 in
theorem cAll_any {v : Value} {l : List Opn} {w : World} (hv : OpL w v l) :
    Calls Try.prog 8 #[v] w (Put2 (allC l) (allB l) w) := by
  obtain ⟨ao, cap, rfl⟩ := hv.shape
  obtain ⟨n, hn⟩ : ∃ n, n = l.length := ⟨_, rfl⟩
  have hmx : n ≤ 9223372036854775807 := by rw [hn]; exact hv.max
  have HV : Hid (∀ W : World, Below w.heap.size w W → OpL W (.slice ao l.length cap) l) := fun W h => hv.keeps h
  have HN := Lib.hid hn
  obtain ⟨C, hC⟩ : ∃ c, allC l = c := ⟨_, rfl⟩
  obtain ⟨R, hR⟩ : ∃ c, allB l = c := ⟨_, rfl⟩
  have HC := Lib.hid hC
  have HR := Lib.hid hR
  rw [hC, hR, ← hn]
  by_cases hbig : 1024 < n
  · have q1 : decide ((1024 : Int) < (n : Int)) = true := decide_eq_true (by omega)
    have q2 : decide (1024 < n) = true := decide_eq_true hbig
    obtain rfl : C = 4 := by rw [← hC]; unfold allC; rw [if_pos (by omega)]
    obtain rfl : R = [] := by rw [← hR]; unfold allB; rw [if_pos (by omega)]
    clear hn hC hR hv
    go_enter Try.func8, Try.ntmps8
    go_wp2
    go_ret2
    exact ⟨_, rfl, World.ownsRow_nil _ _ _ _, Below.refl _ _⟩
  have q1 : decide ((1024 : Int) < (n : Int)) = false := decide_eq_false (by omega)
  have q2 : decide (1024 < n) = false := decide_eq_false hbig
  have hn1024 : n ≤ 1024 := by omega
  have NO : Hid (allM l = false → C = 8 ∧ R = []) := fun h => by
    have hnot : ¬ 1024 < l.length := by omega
    rw [← hC, ← hR]; unfold allC allB; simp [hnot, h]
  have YES : Hid (allM l = true → C = 0 ∧ R = listB l) := fun h => by
    have hnot : ¬ 1024 < l.length := by omega
    rw [← hC, ← hR]; unfold allC allB; simp [hnot, h]
  have NK := Lib.hid (numsK_new w [n] 1 rfl (by simp))
  have BA : Hid (Below w.heap.size w (w.alloc (.cells (nv [n]).toArray 3))) := (Below.refl _ _).alloc (Nat.le_refl _) _
  clear hn hC hR hv HC HR
  go_enter Try.func8, Try.ntmps8
  go_wp2_with fail
  refine (numbers_any (base := w.heap.size) (pre := []) (World.ownsRow_nil _ _ _ _) BA.out.size NK.out (by intro z hz; simp at hz; omega) (by simp) (by simp)).mono ?_
  rintro e w1 ⟨v1, rfl, o1, b1, k1⟩
  have O1 : Hid (w1.ownsRow w.heap.size 5 1 v1 (nums [n] ++ bytesL (l.take 0)).length (bs (nums [n] ++ bytesL (l.take 0)))) := by
    have e : nums [n] ++ bytesL (l.take 0) = [] ++ nums [n] := by simp [bytesL]
    rw [e]; exact o1
  have B1 := Lib.hid (BA.out.trans b1)
  clear o1 b1 k1 NK BA
  go_wp2
  go_loopw [4, 18] (fun b i wr => ∃ j : Nat, j ≤ n ∧ i = .int .i64 (j : Int) ∧ Hid (∀ k (h : k < l.length), k < j → mayO (l[k]'h) = true) ∧ Hid (wr.ownsRow w.heap.size 5 1 b (nums [n] ++ bytesL (l.take j)).length (bs (nums [n] ++ bytesL (l.take j)))) ∧ Hid (Below w.heap.size w wr)) (fun _ i _ => n - (intOf i).toNat)
  case atStart => exact ⟨0, by omega, rfl, fun k h hk => by omega, O1, B1⟩
  case round =>
    clear O1 B1
    obtain ⟨j, hj, rfl, hmay, hown, hbel⟩ := hrel
    by_cases hjn : j < n
    · have q3 : decide (j < n) = true := by simpa using hjn
      have q4 : (0 : Int) ≤ (j : Int) := by omega
      have q5 : (j : Int) < (n : Int) := by omega
      have hjl : j < l.length := by rw [← HN.out]; exact hjn
      obtain ⟨bb, oo, u, rfl, hbb, hru, h0, h1, h2, h3, h4⟩ := opl_at (HV.out wr hbel.out) j hjl
      have hst := bytesL_take l j hjl
      have hnxt : ∀ (m : Bool), mayO (l[j]'hjl) = m → (m = false → allM l = false) := fun m hm hmf => allM_no hjl (by rw [hm, hmf])
      obtain ⟨x, hx⟩ : ∃ x, x = l[j]'hjl := ⟨_, rfl⟩
      rw [← hx] at hru h0 h1 h2 h4 hst hnxt
      obtain ⟨uo, uc, rfl⟩ := hru.shape
      obtain ⟨nu, hnu⟩ : ∃ n, n = x.pl.length := ⟨_, rfl⟩
      rw [← hnu] at hru h3
      have HST := Lib.hid hst
      have HNX := Lib.hid hnxt
      have HXJ := Lib.hid hx
      have HRU : Hid (∀ W : World, Below wr.heap.size wr W → Runs W (.slice uo nu uc) x.pl) := fun W h => hru.keeps h
      have HRW : Hid (∀ W : World, Below w.heap.size w W → Runs W (.slice uo nu uc) x.pl) := fun W h => by
        obtain ⟨bb', oo', u', e1, _, hru', _, _, _, h3', _⟩ := opl_at (HV.out w (Below.refl _ _)) j hjl
        cases e1
        have hlt : bb < w.heap.size := World.block_lt_of_cell? w ⟨bb, oo + j * 5 + 3, none⟩ h3'
        have e2 := (hbel.out.cell (p := ⟨bb, oo + j * 5 + 3, none⟩) hlt).trans h3'
        rw [h3] at e2
        cases e2
        rw [← hx] at hru'
        exact hru'.keeps h
      have HO : Hid (∀ v : Value, opv x v = .agg #[.int .u8 (x.k : Int), .int .u32 (x.t : Int), .int .u8 (x.r : Int), v, .int .i64 x.p]) := fun v => rfl
      have BN : Hid (∀ (W : World) (v : Value), mayO x = false → Runs W (.slice uo nu uc) x.pl → Calls Try.prog 25 #[v, opv x (.slice uo nu uc)] W fun e w' => e = .returned (.tuple #[.slice none 0 0, .int .i64 8]) ∧ Below W.heap.size W w') := fun W v hm hr => behind_no hr hm
      have BYS : Hid (∀ (W : World) (v : Value) (pre : List UInt8), mayO x = true → W.ownsRow w.heap.size 5 1 v pre.length (bs pre) → w.heap.size ≤ W.heap.size → pre.length ≤ 1000000000 → (∀ W' : World, Below w.heap.size W W' → Runs W' (.slice uo nu uc) x.pl) → Calls Try.prog 25 #[v, opv x (.slice uo nu uc)] W (Put1 w.heap.size (pre ++ bytesO x) W)) := fun W v pre hm ho hb hp hr => behind_yes ho hb hp hr hm
      obtain ⟨k, hk⟩ : ∃ k, x.k = k := ⟨_, rfl⟩
      obtain ⟨t, ht⟩ : ∃ k, x.t = k := ⟨_, rfl⟩
      obtain ⟨r, hr⟩ : ∃ k, x.r = k := ⟨_, rfl⟩
      obtain ⟨p, hp⟩ : ∃ k, x.p = k := ⟨_, rfl⟩
      rw [hk, ht, hr, hp] at HO
      rw [hk] at h0
      rw [ht] at h1
      rw [hr] at h2
      rw [hp] at h4
      simp only [HO.out] at BN BYS
      have hlen : (nums [n] ++ bytesL (l.take j)).length ≤ 1000000000 := by
        have e1 := nums_len [n]
        have e2 := bytesL_len (l := l.take j) (fun o ho => by
          obtain ⟨i, hi, rfl⟩ := List.getElem_of_mem ho
          rw [List.length_take] at hi
          rw [List.getElem_take]
          exact hmay.out i (by omega) (by omega))
        rw [List.length_take] at e2
        rw [List.length_append]
        simp only [List.length_cons, List.length_nil] at e1
        omega
      have BB : Hid (Below w.heap.size w (wr.alloc (.cells #[.int .u8 (k : Int), .int .u32 (t : Int), .int .u8 (r : Int), .slice uo nu uc, .int .i64 p] 35))) := hbel.out.alloc hbel.out.size _
      have OB : Hid ((wr.alloc (.cells #[.int .u8 (k : Int), .int .u32 (t : Int), .int .u8 (r : Int), .slice uo nu uc, .int .i64 p] 35)).ownsRow w.heap.size 5 1 u4 (nums [n] ++ bytesL (l.take j)).length (bs (nums [n] ++ bytesL (l.take j)))) := own_stays hown.out ((Below.refl _ _).alloc (Nat.le_refl _) _)
      obtain ⟨my, hmy⟩ : ∃ b, mayO x = b := ⟨_, rfl⟩
      rw [hmy] at BN BYS
      have HMY := Lib.hid hmy
      clear hru hst hnxt hx hk ht hr hp hown hmy hnu
      cases my
      · have hno := NO.out (HNX.out false HMY.out rfl)
        obtain ⟨rfl, rfl⟩ := hno
        have RU : Hid (Runs (wr.alloc (.cells #[.int .u8 (k : Int), .int .u32 (t : Int), .int .u8 (r : Int), .slice uo nu uc, .int .i64 p] 35)) (.slice uo nu uc) x.pl) := HRU.out _ ((Below.refl _ _).alloc (Nat.le_refl _) _)
        go_wp2_with fail
        refine (BN.out _ _ (by trivial) RU.out).mono ?_
        rintro e w5 ⟨rfl, b5⟩
        have B5 := Lib.hid (bt BB.out b5)
        clear b5
        go_wp2
        go_ret2
        exact ⟨_, rfl, World.ownsRow_nil _ _ _ _, B5.out⟩
      · go_wp2_with fail
        refine (BYS.out _ _ _ (by trivial) OB.out BB.out.size hlen (fun W' h' => HRW.out W' (BB.out.trans h'))).mono ?_
        rintro e w5 ⟨v5, rfl, o5, b5⟩
        have O5 : Hid (w5.ownsRow w.heap.size 5 1 v5 (nums [n] ++ bytesL (l.take (j + 1))).length (bs (nums [n] ++ bytesL (l.take (j + 1))))) := by
          rw [HST.out, ← List.append_assoc]; exact o5
        have B5 := Lib.hid (BB.out.trans b5)
        have MJ : Hid (∀ k (h : k < l.length), k < j + 1 → mayO (l[k]'h) = true) := fun i h hi => by
          by_cases e : i = j
          · subst e; rw [← HXJ.out]; exact HMY.out
          · exact hmay.out i h (by omega)
        clear o5 b5 hmay HNX
        go_wp2
        go_roundw
        case rel => exact ⟨j + 1, by omega, by go_num, MJ, O5, B5⟩
        case measure => simp [intOf]; omega
    · have q3 : decide (j < n) = false := by simpa using hjn
      have hkk : l.take j = l := List.take_of_length_le (by have := HN.out; omega)
      have hall : allM l = true := (allM_iff l).2 (fun o ho => by
        obtain ⟨i, hi, rfl⟩ := List.getElem_of_mem ho
        exact hmay.out i hi (by have := HN.out; omega))
      rw [hkk] at hown
      obtain ⟨rfl, hRl⟩ := YES.out hall
      have HRL : Hid (R = nums [n] ++ bytesL l) := by rw [hRl, listB_nums, ← HN.out]; rfl
      clear hkk hall hmay hRl
      go_wp2
      go_ret2
      exact ⟨_, rfl, by rw [HRL.out]; exact hown.out, hbel.out⟩
end Go.Proofs.Ytelilmhnfmojkaa.Codes
