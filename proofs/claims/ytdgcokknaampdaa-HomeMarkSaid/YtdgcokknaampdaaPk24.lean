/- Homes: what a mark more, a mark less homes elsewhere. Conditions: none. -/
import Derived.Test.YtdgcokknaampdaaPk10
import Derived.Test.YtdgcokknaampdaaPk12
import Derived.Test.YtdgcokknaampdaaPk09
import Derived.Test.YtdgcokknaampdaaPk15
import Derived.Test.YtdgcokknaampdaaPk17
import Derived.Test.YtdgcokknaampdaaPk19
import Derived.Test.YtdgcokknaampdaaPk16

namespace Go.Proofs.Ytdgcokknaampdaa.Homes
open Ops Stamp Bags Marks Go.Proofs.Ytdgcokknaampdaa.Place

def homeF (p : List Run) (s : Id) (live : List Opn) : Id := live.foldl (fun s o => if notBehind o p = true then idO o else s) s
theorem homeF_append (p : List Run) (s : Id) (a b : List Opn) : homeF p s (a ++ b) = homeF p (homeF p s a) b := by unfold homeF; rw [List.foldl_append]
theorem homeF_cons (p : List Run) (s : Id) (o : Opn) (b : List Opn) : homeF p s (o :: b) = homeF p (if notBehind o p = true then idO o else s) b := rfl
theorem homeF_none {p : List Run} : ∀ {b : List Opn} (s : Id), (∀ o ∈ b, notBehind o p = false) → homeF p s b = s
  | [], _, _ => rfl
  | o :: b, s, h => by
    rw [homeF_cons, h o (by simp), if_neg (by decide)]
    exact homeF_none s (fun x hx => h x (by simp [hx]))
theorem homeF_some {p : List Run} : ∀ {b : List Opn}, (∃ o ∈ b, notBehind o p = true) → ∃ o ∈ b, notBehind o p = true ∧ ∀ s, homeF p s b = idO o
  | [], h => by obtain ⟨o, ho, _⟩ := h; simp at ho
  | x :: b, h => by
    by_cases hb : ∃ o ∈ b, notBehind o p = true
    · obtain ⟨o, h1, h2, h3⟩ := homeF_some hb
      exact ⟨o, by simp [h1], h2, fun s => by rw [homeF_cons]; exact h3 _⟩
    · have hn : ∀ o ∈ b, notBehind o p = false := fun o ho => by
        cases hq : notBehind o p
        · rfl
        · exact absurd ⟨o, ho, hq⟩ hb
      obtain ⟨o, h1, h2⟩ := h
      rcases List.mem_cons.1 h1 with rfl | h1
      · exact ⟨o, by simp, h2, fun s => by rw [homeF_cons, h2, if_pos rfl]; exact homeF_none _ hn⟩
      · rw [hn o h1] at h2; cases h2
/-- The last one's stamp. -/
def lastI (a : List Opn) : Id := (zid :: a.map idO).getD a.length zid
theorem homeF_all {p : List Run} {a : List Opn} (h : ∀ o ∈ a, notBehind o p = true) : homeF p zid a = lastI a := by
  induction a using Clocks.list_snoc_ind with
  | h0 => rfl
  | h1 a x ih =>
    rw [homeF_append, homeF_cons, h x (by simp), if_pos rfl]
    show idO x = _
    unfold lastI
    rw [List.length_append, List.length_singleton, List.map_append, List.getD_cons_succ, List.getD_eq_getElem?_getD, List.getElem?_append_right (by simp)]
    simp
theorem homeF_mem {p : List Run} : ∀ (a : List Opn) (s : Id), homeF p s a = s ∨ ∃ o ∈ a, homeF p s a = idO o
  | [], s => .inl rfl
  | x :: a, s => by
    rw [homeF_cons]
    rcases homeF_mem a (if notBehind x p = true then idO x else s) with h | ⟨o, h1, h2⟩
    · rw [h]
      split
      · exact .inr ⟨x, by simp, rfl⟩
      · exact .inl rfl
    · exact .inr ⟨o, by simp [h1], h2⟩
theorem homeM_F (live : List Opn) (p : List Run) : homeM live p = homeF p zid live := rfl

/-- A mark more: it homes what stands from it on in the section in which it stands, and nothing else. -/
theorem home_ins {A B : List Opn} {o : Opn} {p : List Run} (hm : ∀ x ∈ A ++ o :: B, mayO x = true) (hs : (A ++ o :: B).Pairwise pre) (hi : (A ++ o :: B).Pairwise (fun a b => idO a ≠ idO b)) :
    homeM (A ++ o :: B) p = if homeM (A ++ B) p = homeM (A ++ B) o.pl ∧ notBehind o p = true then idO o else homeM (A ++ B) p := by
  have hs' := List.pairwise_append.1 hs
  have hi' := List.pairwise_append.1 hi
  have mo := hm o (by simp)
  have hA : ∀ x ∈ A, pre x o := fun x hx => hs'.2.2 x hx o (by simp)
  have hB : ∀ x ∈ B, pre o x := fun x hx => (List.pairwise_cons.1 hs'.2.1).1 x hx
  have nA : ∀ x ∈ A, notBehind x o.pl = true := fun x hx => by
    rw [nb_iff0]; have := (pre_iff (hm x (by simp [hx])) mo).1 (hA x hx); omega
  have nB : ∀ x ∈ B, notBehind x o.pl = false := fun x hx => by
    have h1 := (pre_iff mo (hm x (by simp [hx]))).1 (hB x hx)
    have h2 := hold_neg (all o.pl) (all x.pl)
    cases hq : notBehind x o.pl
    · rfl
    · rw [nb_iff0] at hq; omega
  have own : homeM (A ++ B) o.pl = lastI A := by
    rw [homeM_F, homeF_append, homeF_all nA, homeF_none _ nB]
  rw [own]
  simp only [homeM_F, homeF_append, homeF_cons]
  by_cases ho : notBehind o p = true
  · have aA : ∀ x ∈ A, notBehind x p = true := fun x hx => nb_mono (hm x (by simp [hx])) mo (hA x hx) ho
    rw [homeF_all aA, if_pos ho]
    by_cases hb : ∃ x ∈ B, notBehind x p = true
    · obtain ⟨x, h1, _, h3⟩ := homeF_some hb
      rw [h3, h3, if_neg]
      rintro ⟨e, _⟩
      have : lastI A = zid ∨ ∃ y ∈ A, lastI A = idO y := by rw [← homeF_all aA]; exact homeF_mem A zid
      rcases this with h | ⟨y, hy, h⟩
      · exact id_ne_zid (hm x (by simp [h1])) (e.trans h)
      · exact hi'.2.2 y hy x (by simp [h1]) (h.symm.trans e.symm)
    · have hn : ∀ x ∈ B, notBehind x p = false := fun x hx => by
        cases hq : notBehind x p
        · rfl
        · exact absurd ⟨x, hx, hq⟩ hb
      rw [homeF_none _ hn, homeF_none _ hn, if_pos ⟨rfl, ho⟩]
  · rw [if_neg ho, if_neg (fun h => ho h.2)]
/-- A mark less: what stood in its section is homed in the one ahead. -/
theorem home_del {A B : List Opn} {g : Opn} {p : List Run} (hm : ∀ x ∈ A ++ g :: B, mayO x = true) (hs : (A ++ g :: B).Pairwise pre) (hi : (A ++ g :: B).Pairwise (fun a b => idO a ≠ idO b)) :
    homeM (A ++ B) p = if homeM (A ++ g :: B) p = idO g then lastI A else homeM (A ++ g :: B) p := by
  have hs' := List.pairwise_append.1 hs
  have hi' := List.pairwise_append.1 hi
  have mg := hm g (by simp)
  have hA : ∀ x ∈ A, pre x g := fun x hx => hs'.2.2 x hx g (by simp)
  simp only [homeM_F, homeF_append, homeF_cons]
  by_cases hb : ∃ x ∈ B, notBehind x p = true
  · obtain ⟨x, h1, _, h3⟩ := homeF_some hb
    rw [h3, h3, if_neg]
    exact fun e => (List.pairwise_cons.1 hi'.2.1).1 x h1 e.symm
  · have hn : ∀ x ∈ B, notBehind x p = false := fun x hx => by
      cases hq : notBehind x p
      · rfl
      · exact absurd ⟨x, hx, hq⟩ hb
    rw [homeF_none _ hn, homeF_none _ hn]
    by_cases hg : notBehind g p = true
    · rw [if_pos hg, if_pos rfl]
      exact homeF_all (fun x hx => nb_mono (hm x (by simp [hx])) mg (hA x hx) hg)
    · rw [if_neg hg, if_neg]
      intro e
      rcases homeF_mem (p := p) A zid with h | ⟨y, hy, h⟩
      · exact id_ne_zid mg (e.symm.trans h)
      · exact hi'.2.2 y hy g (by simp) (h.symm.trans e)
end Go.Proofs.Ytdgcokknaampdaa.Homes

/- Homes: what one operation more homes elsewhere. Conditions: none. -/
namespace Go.Proofs.Ytdgcokknaampdaa.Homes
open Ops Stamp Bags Marks Go.Proofs.Ytdgcokknaampdaa.Place

/-- What the law expects of a place's home behind one operation more. -/
def wantM (l : List Opn) (o : Opn) (p : List Run) : Id :=
  if hasO l (idO o) = false ∧ o.k = 4 ∧ homeM (livesM l l) p = tgt o then aheadL l (homeM (livesM l l) p)
  else if (hasO l (idO o) = false ∧ o.k = 2 ∧ ended l (idO o) = false) ∧ homeM (livesM l l) p = homeM (livesM l l) o.pl ∧ cmp o.pl p ≤ 0 then idO o
  else homeM (livesM l l) p
theorem lives_ins {l : List Opn} {o : Opn} (hl : Bag l) (ho : mayO o = true) (hw : Bag (withO l o)) (hno : hasO l (idO o) = false) (hk : o.k = 2) (he : ended l (idO o) = false) :
    livesM (withO l o) (withO l o) = insM (livesM l l) o := by
  have al := lives_may (L := l) hl.2.1
  have sl := lives_sorted (L := l) hl.2.1 hl.2.2
  have hid := hasO_no.1 hno
  have hx : ∀ a, ended (withO l o) a = ended l a := fun a => by rw [ended_withO hno]; simp [hk]
  refine lives_ext hw (fun x hx => ?_) (ins_sorted ho hk sl (fun y hy => ⟨al y hy, (mem_livesM.1 hy).2.1⟩) (fun y hy => hid y (mem_livesM.1 hy).1)) (fun y => ?_)
  · rcases mem_insM.1 hx with hx | rfl
    · exact al x hx
    · exact ho
  · rw [mem_insM, mem_livesM, hx, mem_withO]
    constructor
    · rintro (⟨h1, h2⟩ | rfl)
      · exact ⟨.inl h1, h2⟩
      · exact ⟨.inr ⟨rfl, hno⟩, hk, he⟩
    · rintro ⟨h1 | ⟨rfl, _⟩, h2⟩
      · exact .inl ⟨h1, h2⟩
      · exact .inr rfl
theorem lives_stay {l : List Opn} {o : Opn} (hl : Bag l) (hw : Bag (withO l o)) (hno : hasO l (idO o) = false) (h4 : o.k ≠ 4) (h2 : ¬ (o.k = 2 ∧ ended l (idO o) = false)) :
    livesM (withO l o) (withO l o) = livesM l l := by
  have hx : ∀ a, ended (withO l o) a = ended l a := fun a => by rw [ended_withO hno]; simp [h4]
  refine lives_ext hw (lives_may (L := l) hl.2.1) (lives_sorted (L := l) hl.2.1 hl.2.2) (fun y => ?_)
  rw [mem_livesM, hx, mem_withO]
  constructor
  · rintro ⟨h1, h3⟩; exact ⟨.inl h1, h3⟩
  · rintro ⟨h1 | ⟨rfl, _⟩, h3⟩
    · exact ⟨h1, h3⟩
    · exact absurd h3 h2
theorem lives_less {l : List Opn} {o : Opn} (hl : Bag l) (hw : Bag (withO l o)) (hno : hasO l (idO o) = false) (h4 : o.k = 4) :
    livesM (withO l o) (withO l o) = (livesM l l).filter (fun y => !decide (tgt o = idO y)) := by
  refine lives_ext hw (fun x hx => lives_may (L := l) hl.2.1 x (List.mem_filter.1 hx).1) ((lives_sorted (L := l) hl.2.1 hl.2.2).filter _) (fun y => ?_)
  rw [List.mem_filter, mem_livesM, mem_withO, ended_withO hno]
  constructor
  · rintro ⟨⟨h1, h2, h3⟩, h5⟩
    refine ⟨.inl h1, h2, ?_⟩
    rw [h3, Bool.false_or]
    simpa [h4] using h5
  · rintro ⟨h1 | ⟨rfl, _⟩, h2, h3⟩
    · rw [Bool.or_eq_false_iff] at h3
      refine ⟨⟨h1, h2, h3.1⟩, ?_⟩
      have := h3.2
      simpa [h4] using this
    · omega
theorem homeM_sect (live : List Opn) (p : List Run) : homeM live p = zid ∨ ∃ o ∈ live, homeM live p = idO o := homeF_mem live zid
theorem filter_none {l : List Opn} {g : Id} (h : ∀ y ∈ l, g ≠ idO y) : l.filter (fun y => !decide (g = idO y)) = l := List.filter_eq_self.2 (fun y hy => by simp [h y hy])
theorem ahead_is {l : List Opn} (hb : Bag l) {A B : List Opn} {g : Opn} (e : livesM l l = A ++ g :: B) : aheadL l (idO g) = lastI A ∧ aheadE l (idO g) = 0 := by
  have hL := liv_bag hb
  rw [e] at hL
  have hlen : A.length + 1 < (A ++ g :: B).length + 1 := by simp
  have hg : (sectsM (A ++ g :: B)).getD (A.length + 1) zid = idO g := by
    unfold sectsM
    rw [List.getD_cons_succ, List.map_append, List.getD_eq_getElem?_getD, List.getElem?_append_right (by simp)]
    simp
  have hw := where_at hL hlen
  rw [hg] at hw
  have hwm : whereM (A ++ g :: B) (idO g) = ((A.length + 1 : Nat) : Int) := by unfold whereM; rw [hw, if_pos hlen]
  unfold aheadL aheadE
  rw [e, hwm, hw, (bagB_iff l).2 hb]
  rw [if_pos ⟨rfl, by omega⟩, if_pos rfl, if_pos (by omega)]
  refine ⟨?_, rfl⟩
  unfold lastI sectsM
  rw [Nat.add_sub_cancel, List.map_append, List.getD_eq_getElem?_getD, List.getD_eq_getElem?_getD, ← List.cons_append, List.getElem?_append_left (by simp)]
/-- What one operation more homes elsewhere is what the law expects. -/
theorem home_more {l : List Opn} {o : Opn} {p : List Run} (hl : Bag l) (ho : mayO o = true) (hw : Bag (withO l o)) (hp : anyB p = true) :
    homeM (livesM (withO l o) (withO l o)) p = wantM l o p ∧ (hasO l (idO o) = false ∧ o.k = 4 ∧ homeM (livesM l l) p = tgt o → aheadE l (homeM (livesM l l) p) = 0) := by
  unfold wantM
  by_cases hh : hasO l (idO o) = true
  · rw [withO_yes hh, if_neg (by simp [hh]), if_neg (by simp [hh])]
    exact ⟨rfl, fun h => by rw [hh] at h; cases h.1⟩
  have hno : hasO l (idO o) = false := by simpa using hh
  have hL := liv_bag hl
  by_cases h4 : o.k = 4
  · rw [lives_less hl hw hno h4]
    have htz : tgt o ≠ zid := fun e => by
      have h1 := (tgt_cells ho).1
      have h2 := last_bounds (mayO_parts ho).2.1
      rw [e] at h1
      have h3 : ((zid).t : Int) = 0 := rfl
      omega
    by_cases hg : ∃ g ∈ livesM l l, tgt o = idO g
    · obtain ⟨g, hgm, hge⟩ := hg
      obtain ⟨A, B, e⟩ := List.append_of_mem hgm
      have hLe := hL
      rw [e] at hLe
      have hi' := List.pairwise_append.1 hLe.one
      have hf : (livesM l l).filter (fun y => !decide (tgt o = idO y)) = A ++ B := by
        rw [e, hge, List.filter_append, List.filter_cons_of_neg (by simp), filter_none (fun y hy => Ne.symm (hi'.2.2 y hy g (by simp))), filter_none (fun y hy => (List.pairwise_cons.1 hi'.2.1).1 y hy)]
      rw [hf, home_del (g := g) (fun x hx => (hLe.may x hx).1) hLe.srt hLe.one, ← e]
      have ha := ahead_is hl e
      by_cases hq : homeM (livesM l l) p = idO g
      · rw [if_pos hq, if_pos ⟨hno, h4, by rw [hq, hge]⟩, hq]
        exact ⟨ha.1.symm, fun _ => ha.2⟩
      · rw [if_neg hq, if_neg (fun h => hq (by rw [h.2.2, hge])), if_neg (fun h => by have := h.1.2.1; omega)]
        exact ⟨rfl, fun h => absurd (by rw [h.2.2, hge]) hq⟩
    · have hf : (livesM l l).filter (fun y => !decide (tgt o = idO y)) = livesM l l := filter_none (fun y hy e => hg ⟨y, hy, e⟩)
      have hn : homeM (livesM l l) p ≠ tgt o := fun e => by
        rcases homeM_sect (livesM l l) p with h | ⟨y, hy, h⟩
        · exact htz (e.symm.trans h)
        · exact hg ⟨y, hy, e.symm.trans h⟩
      rw [hf, if_neg (fun h => hn h.2.2), if_neg (fun h => by have := h.1.2.1; omega)]
      exact ⟨rfl, fun h => absurd h.2.2 hn⟩
  · rw [if_neg (fun h => h4 h.2.1)]
    refine ⟨?_, fun h => absurd h.2.1 h4⟩
    by_cases h2 : o.k = 2 ∧ ended l (idO o) = false
    · have hw2 := liv_bag hw
      rw [lives_ins hl ho hw hno h2.1 h2.2] at hw2 ⊢
      have ei : insM (livesM l l) o = (livesM l l).take (atM (livesM l l) o) ++ o :: (livesM l l).drop (atM (livesM l l) o) := by unfold insM; simp
      rw [ei] at hw2 ⊢
      rw [home_ins (fun x hx => (hw2.may x hx).1) hw2.srt hw2.one, List.take_append_drop]
      have hc : cmp o.pl p ≤ 0 ↔ notBehind o p = true := by
        unfold cmp
        rw [if_pos ⟨anyB_may (mayO_parts ho).2.1, hp⟩, nb_iff0]
      by_cases hq : homeM (livesM l l) p = homeM (livesM l l) o.pl ∧ notBehind o p = true
      · rw [if_pos hq, if_pos ⟨⟨hno, h2⟩, hq.1, hc.2 hq.2⟩]
      · rw [if_neg hq, if_neg (fun h => hq ⟨h.2.1, hc.1 h.2.2⟩)]
    · rw [lives_stay hl hw hno h4 h2, if_neg (fun h => h2 h.1.2)]
end Go.Proofs.Ytdgcokknaampdaa.Homes

/- What calls of marks answer: how long it can be. Conditions: none. -/
namespace Go.Proofs.Ytdgcokknaampdaa.Marks
open Go.RowKit Go.WideShapes Stamp Go.Proofs.Ytdgcokknaampdaa.Place Ops Codes Bags

end Go.Proofs.Ytdgcokknaampdaa.Marks

/- octavo/marks.Joined: what it answers. Conditions: the slice's cells are operations. -/
namespace Go.Proofs.Ytdgcokknaampdaa.Marks
open Go.RowKit Go.WideShapes Stamp Go.Proofs.Ytdgcokknaampdaa.Place Ops Codes Bags
attribute [local go_sem ↓] Go.wp_at_zero Go.wp_at_succ

theorem ZU (w : World) : (zeroValue 86).run Try.prog w = .ok (.agg #[]) w := by kernel_rfl
set_option maxRecDepth 100000 in
set_option maxHeartbeats 4000000 in
theorem mJoined_any {v : Value} {l : List Opn} (a : Id) {w : World} (hv : OpL w v l) :
    Calls Try.prog 26 #[v, .agg #[.int .u32 (a.t : Int), .int .u8 (a.r : Int)]] w fun e w' => e = .returned (.bool (joinedM l a)) ∧ Below w.heap.size w w' := by
  have B0 : Hid (Below w.heap.size w (w.alloc (.cells #[.int .u32 (a.t : Int), .int .u8 (a.r : Int)] 24))) := (Below.refl _ _).alloc (Nat.le_refl _) _
  have CK := Lib.hid (bCheck_any (hv.keeps B0.out))
  have P0 : Hid (Pair (w.alloc (.cells #[.int .u32 (a.t : Int), .int .u8 (a.r : Int)] 24)) w.heap.size (.int .u32 (a.t : Int)) (.int .u8 (a.r : Int))) := pair_new _ _ _ _
  by_cases hbag : Bag l
  rotate_left
  · have e1 : chkL l = 8 := chkL_no hbag
    have e2 : joinedM l a = false := by unfold joinedM; rw [bagB_no hbag]; rfl
    rw [e1] at CK
    rw [e2]
    clear hv e1 e2
    go_enter Try.func26, Try.ntmps26
    go_wp2_with fail
    refine CK.out.mono ?_
    rintro e w1 ⟨rfl, b1⟩
    have B1 := Lib.hid (bt B0.out b1)
    clear b1
    go_wp2
    go_ret
    exact ⟨rfl, B1.out⟩
  have e1 : chkL l = 0 := chkL_yes hbag
  have e2 : joinedM l a = ended l a := by unfold joinedM; rw [(bagB_iff l).2 hbag]; rfl
  rw [e1] at CK
  rw [e2]
  have JW : Hid (∀ W : World, Below w.heap.size w W → Calls Try.prog 56 #[v] W fun e w' => ∃ b n, e = .returned (.map (some b)) ∧ SetI w' b n (ended l) ∧ Below W.heap.size W w') := fun W h => by
    refine (joinedIn_any (hv.keeps h) hbag.2.1 hbag.1).mono ?_
    rintro e w' ⟨rfl, h1, h2⟩
    exact ⟨_, _, rfl, h1, h2⟩
  obtain ⟨ta, ra, hta, hra⟩ := a
  simp only at CK P0 B0 ⊢
  clear hv e1 e2 hbag
  go_enter Try.func26, Try.ntmps26
  go_wp2_with fail
  refine CK.out.mono ?_
  rintro e wl ⟨rfl, b1⟩
  have BW := Lib.hid (bt B0.out b1)
  have P1 := Lib.hid (P0.out.keeps b1)
  have JI : Hid (∀ W : World, Below wl.heap.size wl W → Calls Try.prog 56 #[v] W fun e w' => ∃ b n, e = .returned (.map (some b)) ∧ SetI w' b n (ended l) ∧ Below W.heap.size W w') := fun W h => JW.out W (bt BW.out h)
  have SK : Hid (∀ w' : World, Below wl.heap.size wl w' → Below wl.heap.size wl w' ∧ w'.cell? ⟨w.heap.size, 0, none⟩ = some (.int .u32 (ta : Int)) ∧ w'.cell? ⟨w.heap.size, 1, none⟩ = some (.int .u8 (ra : Int))) := fun W h => ⟨h, (P1.out.keeps h).2⟩
  clear b1 CK P0 B0 JW
  go_wp2
  refine wp_region_held_drew (S := fun w' => Below wl.heap.size wl w' ∧ w'.cell? ⟨w.heap.size, 0, none⟩ = some (.int .u32 (ta : Int)) ∧ w'.cell? ⟨w.heap.size, 1, none⟩ = some (.int .u8 (ra : Int))) (by kernel_rfl) (SK.out _ (drew1 _)) (fun hHeld => ?_)
  refine wpAnyH_take (i := 0) (v := ?v1) rfl (by kernel_rfl) (by kernel_rfl) (by kernel_rfl) (fun _ _ _ h => h) (Or.inl ⟨by rfl, ?y1⟩) (by assumption) ?_
  case y1 => intro w hSw; (try dsimp only at hSw); go_simp <;> with_reducible rfl
  try simp only [List.getElem_toArray, List.getElem_cons_zero, Act.put, List.setIfInBounds_toArray, List.set_cons_zero, List.set_cons_succ]
  refine wpAnyH_take (i := 2) (v := ?v2) rfl (by kernel_rfl) (by kernel_rfl) (by kernel_rfl) (fun _ _ _ h => h) (Or.inl ⟨by rfl, ?y2⟩) (by assumption) ?_
  case y2 => intro w hSw; (try dsimp only at hSw); go_simp <;> with_reducible rfl
  try simp only [List.getElem_toArray, List.getElem_cons_succ, List.getElem_cons_zero, Act.put, List.setIfInBounds_toArray, List.set_cons_zero, List.set_cons_succ]
  refine wpAnyH_ready (rs := [1, 7]) (by kernel_rfl) (by simp) ?_
  refine AllReadyH.cons rfl (fun K hK => ?_) ?z7
  case z7 =>
    refine AllReadyH.cons rfl (fun K hK => ?_) AllReadyH.nil
    go_simp
    have BX := Lib.hid ((Below.refl (wl.drew).heap.size (wl.drew)).alloc (Nat.le_refl _) (.cells #[] 86))
    refine hK.out _ _ (SK.out _ (bt hHeld.1 BX.out)) (fun hNew => ?_)
    clear hHeld
    have hHeld := hNew
    clear hNew hK K
    clear BX
    try simp only [List.getElem_toArray, List.getElem_cons_succ, List.getElem_cons_zero, Act.put, List.setIfInBounds_toArray, List.set_cons_zero, List.set_cons_succ]
    refine wpAnyH_ready (rs := [1]) (by kernel_rfl) (by simp) ?_
    refine AllReadyH.cons rfl (fun K hK => ?_) AllReadyH.nil
    go_simp
    refine (JI.out _ hHeld.1).mono ?_
    rintro e w9 ⟨b, n9, rfl, s9, b9⟩
    have S9 := Lib.hid s9
    refine hK.out _ _ (SK.out _ (bt hHeld.1 b9)) (fun hNew => ?_)
    clear hHeld
    have hHeld := hNew
    clear hNew hK K
    clear s9 b9
    try simp only [List.getElem_toArray, List.getElem_cons_succ, List.getElem_cons_zero, Act.put, List.setIfInBounds_toArray, List.set_cons_zero, List.set_cons_succ]
    refine wpAnyH_ready (rs := [3]) (by kernel_rfl) (by simp) ?_
    refine AllReadyH.cons rfl (fun K hK => ?_) AllReadyH.nil
    refine step_look_set rfl (.tmp 12) (.tmp 13) 88 86 rfl Try.underlying88 (ZU _) b n9 ⟨ta, ra, hta, hra⟩ (ended l) S9.out rfl rfl ?_
    refine hK.out _ _ hHeld (fun hNew => ?_)
    clear hHeld
    have hHeld := hNew
    clear hNew hK K
    try simp only [List.getElem_toArray, List.getElem_cons_succ, List.getElem_cons_zero, Act.put, List.setIfInBounds_toArray, List.set_cons_zero, List.set_cons_succ]
    refine wpAnyH_take (i := 4) (v := ?v3) rfl (by kernel_rfl) (by kernel_rfl) (by kernel_rfl) (fun _ _ _ h => h) (Or.inl ⟨by rfl, ?y3⟩) (by assumption) ?_
    case y3 => intro w hSw; (try dsimp only at hSw); go_simp <;> with_reducible rfl
    try simp only [List.getElem_toArray, List.getElem_cons_succ, List.getElem_cons_zero, Act.put, List.setIfInBounds_toArray, List.set_cons_zero, List.set_cons_succ]
    refine wpAnyH_take (i := 5) (v := ?v4) rfl (by kernel_rfl) (by kernel_rfl) (by kernel_rfl) (fun _ _ _ h => h) (Or.inl ⟨by rfl, ?y4⟩) (by assumption) ?_
    case y4 => intro w hSw; (try dsimp only at hSw); go_simp <;> with_reducible rfl
    try simp only [List.getElem_toArray, List.getElem_cons_succ, List.getElem_cons_zero, Act.put, List.setIfInBounds_toArray, List.set_cons_zero, List.set_cons_succ]
    refine wpAnyH_take (i := 6) (v := ?v5) rfl (by kernel_rfl) (by kernel_rfl) (by kernel_rfl) (fun _ _ _ h => h) (Or.inl ⟨by rfl, ?y5⟩) (by assumption) ?_
    case y5 => intro w hSw; (try dsimp only at hSw); go_simp <;> with_reducible rfl
    try simp only [List.getElem_toArray, List.getElem_cons_succ, List.getElem_cons_zero, Act.put, List.setIfInBounds_toArray, List.set_cons_zero, List.set_cons_succ]
    refine wpAnyH_ready (rs := [8]) (by kernel_rfl) (by simp) ?_
    refine AllReadyH.cons rfl (fun K hK => ?_) AllReadyH.nil
    go_simp
    refine hK.out _ _ hHeld (fun hNew => ?_)
    clear hHeld
    have hHeld := hNew
    clear hNew hK K
    try simp only [List.getElem_toArray, List.getElem_cons_succ, List.getElem_cons_zero, Act.put, List.setIfInBounds_toArray, List.set_cons_zero, List.set_cons_succ]
    refine wpAnyH_take (i := 9) (v := ?v6) rfl (by kernel_rfl) (by kernel_rfl) (by kernel_rfl) (fun _ _ _ h => h) (Or.inl ⟨by rfl, ?y6⟩) (by assumption) ?_
    case y6 => intro w hSw; (try dsimp only at hSw); go_simp <;> with_reducible rfl
    try simp only [List.getElem_toArray, List.getElem_cons_succ, List.getElem_cons_zero, Act.put, List.setIfInBounds_toArray, List.set_cons_zero, List.set_cons_succ]
    refine wpAnyH_done (by kernel_rfl) ?_ _
    go_wp2
    go_ret
    exact ⟨rfl, bt BW.out hHeld.1⟩
  go_simp
  refine (JI.out _ hHeld.1).mono ?_
  rintro e w9 ⟨b, n9, rfl, s9, b9⟩
  have S9 := Lib.hid s9
  refine hK.out _ _ (SK.out _ (bt hHeld.1 b9)) (fun hNew => ?_)
  clear hHeld
  have hHeld := hNew
  clear hNew hK K
  clear s9 b9
  try simp only [List.getElem_toArray, List.getElem_cons_succ, List.getElem_cons_zero, Act.put, List.setIfInBounds_toArray, List.set_cons_zero, List.set_cons_succ]
  refine wpAnyH_ready (rs := [3, 7]) (by kernel_rfl) (by simp) ?_
  refine AllReadyH.cons rfl (fun K hK => ?_) ?z8
  case z8 =>
    refine AllReadyH.cons rfl (fun K hK => ?_) AllReadyH.nil
    go_simp
    have BX := Lib.hid ((Below.refl (w9).heap.size (w9)).alloc (Nat.le_refl _) (.cells #[] 86))
    refine hK.out _ _ (SK.out _ (bt hHeld.1 BX.out)) (fun hNew => ?_)
    clear hHeld
    have hHeld := hNew
    clear hNew hK K
    replace S9 := Lib.hid (S9.out.keeps BX.out)
    clear BX
    try simp only [List.getElem_toArray, List.getElem_cons_succ, List.getElem_cons_zero, Act.put, List.setIfInBounds_toArray, List.set_cons_zero, List.set_cons_succ]
    refine wpAnyH_ready (rs := [3]) (by kernel_rfl) (by simp) ?_
    refine AllReadyH.cons rfl (fun K hK => ?_) AllReadyH.nil
    refine step_look_set rfl (.tmp 12) (.tmp 13) 88 86 rfl Try.underlying88 (ZU _) b n9 ⟨ta, ra, hta, hra⟩ (ended l) S9.out rfl rfl ?_
    refine hK.out _ _ hHeld (fun hNew => ?_)
    clear hHeld
    have hHeld := hNew
    clear hNew hK K
    try simp only [List.getElem_toArray, List.getElem_cons_succ, List.getElem_cons_zero, Act.put, List.setIfInBounds_toArray, List.set_cons_zero, List.set_cons_succ]
    refine wpAnyH_take (i := 4) (v := ?v7) rfl (by kernel_rfl) (by kernel_rfl) (by kernel_rfl) (fun _ _ _ h => h) (Or.inl ⟨by rfl, ?y7⟩) (by assumption) ?_
    case y7 => intro w hSw; (try dsimp only at hSw); go_simp <;> with_reducible rfl
    try simp only [List.getElem_toArray, List.getElem_cons_succ, List.getElem_cons_zero, Act.put, List.setIfInBounds_toArray, List.set_cons_zero, List.set_cons_succ]
    refine wpAnyH_take (i := 5) (v := ?v8) rfl (by kernel_rfl) (by kernel_rfl) (by kernel_rfl) (fun _ _ _ h => h) (Or.inl ⟨by rfl, ?y8⟩) (by assumption) ?_
    case y8 => intro w hSw; (try dsimp only at hSw); go_simp <;> with_reducible rfl
    try simp only [List.getElem_toArray, List.getElem_cons_succ, List.getElem_cons_zero, Act.put, List.setIfInBounds_toArray, List.set_cons_zero, List.set_cons_succ]
    refine wpAnyH_take (i := 6) (v := ?v9) rfl (by kernel_rfl) (by kernel_rfl) (by kernel_rfl) (fun _ _ _ h => h) (Or.inl ⟨by rfl, ?y9⟩) (by assumption) ?_
    case y9 => intro w hSw; (try dsimp only at hSw); go_simp <;> with_reducible rfl
    try simp only [List.getElem_toArray, List.getElem_cons_succ, List.getElem_cons_zero, Act.put, List.setIfInBounds_toArray, List.set_cons_zero, List.set_cons_succ]
    refine wpAnyH_ready (rs := [8]) (by kernel_rfl) (by simp) ?_
    refine AllReadyH.cons rfl (fun K hK => ?_) AllReadyH.nil
    go_simp
    refine hK.out _ _ hHeld (fun hNew => ?_)
    clear hHeld
    have hHeld := hNew
    clear hNew hK K
    try simp only [List.getElem_toArray, List.getElem_cons_succ, List.getElem_cons_zero, Act.put, List.setIfInBounds_toArray, List.set_cons_zero, List.set_cons_succ]
    refine wpAnyH_take (i := 9) (v := ?v10) rfl (by kernel_rfl) (by kernel_rfl) (by kernel_rfl) (fun _ _ _ h => h) (Or.inl ⟨by rfl, ?y10⟩) (by assumption) ?_
    case y10 => intro w hSw; (try dsimp only at hSw); go_simp <;> with_reducible rfl
    try simp only [List.getElem_toArray, List.getElem_cons_succ, List.getElem_cons_zero, Act.put, List.setIfInBounds_toArray, List.set_cons_zero, List.set_cons_succ]
    refine wpAnyH_done (by kernel_rfl) ?_ _
    go_wp2
    go_ret
    exact ⟨rfl, bt BW.out hHeld.1⟩
  refine step_look_set rfl (.tmp 12) (.tmp 13) 88 86 rfl Try.underlying88 (ZU _) b n9 ⟨ta, ra, hta, hra⟩ (ended l) S9.out rfl rfl ?_
  refine hK.out _ _ hHeld (fun hNew => ?_)
  clear hHeld
  have hHeld := hNew
  clear hNew hK K
  try simp only [List.getElem_toArray, List.getElem_cons_succ, List.getElem_cons_zero, Act.put, List.setIfInBounds_toArray, List.set_cons_zero, List.set_cons_succ]
  refine wpAnyH_take (i := 4) (v := ?v11) rfl (by kernel_rfl) (by kernel_rfl) (by kernel_rfl) (fun _ _ _ h => h) (Or.inl ⟨by rfl, ?y11⟩) (by assumption) ?_
  case y11 => intro w hSw; (try dsimp only at hSw); go_simp <;> with_reducible rfl
  try simp only [List.getElem_toArray, List.getElem_cons_succ, List.getElem_cons_zero, Act.put, List.setIfInBounds_toArray, List.set_cons_zero, List.set_cons_succ]
  refine wpAnyH_take (i := 5) (v := ?v12) rfl (by kernel_rfl) (by kernel_rfl) (by kernel_rfl) (fun _ _ _ h => h) (Or.inl ⟨by rfl, ?y12⟩) (by assumption) ?_
  case y12 => intro w hSw; (try dsimp only at hSw); go_simp <;> with_reducible rfl
  try simp only [List.getElem_toArray, List.getElem_cons_succ, List.getElem_cons_zero, Act.put, List.setIfInBounds_toArray, List.set_cons_zero, List.set_cons_succ]
  refine wpAnyH_take (i := 6) (v := ?v13) rfl (by kernel_rfl) (by kernel_rfl) (by kernel_rfl) (fun _ _ _ h => h) (Or.inl ⟨by rfl, ?y13⟩) (by assumption) ?_
  case y13 => intro w hSw; (try dsimp only at hSw); go_simp <;> with_reducible rfl
  try simp only [List.getElem_toArray, List.getElem_cons_succ, List.getElem_cons_zero, Act.put, List.setIfInBounds_toArray, List.set_cons_zero, List.set_cons_succ]
  refine wpAnyH_ready (rs := [7]) (by kernel_rfl) (by simp) ?_
  refine AllReadyH.cons rfl (fun K hK => ?_) AllReadyH.nil
  go_simp
  have BX := Lib.hid ((Below.refl (w9).heap.size (w9)).alloc (Nat.le_refl _) (.cells #[] 86))
  refine hK.out _ _ (SK.out _ (bt hHeld.1 BX.out)) (fun hNew => ?_)
  clear hHeld
  have hHeld := hNew
  clear hNew hK K
  clear BX
  try simp only [List.getElem_toArray, List.getElem_cons_succ, List.getElem_cons_zero, Act.put, List.setIfInBounds_toArray, List.set_cons_zero, List.set_cons_succ]
  refine wpAnyH_ready (rs := [8]) (by kernel_rfl) (by simp) ?_
  refine AllReadyH.cons rfl (fun K hK => ?_) AllReadyH.nil
  go_simp
  refine hK.out _ _ hHeld (fun hNew => ?_)
  clear hHeld
  have hHeld := hNew
  clear hNew hK K
  try simp only [List.getElem_toArray, List.getElem_cons_succ, List.getElem_cons_zero, Act.put, List.setIfInBounds_toArray, List.set_cons_zero, List.set_cons_succ]
  refine wpAnyH_take (i := 9) (v := ?v14) rfl (by kernel_rfl) (by kernel_rfl) (by kernel_rfl) (fun _ _ _ h => h) (Or.inl ⟨by rfl, ?y14⟩) (by assumption) ?_
  case y14 => intro w hSw; (try dsimp only at hSw); go_simp <;> with_reducible rfl
  try simp only [List.getElem_toArray, List.getElem_cons_succ, List.getElem_cons_zero, Act.put, List.setIfInBounds_toArray, List.set_cons_zero, List.set_cons_succ]
  refine wpAnyH_done (by kernel_rfl) ?_ _
  go_wp2
  go_ret
  exact ⟨rfl, bt BW.out hHeld.1⟩
end Go.Proofs.Ytdgcokknaampdaa.Marks

/- octavo/marks.Ids: what it answers. Conditions: the slice's cells are operations. -/
namespace Go.Proofs.Ytdgcokknaampdaa.Marks
open Go.RowKit Go.WideShapes Stamp Go.Proofs.Ytdgcokknaampdaa.Place Ops Codes Bags
attribute [local go_sem ↓] Go.wp_at_zero Go.wp_at_succ

end Go.Proofs.Ytdgcokknaampdaa.Marks

/- octavo/marks: what each answers. Conditions: the slices' cells are operations. -/

