/- octavo/clock.Of: the times that each replica has, kept in a map: the state, and what is told of a replica. Conditions: the rows are the call's own. -/
import Derived.Test.YtinglfhndlklaaaClockShort
import Derived.Test.YtinglfhndlklaaaClockCode4
import Derived.Test.YtinglfhndlklaaaBlk
namespace Go.Proofs.Ytinglfhndlklaaa.Clocks
open Go.RowKit Go.Proofs.Ytinglfhndlklaaa.Spans Go.Proofs.Ytinglfhndlklaaa.Srt
attribute [local go_sem ↓] Go.wp_at_zero Go.wp_at_succ

theorem zero_us (w : World) : (zeroValue 61).run Try.prog w = .ok (.slice none 0 0) w := by kernel_rfl
theorem u32_info : (Try.prog.info? 30).map (fun i => (i.zero, i.size, i.bytes)) = some (some (.int .u32 0), 1, 4) := by kernel_rfl
/-- The times that a replica has among stamps. -/
def trs (l : List Id) (r : Nat) : List Nat := (l.filter fun a => decide (a.r = r)).map (·.t)
theorem trs_snoc (l : List Id) (a : Id) (r : Nat) : trs (l ++ [a]) r = if a.r = r then trs l r ++ [a.t] else trs l r := by
  unfold trs
  rw [List.filter_append, List.map_append]
  by_cases h : a.r = r
  · simp [h]
  · simp [h]
theorem trs_len (l : List Id) (r : Nat) : (trs l r).length ≤ l.length := by
  unfold trs
  rw [List.length_map]
  exact List.length_filter_le _ _
theorem mem_trs {l : List Id} {r t : Nat} : t ∈ trs l r ↔ ∃ a ∈ l, a.r = r ∧ a.t = t := by
  unfold trs
  simp only [List.mem_map, List.mem_filter, decide_eq_true_eq]
  constructor
  · rintro ⟨a, ⟨h1, h2⟩, h3⟩; exact ⟨a, h1, h2, h3⟩
  · rintro ⟨a, h1, h2, h3⟩; exact ⟨a, ⟨h1, h2⟩, h3⟩
theorem trs_may {l : List Id} (h : ∀ a ∈ l, mayI a) (r : Nat) : ∀ t ∈ trs l r, 1 ≤ t ∧ t ≤ 1073741824 := fun t ht => by
  obtain ⟨a, ha, _, rfl⟩ := mem_trs.1 ht
  exact ⟨(h a ha).1, (h a ha).2.1⟩

def rowOf (M : Nat → Option Value) (r : Nat) : Value := (M r).getD (.slice none 0 0)
/-- A row for each replica that is asked for, each in a block of its own ahead of H; its map in block N, the map's place in block N + 1. -/
def Rws (N H : Nat) (M : Nat → Option Value) (f : Nat → List Nat) (from' : Nat) (wr : World) : Prop :=
  (∀ r, from' ≤ r → r < 256 → wr.ownsRow (N + 2) 30 1 (rowOf M r) (f r).length (us (f r))) ∧
  (∀ r q, r < 256 → q < 256 → r ≠ q → ∀ g, (rowOf M r).ownBlock = some g → (rowOf M q).ownBlock ≠ some g) ∧ (∀ r, r < 256 → ∀ g, (rowOf M r).ownBlock = some g → N + 2 ≤ g ∧ g < H)
def Box (N : Nat) (wr : World) : Prop := wr.heap[N + 1]? = some (.cells #[.map (some N)] 66)
theorem Rws.nil (N H : Nat) (l : List Id) (wr : World) : Rws N H (fun _ => none) (trs (l.take 0)) 0 wr :=
  ⟨fun r _ _ => World.ownsRow_nil _ _ _ _, fun r q _ _ _ g hg => by simp [rowOf, Value.ownBlock] at hg, fun r _ g hg => by simp [rowOf, Value.ownBlock] at hg⟩
theorem Rws.keeps {N H k : Nat} {M : Nat → Option Value} {f : Nat → List Nat} {w w' : World} (h : Rws N H M f k w) (hb : ∀ j, N + 2 ≤ j → j < H → w'.heap[j]? = w.heap[j]?) : Rws N H M f k w' := by
  refine ⟨fun r h1 h2 => ?_, h.2.1, h.2.2⟩
  have ho := h.1 r h1 h2
  refine ⟨ho.1, ?_⟩
  rcases ho.2 with h0 | ⟨g, cap, cur, h3, h4, hg, h5⟩
  · exact .inl h0
  · exact .inr ⟨g, cap, cur, h3, h4, (hb g h4 (h.2.2 r h2 g (by rw [h3]; rfl)).2).trans hg, h5⟩
theorem Rws.wider {N H H' k : Nat} {M : Nat → Option Value} {f : Nat → List Nat} {w : World} (h : Rws N H M f k w) (hH : H ≤ H') : Rws N H' M f k w :=
  ⟨h.1, h.2.1, fun r hr g hg => ⟨(h.2.2 r hr g hg).1, Nat.lt_of_lt_of_le (h.2.2 r hr g hg).2 hH⟩⟩
/-- A stamp more. -/
theorem Rws.put {N H : Nat} {M : Nat → Option Value} {l : List Id} {k : Nat} {w4 w5 : World} (h : Rws N H M (trs (l.take k)) 0 w4) {x : Id} (hs : l.take (k + 1) = l.take k ++ [x]) (hx : x.r < 256) {v5 : Value}
    (o5 : w5.ownsRow (N + 2) 30 1 v5 ((trs (l.take k) x.r).length + 1) (us (trs (l.take k) x.r) ++ [.int .u32 (x.t : Int)])) (g5 : w4.grownBy w5 (rowOf M x.r).ownBlock) (hH : H ≤ w4.heap.size)
    (l5 : v5.ownBlock = (rowOf M x.r).ownBlock ∨ v5.ownBlock = some w4.heap.size) :
    Rws N w5.heap.size (fun j => if j = x.r then some v5 else M j) (trs (l.take (k + 1))) 0 w5 := by
  have e1 : rowOf (fun j => if j = x.r then some v5 else M j) x.r = v5 := by simp [rowOf]
  have e2 : ∀ q, q ≠ x.r → rowOf (fun j => if j = x.r then some v5 else M j) q = rowOf M q := fun q hq => by simp [rowOf, hq]
  refine ⟨fun r _ hr => ?_, fun r q hr hq hne g hg => ?_, fun r hr g hg => ?_⟩
  · rw [hs, trs_snoc]
    by_cases hrx : r = x.r
    · subst hrx
      rw [e1, if_pos rfl, us_append, List.length_append]
      exact o5
    · rw [e2 r hrx, if_neg (fun e => hrx e.symm)]
      refine (h.1 r (by omega) hr).kept g5 ?_
      by_cases hn : (rowOf M r).ownBlock = none
      · exact .inl hn
      · refine .inr (fun e => ?_)
        obtain ⟨g, hg⟩ := Option.ne_none_iff_exists'.1 hn
        exact h.2.1 r x.r hr hx hrx g hg (e ▸ hg)
  · by_cases hrx : r = x.r
    · subst hrx
      rw [e1] at hg
      rw [e2 q (fun e => hne e.symm)]
      intro hq2
      rcases l5 with h5 | h5
      · exact h.2.1 _ q hr hq hne g (by rw [← h5]; exact hg) hq2
      · rw [h5] at hg
        cases hg
        have := (h.2.2 q hq _ hq2).2
        omega
    · rw [e2 r hrx] at hg
      by_cases hqx : q = x.r
      · subst hqx
        rw [e1]
        intro hq2
        rcases l5 with h5 | h5
        · exact h.2.1 r _ hr hq hne g hg (by rw [← h5]; exact hq2)
        · rw [h5] at hq2
          cases hq2
          have := (h.2.2 r hr _ hg).2
          omega
      · rw [e2 q hqx]
        exact h.2.1 r q hr hq hne g hg
  · by_cases hrx : r = x.r
    · subst hrx
      rw [e1] at hg
      exact o5.lt g hg
    · rw [e2 r hrx] at hg
      have := h.2.2 r hr g hg
      have := g5.size
      omega

/-! ### What is told of a replica -/
set_option maxRecDepth 100000 in
set_option maxHeartbeats 2000000 in
theorem ofOne_any {K : Nat} (HS : SortC K) (hK : K ≤ 1000000) {k N n : Nat} {M : Nat → Option Value} {xs : List Nat} {W : World} (hk : k < 256) (hb : Box N W) (hm : MapV W N n M)
    (ho : W.ownsRow (N + 2) 30 1 (rowOf M k) xs.length (us xs)) (hl : xs.length ≤ K) (hok : ∀ t ∈ xs, 1 ≤ t ∧ t ≤ 1073741824) :
    Calls Try.prog 43 #[.int .u8 (k : Int), .pointer (some ⟨N + 1, 0, none⟩)] W fun e w' => ∃ v' S, e = .returned (.tuple #[v', .int .i64 0]) ∧ w'.ownsRow W.heap.size 63 2 v' S.length (sps S) ∧ Fine S ∧ (∀ n, In S n ↔ n ∈ xs) ∧ S.length ≤ xs.length ∧
      W.grownBy w' (rowOf M k).ownBlock := by
  have hcell : W.cell? ⟨N + 1, 0, none⟩ = some (.map (some N)) := cell_of_row W (N + 1) 0 _ _ _ hb
  have H1 := Lib.hid hm
  obtain ⟨v, hv⟩ : ∃ v, v = rowOf M k := ⟨_, rfl⟩
  have HX := Lib.hid hv
  rw [← hv] at ho ⊢
  have CD : Hid (Calls Try.prog 44 #[v] W (InS v xs W)) := by
    rcases ho.2 with ⟨h0, h1⟩ | ⟨g, cap, cur, h0, h1, h2⟩
    · subst h0
      obtain rfl : xs = [] := List.length_eq_zero_iff.1 h1
      exact inShort_nil W
    · subst h0
      exact inShort_row HS hK (B := N + 2) ho hl hok
  obtain ⟨ao, cap, rfl⟩ := Sees.shape (Sees.own ho)
  obtain ⟨m, hm'⟩ : ∃ m, m = xs.length := ⟨_, rfl⟩
  have HM := Lib.hid hm'
  rw [← hm'] at CD HX ⊢
  clear hm hb ho hl hok hv hm' HS hK
  have HX' : Hid ((M k).getD (.slice none 0 0) = .slice ao m cap) := HX.out.symm
  go_enter Try.func43, Try.ntmps43
  go_wp2_with (first | (at_lookup; refine wpList_lookup_v _ rfl _ _ 66 61 rfl Try.underlying66 (.slice none 0 0) (zero_us _) N n k M H1.out rfl rfl hk ?_; rw [HX'.out]))
  refine CD.out.mono ?_
  rintro e w1 ⟨v1, S, rfl, o1, f1, f2, f3, g1⟩
  have O1 := Lib.hid o1
  have F1 := Lib.hid f1
  have F2 := Lib.hid f2
  have F3 := Lib.hid f3
  have G1 := Lib.hid g1
  obtain ⟨so, sc, rfl⟩ := Sees.shape (Sees.own o1)
  clear o1 f1 f2 f3 g1
  go_wp2
  go_ret2
  exact ⟨_, S, rfl, O1.out, F1.out, F2.out, by rw [HM.out]; exact F3.out, G1.out⟩
end Go.Proofs.Ytinglfhndlklaaa.Clocks
