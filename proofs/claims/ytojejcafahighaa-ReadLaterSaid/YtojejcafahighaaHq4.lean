/-
  The program's own queue: Rounds, by the library's sort and Compact.
-/
import Derived.Test.YtojejcafahighaaHq1
import Derived.Test.YtojejcafahighaaShelf
import Derived.Lib.OwnBridge
import Derived.Sort.OwnSortedInts
namespace Go.Proofs.Ytojejcafahighaa.pk
open Go Go.RowKit
set_option maxRecDepth 100000

/-- What is sorted, each once. -/
theorem compact_ok (ts : List Int) (hs : ts.Pairwise (fun x y => x ≤ y)) : (Lib.compact ts).Pairwise (fun x y => x < y) ∧ ∀ z, z ∈ Lib.compact ts ↔ z ∈ ts := by
  have hle : ∀ i j, i < j → j < ts.length → ts.toArray[i]! ≤ ts.toArray[j]! := fun i j hij hj => by
    have h1 := List.pairwise_iff_getElem.1 hs i j (by omega) hj hij
    rw [getElem!_pos ts.toArray i (by simp; omega), getElem!_pos ts.toArray j (by simpa using hj)]
    simpa using h1
  have H : ∀ m, m ≤ ts.length → (Lib.compactUpTo ts.toArray m).Pairwise (fun x y => x < y) ∧ ∀ z, z ∈ Lib.compactUpTo ts.toArray m ↔ ∃ j, j < m ∧ ts.toArray[j]! = z := by
    intro m
    induction m with
    | zero => intro _; exact ⟨by simp [Lib.compactUpTo], fun z => by simp [Lib.compactUpTo]⟩
    | succ m ih =>
      intro hm
      obtain ⟨i1, i2⟩ := ih (by omega)
      rw [Lib.compactUpTo_succ]
      by_cases hk : Lib.keeps ts.toArray m = true
      · rw [if_pos hk]
        have hk2 : m = 0 ∨ ts.toArray[m]! ≠ ts.toArray[m - 1]! := by simpa [Lib.keeps] using hk
        refine ⟨List.pairwise_append.2 ⟨i1, by simp, fun x hx y hy => ?_⟩, fun z => ?_⟩
        · rw [List.mem_singleton.1 hy]
          obtain ⟨j, hj, rfl⟩ := (i2 x).1 hx
          have a1 : ts.toArray[j]! ≤ ts.toArray[m - 1]! := by
            by_cases e : j = m - 1
            · rw [e]; exact Int.le_refl _
            · exact hle _ _ (by omega) (by omega)
          have a2 := hle (m - 1) m (by omega) (by omega)
          rcases hk2 with h | h
          · omega
          · have : ts.toArray[m - 1]! ≠ ts.toArray[m]! := fun e => h e.symm
            omega
        · rw [List.mem_append, i2, List.mem_singleton]
          constructor
          · rintro (⟨j, hj, h⟩ | h)
            · exact ⟨j, by omega, h⟩
            · exact ⟨m, by omega, h.symm⟩
          · rintro ⟨j, hj, h⟩
            by_cases e : j = m
            · right; rw [← h, e]
            · left; exact ⟨j, by omega, h⟩
      · rw [if_neg hk, List.append_nil]
        have hk2 : m ≠ 0 ∧ ts.toArray[m]! = ts.toArray[m - 1]! := by
          simp only [Lib.keeps, decide_eq_true_eq] at hk
          exact ⟨fun e => hk (Or.inl e), Classical.byContradiction fun e => hk (Or.inr e)⟩
        refine ⟨i1, fun z => ?_⟩
        rw [i2]
        constructor
        · rintro ⟨j, hj, h⟩; exact ⟨j, by omega, h⟩
        · rintro ⟨j, hj, h⟩
          by_cases e : j = m
          · exact ⟨m - 1, by omega, by rw [← hk2.2, ← h, e]⟩
          · exact ⟨j, by omega, h⟩
  obtain ⟨h1, h2⟩ := H ts.length (Nat.le_refl _)
  refine ⟨h1, fun z => ?_⟩
  unfold Lib.compact
  rw [h2]
  constructor
  · rintro ⟨j, hj, h⟩
    rw [getElem!_pos ts.toArray j (by simpa using hj)] at h
    rw [← h]
    simp
  · intro hz
    obtain ⟨j, hj, h⟩ := List.getElem_of_mem hz
    exact ⟨j, hj, by rw [getElem!_pos ts.toArray j (by simpa using hj)]; simpa using h⟩
theorem sort_pw (zs : List Int) : (zs.mergeSort fun x y => decide (x ≤ y)).Pairwise (fun x y => x ≤ y) := by
  have := List.pairwise_mergeSort (le := fun x y : Int => decide (x ≤ y)) (fun a b c h1 h2 => by simp only [decide_eq_true_eq] at *; omega) (fun a b => by simp only [Bool.or_eq_true, decide_eq_true_eq]; omega) zs
  exact this.imp (by intro a b h; simpa using h)

/-- A row of the call's own, sorted by the library. -/
theorem sortI_own (B : Nat) (A : Option Addr) (n c : Nat) (zs : List Int) (w : World) (h : w.ownsRow B 3 1 (.slice A n c) n (zs.map (Value.int .i64))) (hzl : zs.length ≤ 1000000) :
    Calls Try.prog 20 #[.slice A n c] w fun y w' => y = .returned (.tuple #[]) ∧ w'.ownsRow B 3 1 (.slice A n c) n ((zs.mergeSort fun x y => decide (x ≤ y)).map (Value.int .i64)) ∧ Below B w w' := by
  by_cases hv : (Value.slice A n c) = .slice none 0 0
  · injection hv with e1 e2 e3
    subst e1; subst e2; subst e3
    have hz : zs = [] := by have := h.1; simp at this; exact this
    subst hz
    exact (Try.slices_Sort_int_none none 0 w).mono fun y w' ⟨h1, h2⟩ => ⟨h1, by rw [h2]; simpa using World.ownsRow_nil _ _ _ _, by rw [h2]; exact Below.refl _ _⟩
  · obtain ⟨g, c', hv', hB, hg, hnc, hcm, hl, hH⟩ := Lib.holds_of_ownsRow h hv
    injection hv' with e1 e2 e3
    subst e1; subst e3
    have hl' : (zs.mergeSort fun x y => decide (x ≤ y)).length = n := by rw [List.length_mergeSort, hl]
    have C := Try.slices_Sort_int g 0 c zs w hH hg (by omega)
    rw [hl] at C
    refine C.mono fun y w' ⟨h1, q, os, h2⟩ => ?_
    rcases h.2 with ⟨e0, _⟩ | ⟨g', cap', cur, e0, hb, hgc, hn, hm, hs, ht⟩
    · cases e0
    · injection e0 with e1 _ e3
      injection e1 with e1
      injection e1 with e1
      subst e1; subst e3
      have ho := ownsRow_sortedI (n := q) (os := os) (ss := zs) (ts := zs.mergeSort fun x y => decide (x ≤ y)) (by rw [List.length_mergeSort]) hb hgc (by omega) hm hs
      rw [hl] at ho
      refine ⟨h1, by rw [h2]; exact ho, ?_⟩
      rw [h2]
      exact (Below.refl B w).grown (grownBy_sortedI _) (by omega) fun k hk => by injection hk with hk; omega

/-- A row of the call's own, each neighbour once. -/
theorem compI_own (B : Nat) (A : Option Addr) (n c : Nat) (zs : List Int) (w : World) (h : w.ownsRow B 3 1 (.slice A n c) n (zs.map (Value.int .i64))) (k : Nat) (hk : k = (Lib.compact zs).length) :
    Calls Try.prog 21 #[.slice A n c] w fun y w' => y = .returned (.slice A k c) ∧ w'.ownsRow B 3 1 (.slice A k c) k ((Lib.compact zs).map (Value.int .i64)) ∧ Below B w w' := by
  subst hk
  by_cases hv : (Value.slice A n c) = .slice none 0 0
  · injection hv with e1 e2 e3
    subst e1; subst e2; subst e3
    have hz : zs = [] := by have := h.1; simp at this; exact this
    subst hz
    have h0 : Lib.compact ([] : List Int) = [] := by simp [Lib.compact, Lib.compactUpTo]
    rw [h0]
    exact (Try.slices_Compact_int_empty none 0 w).mono fun y w' ⟨h1, h2⟩ => ⟨h1, by rw [h2]; exact World.ownsRow_nil _ _ _ _, by rw [h2]; exact Below.refl _ _⟩
  · obtain ⟨g, c', hv', hB, hg, hnc, hcm, hl, hH⟩ := Lib.holds_of_ownsRow h hv
    injection hv' with e1 e2 e3
    subst e1; subst e3
    have hle := Lib.compact_length_le zs
    have C := Try.slices_Compact_int g 0 c zs w hH (by unfold maxLen at hcm; omega) (by omega)
    rw [hl] at C
    refine C.mono fun y w' ⟨h1, q, h2⟩ => ?_
    have ho := Lib.ownsRow_putRow (q := q) (k := (Lib.compact zs).length) (ys := Lib.compact zs ++ List.replicate (n - (Lib.compact zs).length) 0) h (by simp; omega) (by omega)
    rw [List.take_left] at ho
    exact ⟨h1, by rw [h2]; exact ho, by rw [h2]; exact Lib.below_putRow (Below.refl _ _) hB⟩

def rndT (term : Int) (l : List It) : List Int := (l.filter fun x => decide (x.term = term)).map It.round
theorem rndT_hit {term : Int} {l : List It} {j : Nat} (hj : j < l.length) (h : l[j].term = term) : rndT term (l.take (j + 1)) = rndT term (l.take j) ++ [l[j].round] := by
  unfold rndT; rw [List.take_succ_eq_append_getElem hj, List.filter_append, List.map_append, List.filter_cons, if_pos (by simpa using h)]; rfl
theorem rndT_no {term : Int} {l : List It} {j : Nat} (hj : j < l.length) (h : ¬ l[j].term = term) : rndT term (l.take (j + 1)) = rndT term (l.take j) := by
  unfold rndT; rw [List.take_succ_eq_append_getElem hj, List.filter_append, List.filter_cons, if_neg (by simpa using h)]; simp
theorem rndT_len (term : Int) (l : List It) : (rndT term l).length ≤ l.length := by unfold rndT; rw [List.length_map]; exact List.length_filter_le ..

set_option maxHeartbeats 8000000 in
theorem Rounds_any (lim : Int) (l : List It) (A : Option Addr) (n c : Nat) (term : Int) (w : World) (h : Its w (.slice A n c) l) (hl0 : l.length ≤ 1000) :
    Calls Try.prog 11 #[.agg #[.int .i64 lim, .slice A n c], .int .i64 term] w fun y w' => ∃ r A1 k c1, y = .returned (.slice A1 k c1) ∧ k = r.length ∧ IsRounds lim l term r ∧ Ints w' (.slice A1 k c1) r ∧ Below w.heap.size w w' := by
  obtain ⟨W1, g, hW1, hg, hbw, hq, hsz1⟩ := one_box w (.cells #[.int .i64 lim, .slice A n c] 26)
  have HW := Lib.hid (And.intro hW1 hg)
  have HE := Lib.hid (And.intro hbw (And.intro hg hsz1))
  obtain ⟨hn, hnc, hcm⟩ := h.len_
  have HI := Lib.hid (And.intro (h.below hbw) (And.intro hn hl0))
  have HCL := Lib.hid (show ∀ W, Below W1.heap.size W1 W → W.cell? ⟨g, 0, none⟩ = some (.int .i64 lim) ∧ W.cell? ⟨g, 1, none⟩ = some (.slice A n c) from fun W hW => cells2 ((hW.block g (by omega)).trans hq))
  obtain ⟨x0, x1⟩ := HCL.out W1 (Below.refl _ _)
  have CM := Lib.hid (may_any lim l A n c W1 HI.out.1 _ rfl)
  have in1 : (n : Int) ≤ 1000000 := by omega
  clear h hl0 hW1 hg hbw hq hsz1 hn hnc hcm
  cases hm : mayQ lim l with
  | false =>
    rw [hm] at CM
    have HM := Lib.hid hm
    clear hm
    go_enter Try.func11, Try.ntmps11
    go_upto_region 1 with fail
    rw [← HW.out.1, ← HW.out.2]
    go_wp2_with (go_at_call 14; go_must (refine CM.out.mono ?_; rintro y w1 ⟨rfl, hb1⟩; have HB := Lib.hid hb1; clear hb1))
    go_ret
    exact ⟨[], none, 0, 0, rfl, rfl, ⟨fun _ => rfl, fun h => by rw [HM.out] at h; cases h⟩, Ints.nil_ _, HE.out.1.trans (HB.out.mono HE.out.1.size)⟩
  | true =>
    rw [hm] at CM
    have HM := Lib.hid hm
    clear hm
    go_enter Try.func11, Try.ntmps11
    go_upto_region 1 with fail
    rw [← HW.out.1, ← HW.out.2]
    go_wp2_with (go_at_call 14; go_must (refine CM.out.mono ?_; rintro y w1 ⟨rfl, hb1⟩; obtain ⟨x0, x1⟩ := HCL.out w1 hb1; have HB := Lib.hid hb1; clear hb1))
    clear x0 x1
    go_loopw [5, 14] (fun ov ii wr => ∃ (j : Nat), j ≤ n ∧ ii = .int .i64 (j : Int) ∧ Hid (wr.ownsRow W1.heap.size 3 1 ov (rndT term (l.take j)).length ((rndT term (l.take j)).map (Value.int .i64)) ∧ Below W1.heap.size W1 wr)) (fun _ ii _ => n - (intOf ii).toNat)
    case atStart => exact ⟨0, Nat.zero_le _, rfl, Lib.hid ⟨World.ownsRow_nil _ _ _ _, HB.out⟩⟩
    case round =>
      obtain ⟨j, hj, rfl, HR⟩ := hrel
      obtain ⟨Ao, co, rfl, -, -⟩ := (RowT.of_own HR.out.1 (fun _ => True) fun _ _ => trivial).form
      obtain ⟨no, hno⟩ : ∃ no, no = (rndT term (l.take j)).length := ⟨_, rfl⟩
      have HNO := Lib.hid hno
      rw [← hno] at HR ⊢
      clear hno
      by_cases hlt : j < n
      · have ii : (j : Int) < (n : Int) := by omega
        have hjl : j < l.length := by have := HI.out.2; omega
        obtain ⟨bk, off, rfl, hbb, q0, q1, q2, q3⟩ := (HI.out.1.below HR.out.2).1.at_ j hjl
        obtain ⟨x, hx⟩ : ∃ x, x = l[j] := ⟨_, rfl⟩
        have o1 := rndT_hit (term := term) hjl
        have o3 := rndT_no (term := term) hjl
        rw [← hx] at q0 q1 q2 q3 o1 o3
        obtain ⟨tx, htx⟩ : ∃ tx, tx = x.term := ⟨_, rfl⟩
        rw [← htx] at q0 o1 o3
        have hlen1 := Nat.le_trans (rndT_len term (l.take j)) (show (l.take j).length ≤ 1000000 by rw [List.length_take]; have := HI.out.2; omega)
        have HL := Lib.hid (And.intro hlen1 (And.intro o1 (And.intro o3 HR.out.2.size)))
        clear o1 o3 hbb hx hjl hlen1 htx
        go_upto_region 7 with fail
        obtain ⟨W3, b3, hW3, hb3, hbb3, hq3, hsz3⟩ := one_box wr (.cells #[.int .i64 tx, .int .i64 x.round, .int .i64 x.index, .int .i64 x.token] 28)
        rw [← hW3, ← hb3]
        obtain ⟨v0, v1, v2, v3⟩ := cells4 hq3
        have H3 := Lib.hid hbb3
        clear hW3 hb3 hbb3 hq3 hsz3 q0 q1 q2 q3
        by_cases hp : tx = term
        · have e1 := HL.out.2.1 hp
          subst hp
          have HE1 := Lib.hid e1
          clear e1
          go_wp2_with (at_builtin; go_must (refine wpList_pushI2 (B := W1.heap.size) (zs := rndT tx (l.take j)) (own_kept (own_kept (by rw [← HNO.out]; exact HR.out.1) H3.out) (below_alloc W3 _)) rfl _ _ rfl rfl W3.heap.size rfl x.round (heap_alloc_new W3 _) ?c2 ?c3 ?c4))
          case c2 => have := HL.out.1; omega
          case c3 => have := HL.out.2.2.2; have := H3.out.size; first | omega | (rw [World.size_alloc]; omega)
          case c4 =>
            intro v5 w5 ho5 hg5 how5
            have hz3 := H3.out.size
            have hz4 := HL.out.2.2.2
            have hb5 : Below W1.heap.size W1 w5 := ((HR.out.2.trans (H3.out.mono hz4)).alloc (by omega) _).grown hg5 (by rw [World.size_alloc]; omega) fun k hk => (HR.out.1.lt k hk).1
            have hrel2 : Hid (w5.ownsRow W1.heap.size 3 1 v5 (rndT tx (l.take (j + 1))).length ((rndT tx (l.take (j + 1))).map (Value.int .i64)) ∧ Below W1.heap.size W1 w5) := Lib.hid (by
              rw [HE1.out]
              refine ⟨?_, hb5⟩
              rw [List.length_append, List.map_append]
              exact ho5)
            clear hz3 hz4 hb5 ho5 hg5 how5
            go_wp2_with fail
            go_roundw
            case rel => exact ⟨j + 1, by omega, by go_num, hrel2⟩
            case measure => simp [intOf]; omega
        · have e1 := HL.out.2.2.1 hp
          have hrel2 : Hid (W3.ownsRow W1.heap.size 3 1 (.slice Ao no co) (rndT term (l.take (j + 1))).length ((rndT term (l.take (j + 1))).map (Value.int .i64)) ∧ Below W1.heap.size W1 W3) := Lib.hid (by
              rw [e1, ← HNO.out]
              exact ⟨own_kept HR.out.1 H3.out, HR.out.2.trans (H3.out.mono HL.out.2.2.2)⟩)
          clear e1
          go_wp2_with fail
          go_roundw
          case rel => exact ⟨j + 1, by omega, by go_num, hrel2⟩
          case measure => simp [intOf]; omega
      · obtain rfl : j = n := by omega
        have ii : ¬ (j : Int) < (j : Int) := by omega
        have htk : l.take j = l := List.take_of_length_le (by have := HI.out.2; omega)
        rw [htk] at HR HNO
        obtain ⟨ts, hts⟩ : ∃ ts, ts = (rndT term l).mergeSort fun x y => decide (x ≤ y) := ⟨_, rfl⟩
        obtain ⟨k, hk⟩ : ∃ k, k = (Lib.compact ts).length := ⟨_, rfl⟩
        have CS := Lib.hid (sortI_own W1.heap.size Ao no co (rndT term l) wr HR.out.1 (by have := rndT_len term l; have := HI.out.2; omega))
        rw [← hts] at CS
        have CC := Lib.hid fun W (hW : W.ownsRow W1.heap.size 3 1 (.slice Ao no co) no (ts.map (Value.int .i64))) => compI_own W1.heap.size Ao no co ts W hW k hk
        have HK := Lib.hid (And.intro hts hk)
        clear htk hts hk
        go_wp2_with (first
          | (go_at_call 20; go_must (refine CS.out.mono ?_; rintro y w2 ⟨rfl, ho2, hb2⟩; have H2 := Lib.hid (And.intro ho2 (HR.out.2.trans hb2)); clear ho2 hb2))
          | (go_at_call 21; go_must (refine (CC.out _ H2.out.1).mono ?_; rintro y w3 ⟨rfl, ho3, hb3⟩; have H3 := Lib.hid (And.intro ho3 (H2.out.2.trans hb3)); clear ho3 hb3)))
        go_ret
        have hpw := compact_ok ts (by rw [HK.out.1]; exact sort_pw _)
        have hmem : ∀ z, z ∈ ts ↔ z ∈ rndT term l := fun z => by rw [HK.out.1]; exact (List.mergeSort_perm _ _).mem_iff
        refine ⟨Lib.compact ts, Ao, k, co, rfl, HK.out.2, ⟨fun h => absurd h (by rw [HM.out]; simp), fun _ => ⟨hpw.1, fun z => ?_⟩⟩, ⟨?_, fun z hz => ?_⟩, HE.out.1.trans (H3.out.2.mono HE.out.1.size)⟩
        · rw [hpw.2, hmem]
          unfold rndT
          rw [List.mem_map]
          constructor
          · rintro ⟨x, hx, rfl⟩
            obtain ⟨h1, h2⟩ := List.mem_filter.1 hx
            exact ⟨x, h1, by simpa using h2, rfl⟩
          · rintro ⟨x, h1, h2, rfl⟩
            exact ⟨x, List.mem_filter.2 ⟨h1, by simpa using h2⟩, rfl⟩
        · have h1 := RowT.of_own H3.out.1 (fun k => k < w3.heap.size) fun k hk => (H3.out.1.lt k hk).2
          unfold IntsT
          rw [← HK.out.2]
          exact h1
        · rw [hpw.2, hmem] at hz
          obtain ⟨x, hx, rfl⟩ := List.mem_map.1 hz
          exact (HI.out.1.2 x ((List.mem_filter.1 hx).1)).2.1

end Go.Proofs.Ytojejcafahighaa.pk
