/-
  The document's own words of a queue: Rounds.
-/
import Derived.Test.YtojejcafahighaaRefT
namespace Go.Proofs.Ytojejcafahighaa.pk
open Go Go.RowKit
set_option maxRecDepth 100000

theorem rev_ind {P : List It → Prop} (h0 : P []) (h1 : ∀ l y, P l → P (l ++ [y])) (l : List It) : P l := by
  rw [← List.reverse_reverse l]
  generalize l.reverse = m
  induction m with
  | nil => exact h0
  | cons y m ih => rw [List.reverse_cons]; exact h1 _ _ ih
/-- The next round behind one. -/
def stepR (term last : Int) (nx : Int) (x : It) : Int := if x.term = term ∧ last < x.round ∧ (nx < 0 ∨ x.round < nx) then x.round else nx
def nextR (term last : Int) (l : List It) : Int := l.foldl (stepR term last) (-1)
def cntR (term last : Int) (l : List It) : Nat := (l.filter fun x => decide (x.term = term ∧ last < x.round)).length
theorem nextR_take {term last : Int} {l : List It} {j : Nat} (hj : j < l.length) : nextR term last (l.take (j + 1)) = stepR term last (nextR term last (l.take j)) l[j] := by
  unfold nextR; rw [List.take_succ_eq_append_getElem hj, List.foldl_append]; rfl
theorem nextR_spec {term last : Int} : ∀ (l : List It), (∀ x ∈ l, 0 ≤ x.round) → (nextR term last l = -1 ∧ ∀ x ∈ l, x.term = term → x.round ≤ last) ∨ (0 ≤ nextR term last l ∧ last < nextR term last l ∧ (∃ x ∈ l, x.term = term ∧ x.round = nextR term last l) ∧ ∀ x ∈ l, x.term = term → last < x.round → nextR term last l ≤ x.round) := by
  intro l
  refine rev_ind (P := fun l => (∀ x ∈ l, 0 ≤ x.round) → ((nextR term last l = -1 ∧ ∀ x ∈ l, x.term = term → x.round ≤ last) ∨ (0 ≤ nextR term last l ∧ last < nextR term last l ∧ (∃ x ∈ l, x.term = term ∧ x.round = nextR term last l) ∧ ∀ x ∈ l, x.term = term → last < x.round → nextR term last l ≤ x.round))) ?_ ?_ l
  · intro _; left; exact ⟨rfl, fun x hx => by cases hx⟩
  · intro l y ih h
    have ih := ih fun x hx => h x (List.mem_append_left _ hx)
    have hy := h y (List.mem_append_right _ (List.mem_singleton.2 rfl))
    have e1 : nextR term last (l ++ [y]) = stepR term last (nextR term last l) y := by unfold nextR; rw [List.foldl_append]; rfl
    rw [e1]
    obtain ⟨nx, hnx⟩ : ∃ nx, nx = nextR term last l := ⟨_, rfl⟩
    rw [← hnx] at ih ⊢
    unfold stepR
    by_cases hc : y.term = term ∧ last < y.round ∧ (nx < 0 ∨ y.round < nx)
    · rw [if_pos hc]
      right
      refine ⟨hy, hc.2.1, ⟨y, List.mem_append_right _ (List.mem_singleton.2 rfl), hc.1, rfl⟩, fun x hx ht hl => ?_⟩
      rcases List.mem_append.1 hx with hx | hx
      · rcases ih with ⟨h1, h2⟩ | ⟨h1, h2, h3, h4⟩
        · have := h2 x hx ht; omega
        · have := h4 x hx ht hl; omega
      · rw [List.mem_singleton.1 hx]; exact Int.le_refl _
    · rw [if_neg hc]
      rcases ih with ⟨h1, h2⟩ | ⟨h1, h2, ⟨z, hz, hz2, hz3⟩, h4⟩
      · left
        refine ⟨h1, fun x hx ht => ?_⟩
        rcases List.mem_append.1 hx with hx | hx
        · exact h2 x hx ht
        · rw [List.mem_singleton.1 hx] at ht ⊢
          omega
      · right
        refine ⟨h1, h2, ⟨z, List.mem_append_left _ hz, hz2, hz3⟩, fun x hx ht hl => ?_⟩
        rcases List.mem_append.1 hx with hx | hx
        · exact h4 x hx ht hl
        · rw [List.mem_singleton.1 hx] at ht hl ⊢
          omega
/-- The rounds up to one. -/
def UpToR (l : List It) (term last : Int) (rs : List Int) : Prop := -1 ≤ last ∧ rs.Pairwise (· < ·) ∧ (∀ z, z ∈ rs ↔ (∃ x ∈ l, x.term = term ∧ x.round = z) ∧ z ≤ last) ∧ rs.length + cntR term last l ≤ l.length
theorem upToR_start {l : List It} {term : Int} (h : ∀ x ∈ l, 0 ≤ x.round) : UpToR l term (-1) [] := by
  refine ⟨by omega, List.Pairwise.nil, fun z => ⟨fun hz => (by cases hz), fun ⟨⟨x, hx, _, hz⟩, hl⟩ => ?_⟩, ?_⟩
  · have := h x hx; omega
  · unfold cntR; rw [List.length_nil, Nat.zero_add]; exact List.length_filter_le ..
theorem cntR_less {l : List It} {term last nx : Int} (h1 : last < nx) (hx : ∃ x ∈ l, x.term = term ∧ x.round = nx) : cntR term nx l + 1 ≤ cntR term last l := by
  unfold cntR
  induction l with
  | nil => obtain ⟨x, hx, _⟩ := hx; cases hx
  | cons y l ih =>
    rw [List.filter_cons, List.filter_cons]
    have hmono : (l.filter fun x => decide (x.term = term ∧ nx < x.round)).length ≤ (l.filter fun x => decide (x.term = term ∧ last < x.round)).length := by
      rw [← List.countP_eq_length_filter, ← List.countP_eq_length_filter]
      refine List.countP_mono_left fun x _ hx => ?_
      simp only [decide_eq_true_eq] at hx ⊢
      omega
    obtain ⟨x, hx, hx2, hx3⟩ := hx
    rcases List.mem_cons.1 hx with rfl | hx
    · rw [if_neg (by simp only [decide_eq_true_eq]; omega), if_pos (by simp only [decide_eq_true_eq]; omega), List.length_cons]
      omega
    · have ih := ih ⟨x, hx, hx2, hx3⟩
      by_cases hy : y.term = term ∧ nx < y.round
      · rw [if_pos (by simp only [decide_eq_true_eq]; exact hy), if_pos (by simp only [decide_eq_true_eq]; omega), List.length_cons, List.length_cons]
        omega
      · rw [if_neg (by simp only [decide_eq_true_eq]; exact hy)]
        split
        · rw [List.length_cons]; omega
        · exact ih
theorem upToR_next {l : List It} {term last : Int} {rs : List Int} (h : UpToR l term last rs) (h0 : ∀ x ∈ l, 0 ≤ x.round) (hn : ¬ nextR term last l < 0) : UpToR l term (nextR term last l) (rs ++ [nextR term last l]) ∧ cntR term (nextR term last l) l < cntR term last l := by
  rcases nextR_spec (term := term) (last := last) l h0 with ⟨h1, _⟩ | ⟨h1, h2, h3, h4⟩
  · omega
  · have hc := cntR_less h2 h3
    obtain ⟨u1, u2, u3, u4⟩ := h
    refine ⟨⟨by omega, ?_, fun z => ?_, by rw [List.length_append]; simp only [List.length_singleton]; omega⟩, by omega⟩
    · rw [List.pairwise_append]
      refine ⟨u2, List.pairwise_singleton _ _, fun a ha b hb => ?_⟩
      rw [List.mem_singleton.1 hb]
      have := ((u3 a).1 ha).2
      omega
    · rw [List.mem_append, u3]
      constructor
      · rintro (⟨h5, h6⟩ | h5)
        · exact ⟨h5, by omega⟩
        · rw [List.mem_singleton.1 h5]; exact ⟨h3, Int.le_refl _⟩
      · rintro ⟨⟨x, hx, ht, hz⟩, h6⟩
        by_cases h7 : z ≤ last
        · exact Or.inl ⟨⟨x, hx, ht, hz⟩, h7⟩
        · right
          have := h4 x hx ht (by omega)
          exact List.mem_singleton.2 (by omega)
theorem upToR_end {lim : Int} {l : List It} {term last : Int} {rs : List Int} (h : UpToR l term last rs) (h0 : ∀ x ∈ l, 0 ≤ x.round) (hm : mayQ lim l = true) (hn : nextR term last l < 0) : IsRounds lim l term rs := by
  refine ⟨fun hx => by rw [hm] at hx; (cases hx), fun _ => ⟨h.2.1, fun z => ?_⟩⟩
  rw [h.2.2.1]
  rcases nextR_spec (term := term) (last := last) l h0 with ⟨h1, h2⟩ | ⟨h1, _⟩
  · exact ⟨fun h => h.1, fun ⟨x, hx, ht, hz⟩ => ⟨⟨x, hx, ht, hz⟩, by have := h2 x hx ht; omega⟩⟩
  · omega
theorem round_pos {lim : Int} {l : List It} (hm : mayQ lim l = true) : ∀ x ∈ l, 0 ≤ x.round := fun x hx => by
  have h := mayQ_all hm x hx
  unfold itB at h
  simp only [Bool.and_eq_true] at h
  exact (numB_iff.1 h.1.1.2).1

set_option maxHeartbeats 16000000 in
theorem Rounds_ref (lim : Int) (l : List It) (A : Option Addr) (n c : Nat) (term : Int) (w : World) (h : Its w (.slice A n c) l) (hl0 : l.length < 1000000) :
    Calls Try.prog 13 #[.agg #[.int .i64 lim, .slice A n c], .int .i64 term] w fun y w' => ∃ r A1 k c1, y = .returned (.slice A1 k c1) ∧ k = r.length ∧ IsRounds lim l term r ∧ Ints w' (.slice A1 k c1) r ∧ Below w.heap.size w w' := by
  obtain ⟨W1, g, hW1, hg, hbw, hq, hsz1⟩ := one_box w (.cells #[.int .i64 lim, .slice A n c] 42)
  have HW := Lib.hid (And.intro hW1 hg)
  have HE := Lib.hid (And.intro hbw (And.intro (show w.heap.size ≤ g by omega) hsz1))
  obtain ⟨hn, hnc, hcm⟩ := h.len_
  have HI := Lib.hid (And.intro (h.below hbw) (And.intro hn hl0))
  have HCL := Lib.hid (show ∀ W, Below W1.heap.size W1 W → W.cell? ⟨g, 0, none⟩ = some (.int .i64 lim) ∧ W.cell? ⟨g, 1, none⟩ = some (.slice A n c) from fun W hW => cells2 ((hW.block g (obj_lt hq)).trans hq))
  obtain ⟨x0, x1⟩ := HCL.out W1 (Below.refl _ _)
  have in1 : (n : Int) ≤ 1000000 := by omega
  cases hm : mayQ lim l with
  | false =>
    have CM := Lib.hid (May_ref lim l A n c W1 HI.out.1 false hm.symm)
    have HM := Lib.hid hm
    clear h hl0 hW1 hg hbw hq hsz1 hn hnc hcm hm
    go_enter Try.func13, Try.ntmps13
    go_upto_region 1 with fail
    rw [← HW.out.1, ← HW.out.2]
    go_wp2_with fail
    go_loopw [5, 6] (fun ov lv wr => ov = .slice none 0 0 ∧ wr = W1) (fun _ _ _ => 0)
    case atStart => exact ⟨rfl, rfl⟩
    case round =>
      obtain ⟨rfl, rfl⟩ := hrel
      go_wp2_with (go_at_call 22; go_must (refine CM.out.mono ?_; rintro y w1 ⟨rfl, hb1⟩; have HB := Lib.hid hb1; clear hb1))
      go_ret
      exact ⟨[], none, 0, 0, rfl, rfl, ⟨fun _ => rfl, fun h => by rw [HM.out] at h; cases h⟩, Ints.nil_ _, HE.out.1.trans (HB.out.mono HE.out.1.size)⟩
  | true =>
    have CM := Lib.hid fun W (hW : Below W1.heap.size W1 W) => May_ref lim l A n c W (HI.out.1.below hW) true hm.symm
    have HM := Lib.hid (And.intro hm (round_pos hm))
    clear h hl0 hW1 hg hbw hq hsz1 hn hnc hcm hm
    go_enter Try.func13, Try.ntmps13
    go_upto_region 1 with fail
    rw [← HW.out.1, ← HW.out.2]
    go_wp2_with fail
    go_loopw [5, 6] (fun ov lv wr => ∃ (rs : List Int) (last : Int), lv = .int .i64 last ∧ Hid (wr.ownsRow W1.heap.size 3 1 ov rs.length (rs.map (Value.int .i64)) ∧ UpToR l term last rs ∧ last ≤ 9223372036854775807 ∧ (∀ z ∈ rs, inI z)) ∧ Below W1.heap.size W1 wr) (fun _ lv _ => cntR term (intOf lv) l)
    case atStart => exact ⟨[], -1, rfl, Lib.hid ⟨World.ownsRow_nil _ _ _ _, upToR_start HM.out.2, by omega, fun z hz => by cases hz⟩, Below.refl _ _⟩
    case round =>
      obtain ⟨rs, last, rfl, HR, hbw⟩ := hrel
      obtain ⟨Ao, co, rfl, -, -⟩ := (RowT.of_own HR.out.1 (fun _ => True) fun _ _ => trivial).form
      obtain ⟨no, hno⟩ : ∃ no, no = rs.length := ⟨_, rfl⟩
      have HNO := Lib.hid hno
      rw [← hno] at HR ⊢
      clear hno
      have HBR := Lib.hid hbw
      obtain ⟨x0, x1⟩ := HCL.out wr hbw
      clear hbw
      go_upto_region 5 with (go_at_call 22; go_must (refine (CM.out _ HBR.out).mono ?_; rintro y w1 ⟨rfl, hb1⟩; have HBX := Lib.hid hb1; have HB := Lib.hid (HBR.out.trans (hb1.mono HBR.out.size)); clear hb1))
      go_wp2_with fail
      clear x0 x1
      go_loopw [7, 8] (fun nn ii wj => ∃ (j : Nat) (nx : Int), j ≤ n ∧ ii = .int .i64 (j : Int) ∧ nn = .int .i64 nx ∧ Hid (nx = nextR term last (l.take j) ∧ -1 ≤ nx ∧ nx ≤ 9223372036854775807 ∧ Below wr.heap.size wr wj)) (fun _ ii _ => n - (intOf ii).toNat)
      case atStart => exact ⟨0, -1, Nat.zero_le _, rfl, rfl, Lib.hid ⟨by rw [List.take_zero]; rfl, by omega, by omega, HBX.out⟩⟩
      case round =>
        obtain ⟨j, nx, hj, rfl, rfl, HJ⟩ := hrel
        have hbj := HBR.out.trans (HJ.out.2.2.2.mono HBR.out.size)
        have HBJ := Lib.hid hbj
        obtain ⟨x0, x1⟩ := HCL.out _ hbj
        by_cases hlt : j < n
        · have ii : (j : Int) < (n : Int) := by omega
          have hjl : j < l.length := by have := HI.out.2; omega
          obtain ⟨bk, off, rfl, hbb, q0, q1, q2, q3⟩ := (HI.out.1.below hbj).1.at_ j hjl
          have hst := nextR_take (term := term) (last := last) hjl
          rw [← HJ.out.1] at hst
          have hxr := HM.out.2 _ (List.getElem_mem hjl)
          have hxi := (HI.out.1.2 _ (List.getElem_mem hjl)).2.1.2
          obtain ⟨x, hx⟩ : ∃ x, x = l[j] := ⟨_, rfl⟩
          rw [← hx] at q0 q1 q2 q3 hst hxr hxi
          obtain ⟨tx, htx⟩ : ∃ tx, tx = x.term := ⟨_, rfl⟩
          obtain ⟨rx, hrx⟩ : ∃ rx, rx = x.round := ⟨_, rfl⟩
          unfold stepR at hst
          rw [← htx] at q0 hst
          rw [← hrx] at q1 hst hxr hxi
          have HBD := Lib.hid (And.intro hxr hxi)
          clear hbb hx hjl hbj htx hrx
          have hcase : (¬ tx = term ∧ nextR term last (l.take (j + 1)) = nx) ∨ (tx = term ∧ ¬ last < rx ∧ nextR term last (l.take (j + 1)) = nx) ∨ (tx = term ∧ last < rx ∧ nx < 0 ∧ nextR term last (l.take (j + 1)) = rx) ∨ (tx = term ∧ last < rx ∧ ¬ nx < 0 ∧ rx < nx ∧ nextR term last (l.take (j + 1)) = rx) ∨ (tx = term ∧ last < rx ∧ ¬ nx < 0 ∧ ¬ rx < nx ∧ nextR term last (l.take (j + 1)) = nx) := by
            by_cases c1 : tx = term
            · by_cases c2 : last < rx
              · by_cases c3 : nx < 0
                · exact Or.inr (Or.inr (Or.inl ⟨c1, c2, c3, by rw [hst, if_pos ⟨c1, c2, Or.inl c3⟩]⟩))
                · by_cases c4 : rx < nx
                  · exact Or.inr (Or.inr (Or.inr (Or.inl ⟨c1, c2, c3, c4, by rw [hst, if_pos ⟨c1, c2, Or.inr c4⟩]⟩)))
                  · exact Or.inr (Or.inr (Or.inr (Or.inr ⟨c1, c2, c3, c4, by rw [hst, if_neg (by omega)]⟩)))
              · exact Or.inr (Or.inl ⟨c1, c2, by rw [hst, if_neg (by omega)]⟩)
            · exact Or.inl ⟨c1, by rw [hst, if_neg (by omega)]⟩
          clear hst hxr hxi
          rcases hcase with ⟨c1, hs⟩ | ⟨rfl, c2, hs⟩ | ⟨rfl, c2, c3, hs⟩ | ⟨rfl, c2, c3, c4, hs⟩ | ⟨rfl, c2, c3, c4, hs⟩
          all_goals
            have HS := Lib.hid hs
            clear hs
            go_wp2_with fail
            go_roundw
            case rel => exact ⟨j + 1, _, by omega, by go_num, rfl, Lib.hid ⟨HS.out.symm, by first | exact HJ.out.2.1 | (have := HBD.out; omega), by first | exact HJ.out.2.2.1 | (have := HBD.out; omega), HJ.out.2.2.2.alloc HJ.out.2.2.2.size _⟩⟩
            case measure => simp [intOf]; omega
        · obtain rfl : j = n := by omega
          have ii : ¬ (j : Int) < (j : Int) := by omega
          have htk : l.take j = l := List.take_of_length_le (by have := HI.out.2; omega)
          have hnx := HJ.out
          rw [htk] at hnx
          have HNX := Lib.hid hnx
          clear hnx htk hbj
          by_cases hneg : nx < 0
          · have HF := Lib.hid (upToR_end HR.out.2.1 HM.out.2 HM.out.1 (by rw [← HNX.out.1]; exact hneg))
            go_wp2_with fail
            go_ret
            refine ⟨rs, Ao, no, co, rfl, HNO.out, HF.out, ⟨?_, HR.out.2.2.2⟩, HE.out.1.trans (HBJ.out.mono HE.out.1.size)⟩
            have h1 := own_kept HR.out.1 HNX.out.2.2.2
            rw [HNO.out] at h1 ⊢
            exact RowT.of_own h1 _ fun k hk => (h1.lt k hk).2
          · have HF := Lib.hid (upToR_next HR.out.2.1 HM.out.2 (by rw [← HNX.out.1]; exact hneg))
            rw [← HNX.out.1] at HF
            have hrl : rs.length ≤ 1000000 := by have := HR.out.2.1.2.2.2; have := HI.out.2.2; omega
            have HRL := Lib.hid hrl
            clear hrl
            go_wp2_with (at_builtin; go_must (refine wpList_pushI (B := W1.heap.size) (zs := rs) (own_kept (own_kept (by rw [← HNO.out]; exact HR.out.1) HNX.out.2.2.2) (below_alloc _ _)) rfl _ _ rfl rfl _ rfl nx (heap_alloc_new _ _) ?c2 ?c3 ?c4))
            case c2 => have := HRL.out; omega
            case c3 => have := HBJ.out.size; first | omega | (rw [World.size_alloc]; omega)
            case c4 =>
              intro v5 w5 ho5 hg5
              have hb5 : Below W1.heap.size W1 w5 := (HBJ.out.alloc HBJ.out.size _).grown hg5 (by have := HBJ.out.size; rw [World.size_alloc]; omega) fun k hk => (HR.out.1.lt k hk).1
              have H5 := Lib.hid (And.intro ho5 hb5)
              clear ho5 hg5 hb5
              go_wp2_with fail
              go_roundw
              case rel => exact ⟨rs ++ [nx], nx, rfl, Lib.hid ⟨by rw [List.length_append, List.map_append]; exact H5.out.1, HF.out.1, HNX.out.2.2.1, fun z hz => by
                rcases List.mem_append.1 hz with hz | hz
                · exact HR.out.2.2.2 z hz
                · rw [List.mem_singleton.1 hz]; exact ⟨by have := HNX.out.2.1; omega, HNX.out.2.2.1⟩⟩, H5.out.2⟩
              case measure => simp only [intOf]; exact HF.out.2

end Go.Proofs.Ytojejcafahighaa.pk
