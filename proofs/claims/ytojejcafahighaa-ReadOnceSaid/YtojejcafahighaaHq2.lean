/-
  The program's own queue: the library's Clone at items; Add.
-/
import Derived.Test.YtojejcafahighaaHq1
import Derived.Lib.SliceRun
namespace Go.Proofs.Ytojejcafahighaa.pk
open Go Go.RowKit
set_option maxRecDepth 100000

theorem itC_one {cs : List Value} {l : List It} (hl : cs.length = l.length * 4) (he : ∀ j (h : j < l.length), ItC cs (j * 4) l[j]) : ∀ u ∈ cs, u.oneCell' = true := by
  intro u hu
  obtain ⟨i, hi, rfl⟩ := List.getElem_of_mem hu
  obtain ⟨h0, h1, h2, h3⟩ := he (i / 4) (by omega)
  have hc : i = i / 4 * 4 ∨ i = i / 4 * 4 + 1 ∨ i = i / 4 * 4 + 2 ∨ i = i / 4 * 4 + 3 := by omega
  have hg : cs[i]? = some cs[i] := List.getElem?_eq_getElem hi
  rcases hc with h | h | h | h
  · rw [← h, hg] at h0; injection h0 with h0; rw [h0]; rfl
  · rw [← h, hg] at h1; injection h1 with h1; rw [h1]; rfl
  · rw [← h, hg] at h2; injection h2 with h2; rw [h2]; rfl
  · rw [← h, hg] at h3; injection h3 with h3; rw [h3]; rfl

set_option maxHeartbeats 4000000 in
theorem CloneQ_any (A : Option Addr) (n c : Nat) (l : List It) (w : World) (h : Its w (.slice A n c) l) (hl0 : l.length ≤ 1000) :
    Calls Try.prog 16 #[.slice A n c] w fun y w' => ∃ A1 c1, y = .returned (.slice A1 n c1) ∧ OwnI w' w.heap.size 28 (.slice A1 n c1) l ∧ Below w.heap.size w w' := by
  obtain ⟨hn, hnc, hcm⟩ := h.len_
  have hq := fun (w : World) (n' c' : Nat) => Lib.run_eql_slice_nil (P := Try.prog) w 24 28 A n c n' c' Try.underlying24
  rcases A with _ | a
  · have hl : l = [] := by
      obtain ⟨cs, hr, -⟩ := h.1
      by_cases h0 : n = 0
      · exact List.eq_nil_of_length_eq_zero (by omega)
      · obtain ⟨-, -, -, b, off, hA, -⟩ := hr.at_ (by omega)
        cases hA
    have h00 : n = 0 := by rw [hn, hl]; rfl
    clear h hn hnc hcm hl0
    subst hl
    subst h00
    go_enter Try.func16, Try.ntmps16
    go_wp2_with fail
    go_ret
    exact ⟨none, 0, rfl, OwnI.nil_ _ _ _, Below.refl _ _⟩
  · obtain ⟨i0, hi, hz0, hz1, hz2⟩ := info_three info_it
    obtain ⟨cs, hr, he⟩ := (h.below (below_alloc w (.cells #[] 28))).1
    have H := Lib.hid (And.intro hr (And.intro he (And.intro hn (And.intro hl0 (itC_one hr.1 he)))))
    have HI := Lib.hid (And.intro hi (And.intro hz0 (And.intro hz1 hz2)))
    clear h hn hnc hcm hl0 hr he hi hz0 hz1 hz2
    go_enter Try.func16, Try.ntmps16
    go_wp2_with (at_builtin; go_must (refine wpList_append_row rfl _ _ 24 rfl w.heap.size 28 i0 _ 4 32 Try.underlying24 HI.out.1 HI.out.2.1 HI.out.2.2.1 HI.out.2.2.2 rfl (by omega) (.slice (some ⟨w.heap.size, 0, none⟩) 0 0) 0 [] rfl (World.ownsRow_made w #[] 0 (Nat.le_refl _) (by simp [maxLen]) rfl) (fun _ => True) (some a) n c cs rfl ?c1 ?c2 ?c3 ?c4 ?c5 ?c6))
    case c1 => rw [H.out.2.2.1]; exact RowT.mono (by have h2 := H.out.1; rw [H.out.2.2.1] at h2; exact h2) fun _ _ => trivial
    case c2 => exact H.out.2.2.2.2
    case c3 => have := H.out.2.2; simp only [maxLen]; omega
    case c4 => have := H.out.2.2; omega
    case c5 => rw [World.size_alloc]; omega
    case c6 =>
      intro v' w' ho hg
      try rw [List.nil_append] at ho
      try rw [Nat.zero_add] at ho
      have hb2 := ((Below.refl w.heap.size w).alloc (Nat.le_refl _) (.cells #[] 28)).grown hg (by rw [World.size_alloc]; omega) (fun k hk => by injection hk with hk; rw [← hk]; exact Nat.le_refl _)
      have hO : OwnI w' w.heap.size 28 v' l := ⟨cs, by rw [← H.out.2.2.1]; exact ho, H.out.2.1⟩
      obtain ⟨A1, c1, rfl, -, -⟩ := hO.form H.out.2.2.1.symm
      have HF := Lib.hid (And.intro hO hb2)
      clear ho hg hb2 hO
      go_wp2_with fail
      go_ret
      exact ⟨A1, c1, rfl, HF.out.1, HF.out.2⟩

theorem addQ_cases' (lim : Int) (l : List It) (x : It) : (mayQ lim l = false ∧ addQ lim l x = (0, [], 1)) ∨ (mayQ lim l = true ∧ itB x = false ∧ addQ lim l x = (0, [], 1)) ∨ (mayQ lim l = true ∧ itB x = true ∧ (l.length : Int) = lim ∧ addQ lim l x = (0, [], 32)) ∨ (mayQ lim l = true ∧ itB x = true ∧ ¬ (l.length : Int) = lim ∧ addQ lim l x = (lim, l ++ [x], 0)) := by
  unfold addQ
  cases mayQ lim l with
  | false => left; simp
  | true =>
    right
    cases itB x with
    | false => left; simp
    | true =>
      right
      by_cases h : (l.length : Int) = lim
      · left; exact ⟨rfl, rfl, h, by rw [if_neg (by simp), if_pos h]⟩
      · right; exact ⟨rfl, rfl, h, by rw [if_neg (by simp), if_neg h]⟩

set_option maxHeartbeats 8000000 in
theorem Add_any (lim : Int) (l : List It) (A : Option Addr) (n c : Nat) (x : It) (w : World) (h : Its w (.slice A n c) l) (hx : x.inI) (hl0 : l.length ≤ 1000) (r : Int × List It × Nat) (hr : r = addQ lim l x) (m : Nat) (hm : m = r.2.1.length) :
    Calls Try.prog 6 #[.agg #[.int .i64 lim, .slice A n c], .agg #[.int .i64 x.term, .int .i64 x.round, .int .i64 x.index, .int .i64 x.token]] w fun y w' => ∃ A1 c1, y = .returned (.tuple #[.agg #[.int .i64 r.1, .slice A1 m c1], er r.2.2]) ∧ FIts w w' (.slice A1 m c1) r.2.1 ∧ Below w.heap.size w w' := by
  obtain ⟨W1, g, gx, g2, hW1, hg, hgx, hg2, hbw, hq, hqx, hq2, hsz1⟩ := three_box w (.cells #[.int .i64 lim, .slice A n c] 26) (.cells #[.int .i64 x.term, .int .i64 x.round, .int .i64 x.index, .int .i64 x.token] 28) (.cells #[.int .i64 0, .slice none 0 0] 26)
  have HW := Lib.hid (And.intro hW1 (And.intro hg (And.intro hgx hg2)))
  have HE := Lib.hid (And.intro hbw (And.intro (show w.heap.size ≤ g by omega) (And.intro (show g < g2 by omega) (And.intro (show gx < g2 by omega) hsz1))))
  obtain ⟨hn, hnc, hcm⟩ := h.len_
  have HI := Lib.hid (And.intro (h.below hbw) (And.intro hn (And.intro hl0 hx)))
  have HCL := Lib.hid (show ∀ W, Below g2 W1 W → (W.cell? ⟨g, 0, none⟩ = some (.int .i64 lim) ∧ W.cell? ⟨g, 1, none⟩ = some (.slice A n c)) ∧ W.cell? ⟨gx, 0, none⟩ = some (.int .i64 x.term) ∧ W.cell? ⟨gx, 1, none⟩ = some (.int .i64 x.round) ∧ W.cell? ⟨gx, 2, none⟩ = some (.int .i64 x.index) ∧ W.cell? ⟨gx, 3, none⟩ = some (.int .i64 x.token) from fun W hW => ⟨cells2 ((hW.block g (by omega)).trans hq), cells4 ((hW.block gx (by omega)).trans hqx)⟩)
  have HQ2 := Lib.hid (show ∀ W, Below W1.heap.size W1 W → W.heap[g2]? = some (.cells #[.int .i64 0, .slice none 0 0] 26 (0, 0)) from fun W hW => (hW.block g2 (obj_lt hq2)).trans hq2)
  have H21 := Lib.hid (show ∀ W, Below W1.heap.size W1 W → Below g2 W1 W from fun W hW => hW.mono (by omega))
  have hres : Try.f6.results = #[.cell 4 26, .tmp 5] := by kernel_rfl
  obtain ⟨⟨x0, x1⟩, y0, y1, y2, y3⟩ := HCL.out W1 (Below.refl _ _)
  have CM := Lib.hid fun b hb => may_any lim l A n c W1 HI.out.1 b hb
  have CX := Lib.hid fun W => itemMay_any x W _ rfl
  have in1 : (n : Int) ≤ 9223372036854775807 := by omega
  rcases addQ_cases' lim l x with ⟨c1, hf⟩ | ⟨c1, c2, hf⟩ | ⟨c1, c2, c3, hf⟩ | ⟨c1, c2, c3, hf⟩
  case inl | inr.inl | inr.inr.inl =>
    have CM := Lib.hid (CM.out _ c1.symm)
    obtain rfl := hr.trans hf
    obtain rfl : m = 0 := hm
    first | rw [← hn] at c3 | skip
    clear h hx hl0 hW1 hg hgx hg2 hq2 hsz1 hbw hq hqx hr hf hn hnc hcm c1
    go_enter Try.func6, Try.ntmps6
    go_upto_region 1 with fail
    rw [← HW.out.1, ← HW.out.2.1, ← HW.out.2.2.1, ← HW.out.2.2.2]
    go_wp2_with (first
      | (go_at_call 14; go_must (refine CM.out.mono ?_; rintro y w1 ⟨rfl, hb1⟩; obtain ⟨⟨x0, x1⟩, y0, y1, y2, y3⟩ := HCL.out w1 (H21.out w1 hb1); have hq2 := HQ2.out w1 hb1; obtain ⟨z0, z1⟩ := cells2 hq2; have f0 := frozen_own hq2 0; have f1 := frozen_own hq2 1; have HB := Lib.hid (And.intro hb1 hq2); clear hb1 hq2))
      | (go_at_call 15; go_must (refine (CX.out _).mono ?_; rintro y w2 ⟨rfl, hb2⟩; have hb1 := HB.out.1.trans (hb2.mono HB.out.1.size); obtain ⟨⟨x0, x1⟩, y0, y1, y2, y3⟩ := HCL.out w2 (H21.out w2 hb1); have hq2 := HQ2.out w2 hb1; obtain ⟨z0, z1⟩ := cells2 hq2; have f0 := frozen_own hq2 0; have f1 := frozen_own hq2 1; have HB := Lib.hid (And.intro hb1 hq2); clear hb1 hq2)))
    obtain ⟨WF, hWF, u0, u1, hbF, hoth, hsz2⟩ := queRes (b0 := .int .i64 0) (b1 := .slice none 0 0) HB.out.2 (HE.out.1.trans (HB.out.1.mono HE.out.1.size)) (show w.heap.size ≤ g2 by have := HE.out; omega)
    unfold put2 at hWF
    rw [hWF]
    have HBF := Lib.hid hbF
    clear hbF hoth hsz2 hWF x0 x1 y0 y1 y2 y3 z0 z1 f0 f1
    refine bodyPost_ret (v := .tuple #[.agg #[.int .i64 0, .slice none 0 0], er _]) ?_ rfl ⟨none, 0, rfl, FIts.nil_ _ _, HBF.out⟩
    simp only [results, hres]
    go_simp
    try rfl
  · have CM := Lib.hid (CM.out _ c1.symm)
    obtain rfl := hr.trans hf
    have hmn : m = n + 1 := by rw [hm]; simp [hn]
    rw [← hn] at c3
    have HM := Lib.hid (And.intro hmn hm)
    have CC := Lib.hid fun W hW => CloneQ_any A n c l W (HI.out.1.below hW) hl0
    clear h hx hl0 hW1 hg hgx hg2 hq2 hsz1 hbw hq hqx hr hf hn hcm c1 hm hmn
    go_enter Try.func6, Try.ntmps6
    go_upto_region 1 with fail
    rw [← HW.out.1, ← HW.out.2.1, ← HW.out.2.2.1, ← HW.out.2.2.2]
    go_upto_region 5 with (first
      | (go_at_call 14; go_must (refine CM.out.mono ?_; rintro y w1 ⟨rfl, hb1⟩; obtain ⟨⟨x0, x1⟩, y0, y1, y2, y3⟩ := HCL.out w1 (H21.out w1 hb1); have HB := Lib.hid hb1; clear hb1))
      | (go_at_call 15; go_must (refine (CX.out _).mono ?_; rintro y w2 ⟨rfl, hb2⟩; have hb1 := HB.out.trans (hb2.mono HB.out.size); obtain ⟨⟨x0, x1⟩, y0, y1, y2, y3⟩ := HCL.out w2 (H21.out w2 hb1); have HB := Lib.hid hb1; clear hb1)))
    have hd0 : Below g2 W1 w2.drew := H21.out _ HB.out.drew
    have HD := Lib.hid HB.out.drew
    refine wp_region_held_drew (S := fun W => Below g2 W1 W) (by kernel_rfl) hd0 (fun hHeld => ?_)
    clear x0 x1 y0 y1 y2 y3 hd0
    obtain ⟨V0, hV0⟩ : ∃ V, V = w2.drew := ⟨_, rfl⟩
    rw [← hV0] at HD hHeld ⊢
    clear hV0
    refine wpAnyH_take (i := 0) (oi := { dst := Option.some 26, op := Op.fieldAddr 26 (Operand.tmp 2) 0, type := 0, pos := "read.go:37", after := #[], guard := Option.none }) (v := .pointer (some ⟨g, 0, none⟩)) rfl (by kernel_rfl) (by kernel_rfl) (by kernel_rfl) (fun _ _ _ h => h) (Or.inl ⟨by rfl, ?_⟩) hHeld ?_
    · intro W hSw
      obtain ⟨⟨x0, x1⟩, y0, y1, y2, y3⟩ := HCL.out _ hSw
      go_simp
    simp only [Act.put, List.setIfInBounds_toArray, List.set_cons_zero, List.set_cons_succ]
    refine wpAnyH_take (i := 1) (oi := { dst := Option.some 27, op := Op.load 3 (Operand.tmp 26), type := 3, pos := "read.go:37", after := #[{ on := 0, ground := Ground.data }], guard := Option.none }) (v := .int .i64 lim) rfl (by kernel_rfl) (by kernel_rfl) (by kernel_rfl) (fun _ _ _ h => h) (Or.inl ⟨by rfl, ?_⟩) hHeld ?_
    · intro W hSw
      obtain ⟨⟨x0, x1⟩, y0, y1, y2, y3⟩ := HCL.out _ hSw
      go_simp
    simp only [Act.put, List.setIfInBounds_toArray, List.set_cons_zero, List.set_cons_succ]
    refine wpAnyH_take (i := 2) (oi := { dst := Option.some 28, op := Op.fieldAddr 26 (Operand.tmp 2) 1, type := 0, pos := "read.go:37", after := #[], guard := Option.none }) (v := .pointer (some ⟨g, 1, none⟩)) rfl (by kernel_rfl) (by kernel_rfl) (by kernel_rfl) (fun _ _ _ h => h) (Or.inl ⟨by rfl, ?_⟩) hHeld ?_
    · intro W hSw
      obtain ⟨⟨x0, x1⟩, y0, y1, y2, y3⟩ := HCL.out _ hSw
      go_simp
    simp only [Act.put, List.setIfInBounds_toArray, List.set_cons_zero, List.set_cons_succ]
    refine wpAnyH_take (i := 3) (oi := { dst := Option.some 29, op := Op.load 24 (Operand.tmp 28), type := 24, pos := "read.go:37", after := #[{ on := 2, ground := Ground.data }], guard := Option.none }) (v := .slice A n c) rfl (by kernel_rfl) (by kernel_rfl) (by kernel_rfl) (fun _ _ _ h => h) (Or.inl ⟨by rfl, ?_⟩) hHeld ?_
    · intro W hSw
      obtain ⟨⟨x0, x1⟩, y0, y1, y2, y3⟩ := HCL.out _ hSw
      go_simp
    simp only [Act.put, List.setIfInBounds_toArray, List.set_cons_zero, List.set_cons_succ]
    refine wpAnyH_take (i := 5) (oi := { dst := Option.some 31, op := Op.load 28 (Operand.tmp 3), type := 28, pos := "read.go:37", after := #[], guard := Option.none }) (v := .agg #[.int .i64 x.term, .int .i64 x.round, .int .i64 x.index, .int .i64 x.token]) rfl (by kernel_rfl) (by kernel_rfl) (by kernel_rfl) (fun _ _ _ h => h) (Or.inl ⟨by rfl, ?_⟩) hHeld ?_
    · intro W hSw
      obtain ⟨⟨x0, x1⟩, y0, y1, y2, y3⟩ := HCL.out _ hSw
      go_simp
    simp only [Act.put, List.setIfInBounds_toArray, List.set_cons_zero, List.set_cons_succ]
    refine wpAnyH_ready (rs := [4, 6]) (by kernel_rfl) (by simp) ?_
    refine AllReadyH.cons (o := { dst := Option.some 30, op := Op.call { callee := Callee.value (Operand.func 16), args := #[Operand.tmp 29], argTypes := #[24] }, type := 24, pos := "read.go:37", after := #[{ on := 3, ground := Ground.data }], guard := Option.none }) rfl (fun K hK => ?o1) (AllReadyH.cons (o := { dst := Option.some 32, op := Op.buildSlice 24 1 #[(0, Operand.tmp 31)], type := 24, pos := "read.go:37", after := #[{ on := 5, ground := Ground.data }], guard := Option.none }) rfl (fun K hK => ?o2) AllReadyH.nil)
    case' o1 =>
      go_simp
      refine (CC.out _ HD.out).mono ?_
      rintro y w3 ⟨A3, c3, rfl, ho3, hb3⟩
      have B3 : Below W1.heap.size W1 w3 := HD.out.trans (hb3.mono HD.out.size)
      have H3 := Lib.hid (And.intro ho3 (And.intro hb3 B3))
      refine hK.out _ _ (H21.out _ B3) (fun hHeld2 => ?_)
      clear hK K hHeld ho3 hb3 B3
      refine wpAnyH_ready (rs := [6]) (by kernel_rfl) (by simp) ?_
      refine AllReadyH.cons (o := { dst := Option.some 32, op := Op.buildSlice 24 1 #[(0, Operand.tmp 31)], type := 24, pos := "read.go:37", after := #[{ on := 5, ground := Ground.data }], guard := Option.none }) rfl (fun K hK => ?_) AllReadyH.nil
      go_simp
      obtain ⟨W4, g4, hW4, hg4, hb4, hq4, hsz4⟩ := one_box w3 (.cells #[.int .i64 x.term, .int .i64 x.round, .int .i64 x.index, .int .i64 x.token] 28)
      rw [← hW4, ← hg4]
      have B4 : Below W1.heap.size W1 W4 := H3.out.2.2.trans (hb4.mono H3.out.2.2.size)
      have H4 : Hid (∃ B, W1.heap.size ≤ B ∧ B ≤ W4.heap.size ∧ OwnI W4 B 28 (.slice A3 n c3) l ∧ W4.heap[g4]? = some (.cells #[.int .i64 x.term, .int .i64 x.round, .int .i64 x.index, .int .i64 x.token] 28 (0, 0)) ∧ Below W1.heap.size W1 W4) :=
        Lib.hid ⟨V0.heap.size, HD.out.size, by have := H3.out.2.1.size; have := hb4.size; omega, H3.out.1.more hb4, hq4, B4⟩
      refine hK.out _ _ (H21.out _ B4) (fun hHeld => ?_)
      clear hK K hHeld2 hW4 hg4 hb4 hq4 hsz4 B4 H3
    case' o2 =>
      go_simp
      obtain ⟨W3, g4, hW4, hg4, hb4, hq4, hsz4⟩ := one_box V0 (.cells #[.int .i64 x.term, .int .i64 x.round, .int .i64 x.index, .int .i64 x.token] 28)
      rw [← hW4, ← hg4]
      have B3 : Below W1.heap.size W1 W3 := HD.out.trans (hb4.mono HD.out.size)
      have H3 := Lib.hid (And.intro hq4 (And.intro hg4 (And.intro hsz4 B3)))
      refine hK.out _ _ (H21.out _ B3) (fun hHeld2 => ?_)
      clear hK K hHeld hW4 hg4 hb4 hq4 hsz4
      refine wpAnyH_ready (rs := [4]) (by kernel_rfl) (by simp) ?_
      refine AllReadyH.cons (o := { dst := Option.some 30, op := Op.call { callee := Callee.value (Operand.func 16), args := #[Operand.tmp 29], argTypes := #[24] }, type := 24, pos := "read.go:37", after := #[{ on := 3, ground := Ground.data }], guard := Option.none }) rfl (fun K hK => ?_) AllReadyH.nil
      go_simp
      refine (CC.out _ B3).mono ?_
      rintro y W4 ⟨A3, c3, rfl, ho3, hb3⟩
      have B4 : Below W1.heap.size W1 W4 := H3.out.2.2.2.trans (hb3.mono H3.out.2.2.2.size)
      have H4 : Hid (∃ B, W1.heap.size ≤ B ∧ B ≤ W4.heap.size ∧ OwnI W4 B 28 (.slice A3 n c3) l ∧ W4.heap[g4]? = some (.cells #[.int .i64 x.term, .int .i64 x.round, .int .i64 x.index, .int .i64 x.token] 28 (0, 0)) ∧ Below W1.heap.size W1 W4) :=
        Lib.hid ⟨W3.heap.size, H3.out.2.2.2.size, hb3.size, ho3, (hb3.block g4 (obj_lt H3.out.1)).trans H3.out.1, B4⟩
      refine hK.out _ _ (H21.out _ B4) (fun hHeld => ?_)
      clear hK K hHeld2 ho3 hb3 B3 B4 H3
    all_goals
      obtain ⟨B, hB1, hB2, ho, hq4, hb4⟩ := H4.out
      have HB1 := Lib.hid (And.intro hB1 (And.intro hB2 hb4))
      clear H4 hB1 hb4
      refine wpAnyH_ready (rs := [7]) (by kernel_rfl) (by simp) ?_
      refine AllReadyH.cons (o := { dst := Option.some 33, op := Op.call { callee := Callee.builtin Builtin.append, args := #[Operand.tmp 30, Operand.tmp 32], argTypes := #[24, 24] }, type := 24, pos := "read.go:37", after := #[{ on := 4, ground := Ground.data }, { on := 6, ground := Ground.data }, { on := 4, ground := Ground.chain }], guard := Option.none }) rfl (fun K hK => ?_) AllReadyH.nil
      refine step_op' rfl (wp_pushIt ho (.tmp 30) (.tmp 32) 24 Try.underlying24 info_it rfl rfl g4 x rfl hq4 (by have := HI.out.2.2.1; omega) hB2 ?_)
      intro v5 w5 ho5 hg5 how5
      obtain ⟨A5, c5, rfl, -, -⟩ := ho5.form (j := m) (by rw [HM.out.1, List.length_append, HI.out.2.1]; rfl)
      have hb5 : Below W1.heap.size W1 w5 := HB1.out.2.2.grown hg5 HB1.out.2.2.size fun k hk => by have := (ho.lt k hk).1; have := HB1.out.1; omega
      have H5 := Lib.hid (And.intro ho5 hb5)
      refine hK.out _ _ (H21.out _ hb5) (fun hHeld2 => ?_)
      clear hK K hHeld ho5 hg5 how5 hq4 hB2 ho
      have hHeld := hHeld2
      clear hHeld2
      simp only [Act.put, List.setIfInBounds_toArray, List.set_cons_zero, List.set_cons_succ]
      refine wpAnyH_take (i := 8) (oi := { dst := Option.some 34, op := Op.build 26 #[(0, Operand.tmp 27), (1, Operand.tmp 33)], type := 26, pos := "read.go:37", after := #[{ on := 1, ground := Ground.data }, { on := 7, ground := Ground.data }], guard := Option.none }) (v := .agg #[.int .i64 lim, .slice A5 m c5]) rfl (by kernel_rfl) (by kernel_rfl) (by kernel_rfl) (fun _ _ _ h => h) (Or.inl ⟨by rfl, ?_⟩) hHeld ?_
      · intro W hSw
        go_simp
      simp only [Act.put, List.setIfInBounds_toArray, List.set_cons_zero, List.set_cons_succ]
      have hS := HQ2.out _ hb5
      clear hb5
      obtain ⟨z0, z1⟩ := cells2 hS
      have f0 := frozen_own hS 0
      have f1 := frozen_own hS 1
      refine wpAnyH_ready (rs := [9]) (by kernel_rfl) (by simp) ?_
      refine AllReadyH.cons (o := { dst := Option.none, op := Op.store 26 (Operand.tmp 4) (Operand.tmp 34), type := 0, pos := "read.go:37", after := #[{ on := 8, ground := Ground.data }, { on := 7, ground := Ground.chain }, { on := 0, ground := Ground.phase }, { on := 1, ground := Ground.phase }, { on := 2, ground := Ground.phase }, { on := 3, ground := Ground.phase }, { on := 4, ground := Ground.phase }, { on := 5, ground := Ground.phase }, { on := 6, ground := Ground.phase }, { on := 7, ground := Ground.phase }, { on := 8, ground := Ground.phase }], guard := Option.none }) rfl (fun K hK => ?_) AllReadyH.nil
      go_simp
      obtain ⟨WF, hWF, u0, u1, hbF, hoth, hsz2⟩ := queRes (b0 := .int .i64 lim) (b1 := .slice A5 m c5) hS (H21.out _ H5.out.2) (Nat.le_refl g2)
      unfold put2 at hWF
      rw [hWF]
      refine hK.out _ _ hbF (fun hHeld2 => ?_)
      have HF := Lib.hid (And.intro hbF (And.intro hoth hsz2))
      clear hK K hHeld hbF hoth hsz2 hWF z0 z1 f0 f1 hS
      have hHeld := hHeld2
      clear hHeld2
      refine wpAnyH_take (i := 10) (oi := { dst := Option.some 5, op := Op.assign (Operand.const Value.nilIface), type := 31, pos := "read.go:37", after := #[{ on := 9, ground := Ground.chain }, { on := 0, ground := Ground.phase }, { on := 1, ground := Ground.phase }, { on := 2, ground := Ground.phase }, { on := 3, ground := Ground.phase }, { on := 4, ground := Ground.phase }, { on := 5, ground := Ground.phase }, { on := 6, ground := Ground.phase }, { on := 7, ground := Ground.phase }, { on := 8, ground := Ground.phase }, { on := 9, ground := Ground.phase }], guard := Option.none }) (v := .nilIface) rfl (by kernel_rfl) (by kernel_rfl) (by kernel_rfl) (fun _ _ _ h => h) (Or.inl ⟨by rfl, ?_⟩) hHeld ?_
      · intro W hSw
        go_simp
      simp only [Act.put, List.setIfInBounds_toArray, List.set_cons_zero, List.set_cons_succ]
      clear hHeld
      refine wpAnyH_done (by kernel_rfl) ?_ _
      go_wp2_with fail
      refine bodyPost_ret (v := .tuple #[.agg #[.int .i64 lim, .slice A5 m c5], .nilIface]) ?_ rfl ⟨A5, c5, rfl, ⟨?_, ?_⟩, HE.out.1.trans (HF.out.1.mono (by have := HE.out; have := HE.out.1.size; omega))⟩
      · simp only [results, hres]
        go_simp
      · refine (H5.out.1.its (fun k => W1.heap.size ≤ k ∧ k < w5.heap.size) fun k hk => ?_).move (fun k hk _ => HF.out.2.1 k ?_) fun k hk => ⟨by have := HE.out.1.size; have := hk.1; omega, by rw [HF.out.2.2]; exact hk.2⟩
        · have h1 := H5.out.1.lt k hk
          exact ⟨by have := HB1.out.1; omega, h1.2⟩
        · have := hk.1
          have := HE.out
          omega
      · intro e he
        rcases List.mem_append.1 he with he | he
        · exact HI.out.1.2 e he
        · rw [List.mem_singleton.1 he]; exact HI.out.2.2.2
end Go.Proofs.Ytojejcafahighaa.pk
