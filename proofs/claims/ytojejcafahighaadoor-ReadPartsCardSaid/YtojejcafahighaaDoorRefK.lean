/-
  The document's own words of a queue: Add.
-/
import Derived.Test.YtojejcafahighaaDoorRefI
import Derived.ArgAppend
namespace Go.Proofs.YtojejcafahighaaDoor.pk
open Go Go.RowKit
set_option maxRecDepth 100000

/-- One item behind a row that is full: a new row. -/
theorem run_growIt {w : World} {t : TypeId} {T : Nat → Prop} {A : Option Addr} {n c : Nat} {l : List It} (h : ItsT w T (.slice A n c) l) (ts ty : TypeId) (hts : Tryd.prog.underlying ts = some (.slice t)) (hi : (Tryd.prog.info? t).map (fun i => (i.zero, i.size, i.bytes)) = some (some (.agg #[.int .i64 0, .int .i64 0, .int .i64 0, .int .i64 0]), 4, 32))
    (g : Nat) (x : It) (hg : w.heap[g]? = some (.cells #[.int .i64 x.term, .int .i64 x.round, .int .i64 x.index, .int .i64 x.token] t (0, 0))) (hl : l.length < 100000000) :
    ∃ v' w', (Builtin.append_ #[ts, ts] ty #[.slice A n n, .slice (some ⟨g, 0, none⟩) 1 1]).run Tryd.prog w = .ok v' w' ∧ OwnI w' w.heap.size t v' (l ++ [x]) ∧ Below w.heap.size w w' := by
  have hn := h.len_
  rcases A with _ | a
  · have hn0 : n = 0 := by
      obtain ⟨cs, hr, -⟩ := h
      by_cases h0 : n = 0
      · exact h0
      · obtain ⟨-, -, -, b, off, hA, -⟩ := hr.at_ (by omega)
        cases hA
    subst hn0
    have hl0 : l = [] := List.eq_nil_of_length_eq_zero hn.1.symm
    subst hl0
    obtain ⟨v', w', h1, h2, h3, -⟩ := run_pushIt (OwnI.nil_ w w.heap.size t) ts ty hts hi g x hg (by simp) (Nat.le_refl _)
    exact ⟨v', w', h1, h2, (Below.refl _ _).grown h3 (Nat.le_refl _) fun k hk => by cases hk⟩
  · obtain ⟨i0, hi, hz0, hz1, hz2⟩ := info_three hi
    obtain ⟨cs, hr, he⟩ := h
    have hcl : cs.length = n * 4 := by rw [hr.1, hn.1]
    have holds : ∀ j u, cs[j]? = some u → w.cell? (a.add j) = some u := fun j u hj => by
      by_cases h0 : n = 0
      · have := (List.getElem?_eq_some_iff.1 hj).1
        omega
      · obtain ⟨-, -, -, b, off, hA, -, hc⟩ := hr.at_ (by omega)
        injection hA with hA
        subst hA
        rw [Lib.add_plain]
        exact hc j u hj
    obtain ⟨v', w', hrun, h2, h3⟩ := run_append_arg_grows (P := Tryd.prog) (w := w) ts ty t i0 _ 4 32 hts hi hz0 hz1 hz2 rfl (by omega) a n n cs hcl holds ⟨g, 0, none⟩ 1 1 [.int .i64 x.term, .int .i64 x.round, .int .i64 x.index, .int .i64 x.token] rfl
      (fun j u hj => by
        rw [Lib.add_plain, Nat.zero_add, cell_of_row w g _ _ _ (0, 0) hg]
        simpa using hj) (by omega) (by simp only [maxLen]; omega) (by omega)
    refine ⟨v', w', hrun, ⟨cs ++ [.int .i64 x.term, .int .i64 x.round, .int .i64 x.index, .int .i64 x.token], by rw [List.length_append, ← hn.1]; exact h2, fun j hj => ?_⟩, (Below.refl _ _).grown h3 (Nat.le_refl _) fun k hk => by cases hk⟩
    by_cases hj' : j < l.length
    · rw [List.getElem_append_left hj']
      exact itC_append (he j hj')
    · have hjl : j = l.length := by rw [List.length_append] at hj; simp at hj; omega
      subst hjl
      rw [List.getElem_append_right (Nat.le_refl _)]
      simp only [Nat.sub_self, List.getElem_cons_zero]
      refine ⟨?_, ?_, ?_, ?_⟩
      all_goals
        rw [List.getElem?_append_right (by omega), hcl, hn.1]
        simp
theorem wp_growIt {w : World} {t : TypeId} {T : Nat → Prop} {A : Option Addr} {n c : Nat} {l : List It} {o : Oper} {a : Act} {K : Act → World → Prop} {R : Exit → Act → World → Prop} (h : ItsT w T (.slice A n c) l) (s x : Operand) (ts : TypeId) (hts : Tryd.prog.underlying ts = some (.slice t)) (hi : (Tryd.prog.info? t).map (fun i => (i.zero, i.size, i.bytes)) = some (some (.agg #[.int .i64 0, .int .i64 0, .int .i64 0, .int .i64 0]), 4, 32))
    (ho : o.op = .call { callee := .builtin .append, args := #[s, x], argTypes := #[ts, ts] }) (hs : a.eval s = .slice A n n) (g : Nat) (y : It) (hx : a.eval x = .slice (some ⟨g, 0, none⟩) 1 1)
    (hg : w.heap[g]? = some (.cells #[.int .i64 y.term, .int .i64 y.round, .int .i64 y.index, .int .i64 y.token] t (0, 0))) (hl : l.length < 100000000)
    (hK : ∀ v' w', OwnI w' w.heap.size t v' (l ++ [y]) → Below w.heap.size w w' → K (a.put o.dst v') w') : o.wp Tryd.prog a w K R := by
  obtain ⟨v', w', hrun, h1, h2⟩ := run_growIt h ts o.type hts hi g y hg hl
  unfold Oper.wp execOp
  simp only [ho, resolve, invoke, builtin, Sem.run_bind, Sem.run_pure, Result.andThen_ok, List.map_toArray, List.map_cons, List.map_nil, hs, hx, hrun]
  exact hK v' w' h1 h2
theorem three_box (w : World) (a b c : Obj) : ∃ W g0 g1 g2, W = ((w.alloc a).alloc b).alloc c ∧ g0 = w.heap.size ∧ g1 = g0 + 1 ∧ g2 = g1 + 1 ∧ Below w.heap.size w W ∧ W.heap[g0]? = some a ∧ W.heap[g1]? = some b ∧ W.heap[g2]? = some c ∧ W.heap.size = g2 + 1 := by
  obtain ⟨W0, g0, g1, hW0, h0, h1, hb0, hq0, hq1, hs0⟩ := two_box w a b
  obtain ⟨W1, g2, hW1, h2, hb1, hq2, hs1⟩ := one_box W0 c
  exact ⟨W1, g0, g1, g2, by rw [hW1, hW0], h0, h1, by omega, hb0.trans (hb1.mono hb0.size), (hb1.block g0 (obj_lt hq0)).trans hq0, (hb1.block g1 (obj_lt hq1)).trans hq1, hq2, hs1⟩
theorem step_op' {P : Program} {ops : Array Oper} {o : Oper} {a : Act} {w : World} {K : Act → World → Prop} {Q : Exit → Act → World → Prop} {E : Prop} (hgd : o.guard = none) (h : Oper.wp P o a w K Q) : if Region.wanted o (yielded ops a.tmps) = true then Oper.wp P o a w K Q else E := by
  rw [if_pos (by simp [Region.wanted, hgd])]
  exact h

theorem addQ_cases (lim : Int) (l : List It) (x : It) : (mayQ lim l = false ∧ addQ lim l x = (0, [], 1)) ∨ (mayQ lim l = true ∧ itB x = false ∧ addQ lim l x = (0, [], 1)) ∨ (mayQ lim l = true ∧ itB x = true ∧ (l.length : Int) = lim ∧ addQ lim l x = (0, [], 32)) ∨ (mayQ lim l = true ∧ itB x = true ∧ ¬ (l.length : Int) = lim ∧ addQ lim l x = (lim, l ++ [x], 0)) := by
  unfold addQ
  cases mayQ lim l with
  | false => left; simp
  | true =>
    right
    cases itB x with
    | false => left; simp
    | true =>
      right
      by_cases h : (l.length : Int) = lim
      · left; exact ⟨rfl, rfl, h, by rw [if_neg (by simp), if_pos h]⟩
      · right; exact ⟨rfl, rfl, h, by rw [if_neg (by simp), if_neg h]⟩

set_option maxHeartbeats 8000000 in
theorem Add_ref (lim : Int) (l : List It) (A : Option Addr) (n c : Nat) (x : It) (w : World) (h : Its w (.slice A n c) l) (hx : x.inI) (hl0 : l.length < 1000000) (r : Int × List It × Nat) (hr : r = addQ lim l x) (m : Nat) (hm : m = r.2.1.length) :
    Calls Tryd.prog 8 #[.agg #[.int .i64 lim, .slice A n c], .agg #[.int .i64 x.term, .int .i64 x.round, .int .i64 x.index, .int .i64 x.token]] w fun y w' => ∃ A1 c1, y = .returned (.tuple #[.agg #[.int .i64 r.1, .slice A1 m c1], .int .i64 (r.2.2 : Int)]) ∧ Its w' (.slice A1 m c1) r.2.1 ∧ Below w.heap.size w w' := by
  obtain ⟨W1, g, gx, g2, hW1, hg, hgx, hg2, hbw, hq, hqx, hq2, hsz1⟩ := three_box w (.cells #[.int .i64 lim, .slice A n c] 24) (.cells #[.int .i64 x.term, .int .i64 x.round, .int .i64 x.index, .int .i64 x.token] 26) (.cells #[.int .i64 0, .slice none 0 0] 24)
  have HW := Lib.hid (And.intro hW1 (And.intro hg (And.intro hgx hg2)))
  have HE := Lib.hid (And.intro hbw (And.intro (show w.heap.size ≤ g by omega) (And.intro (show g < g2 by omega) (And.intro (show gx < g2 by omega) hsz1))))
  obtain ⟨hn, hnc, hcm⟩ := h.len_
  have HI := Lib.hid (And.intro (h.below hbw) (And.intro hn (And.intro hl0 hx)))
  have HCL := Lib.hid (show ∀ W, Below g2 W1 W → (W.cell? ⟨g, 0, none⟩ = some (.int .i64 lim) ∧ W.cell? ⟨g, 1, none⟩ = some (.slice A n c)) ∧ W.cell? ⟨gx, 0, none⟩ = some (.int .i64 x.term) ∧ W.cell? ⟨gx, 1, none⟩ = some (.int .i64 x.round) ∧ W.cell? ⟨gx, 2, none⟩ = some (.int .i64 x.index) ∧ W.cell? ⟨gx, 3, none⟩ = some (.int .i64 x.token) from fun W hW => ⟨cells2 ((hW.block g (by omega)).trans hq), cells4 ((hW.block gx (by omega)).trans hqx)⟩)
  have HQ2 := Lib.hid (show ∀ W, Below W1.heap.size W1 W → W.heap[g2]? = some (.cells #[.int .i64 0, .slice none 0 0] 24 (0, 0)) from fun W hW => (hW.block g2 (obj_lt hq2)).trans hq2)
  have H21 := Lib.hid (show ∀ W, Below W1.heap.size W1 W → Below g2 W1 W from fun W hW => hW.mono (by omega))
  have hres : Tryd.f8.results = #[.cell 4 24, .tmp 5] := by kernel_rfl
  obtain ⟨⟨x0, x1⟩, y0, y1, y2, y3⟩ := HCL.out W1 (Below.refl _ _)
  have CM := Lib.hid fun b hb => May_ref lim l A n c W1 HI.out.1 b hb
  have CX := Lib.hid fun W => itemMay_ref x W _ rfl
  have in1 : (n : Int) ≤ 9223372036854775807 := by omega
  rcases addQ_cases lim l x with ⟨c1, hf⟩ | ⟨c1, c2, hf⟩ | ⟨c1, c2, c3, hf⟩ | ⟨c1, c2, c3, hf⟩
  case inl | inr.inl | inr.inr.inl =>
    have CM := Lib.hid (CM.out _ c1.symm)
    obtain rfl := hr.trans hf
    obtain rfl : m = 0 := hm
    first | rw [← hn] at c3 | skip
    clear h hx hl0 hW1 hg hgx hg2 hq2 hsz1 hbw hq hqx hr hf hn hnc hcm c1
    go_enter Tryd.func8, Tryd.ntmps8
    go_upto_region 1 with fail
    rw [← HW.out.1, ← HW.out.2.1, ← HW.out.2.2.1, ← HW.out.2.2.2]
    go_wp2_with (first
      | (go_at_call 13; go_must (refine CM.out.mono ?_; rintro y w1 ⟨rfl, hb1⟩; obtain ⟨⟨x0, x1⟩, y0, y1, y2, y3⟩ := HCL.out w1 (H21.out w1 hb1); have hq2 := HQ2.out w1 hb1; obtain ⟨z0, z1⟩ := cells2 hq2; have f0 := frozen_own hq2 0; have f1 := frozen_own hq2 1; have HB := Lib.hid (And.intro hb1 hq2); clear hb1 hq2))
      | (go_at_call 22; go_must (refine (CX.out _).mono ?_; rintro y w2 ⟨rfl, hb2⟩; have hb1 := HB.out.1.trans (hb2.mono HB.out.1.size); obtain ⟨⟨x0, x1⟩, y0, y1, y2, y3⟩ := HCL.out w2 (H21.out w2 hb1); have hq2 := HQ2.out w2 hb1; obtain ⟨z0, z1⟩ := cells2 hq2; have f0 := frozen_own hq2 0; have f1 := frozen_own hq2 1; have HB := Lib.hid (And.intro hb1 hq2); clear hb1 hq2)))
    obtain ⟨WF, hWF, u0, u1, hbF, hoth, hsz2⟩ := queRes (b0 := .int .i64 0) (b1 := .slice none 0 0) HB.out.2 (HE.out.1.trans (HB.out.1.mono HE.out.1.size)) (show w.heap.size ≤ g2 by have := HE.out; omega)
    unfold put2 at hWF
    rw [hWF]
    have HBF := Lib.hid hbF
    clear hbF hoth hsz2 hWF x0 x1 y0 y1 y2 y3 z0 z1 f0 f1
    refine bodyPost_ret (v := .tuple #[.agg #[.int .i64 0, .slice none 0 0], .int .i64 _]) ?_ rfl ⟨none, 0, rfl, Its.nil_ _, HBF.out⟩
    simp only [results, hres]
    go_simp
    try rfl
  · have CM := Lib.hid (CM.out _ c1.symm)
    obtain rfl := hr.trans hf
    have hmn : m = n + 1 := by rw [hm]; simp [hn]
    rw [← hn] at c3
    have HM := Lib.hid (And.intro hmn hm)
    clear h hx hl0 hW1 hg hgx hg2 hq2 hsz1 hbw hq hqx hr hf hn hcm c1 hm hmn
    go_enter Tryd.func8, Tryd.ntmps8
    go_upto_region 1 with fail
    rw [← HW.out.1, ← HW.out.2.1, ← HW.out.2.2.1, ← HW.out.2.2.2]
    go_upto_region 5 with (first
      | (go_at_call 13; go_must (refine CM.out.mono ?_; rintro y w1 ⟨rfl, hb1⟩; obtain ⟨⟨x0, x1⟩, y0, y1, y2, y3⟩ := HCL.out w1 (H21.out w1 hb1); have HB := Lib.hid hb1; clear hb1))
      | (go_at_call 22; go_must (refine (CX.out _).mono ?_; rintro y w2 ⟨rfl, hb2⟩; have hb1 := HB.out.trans (hb2.mono HB.out.size); obtain ⟨⟨x0, x1⟩, y0, y1, y2, y3⟩ := HCL.out w2 (H21.out w2 hb1); have HB := Lib.hid hb1; clear hb1)))
    have hd0 : Below g2 W1 w2.drew := H21.out _ HB.out.drew
    have HD := Lib.hid HB.out.drew
    refine wp_region_held_drew (S := fun W => Below g2 W1 W) (by kernel_rfl) hd0 (fun hHeld => ?_)
    clear x0 x1 y0 y1 y2 y3 hd0
    refine wpAnyH_take (i := 0) (oi := { dst := Option.some 22, op := Op.fieldAddr 24 (Operand.tmp 2) 0, type := 0, pos := "ref.go:44", after := #[], guard := Option.none }) (v := .pointer (some ⟨g, 0, none⟩)) rfl (by kernel_rfl) (by kernel_rfl) (by kernel_rfl) (fun _ _ _ h => h) (Or.inl ⟨by rfl, ?_⟩) hHeld ?_
    · intro W hSw
      obtain ⟨⟨x0, x1⟩, y0, y1, y2, y3⟩ := HCL.out _ hSw
      go_simp
    simp only [Act.put, List.setIfInBounds_toArray, List.set_cons_zero, List.set_cons_succ]
    refine wpAnyH_take (i := 1) (oi := { dst := Option.some 23, op := Op.load 3 (Operand.tmp 22), type := 3, pos := "ref.go:44", after := #[{ on := 0, ground := Ground.data }], guard := Option.none }) (v := .int .i64 lim) rfl (by kernel_rfl) (by kernel_rfl) (by kernel_rfl) (fun _ _ _ h => h) (Or.inl ⟨by rfl, ?_⟩) hHeld ?_
    · intro W hSw
      obtain ⟨⟨x0, x1⟩, y0, y1, y2, y3⟩ := HCL.out _ hSw
      go_simp
    simp only [Act.put, List.setIfInBounds_toArray, List.set_cons_zero, List.set_cons_succ]
    refine wpAnyH_take (i := 2) (oi := { dst := Option.some 24, op := Op.fieldAddr 24 (Operand.tmp 2) 1, type := 0, pos := "ref.go:44", after := #[], guard := Option.none }) (v := .pointer (some ⟨g, 1, none⟩)) rfl (by kernel_rfl) (by kernel_rfl) (by kernel_rfl) (fun _ _ _ h => h) (Or.inl ⟨by rfl, ?_⟩) hHeld ?_
    · intro W hSw
      obtain ⟨⟨x0, x1⟩, y0, y1, y2, y3⟩ := HCL.out _ hSw
      go_simp
    simp only [Act.put, List.setIfInBounds_toArray, List.set_cons_zero, List.set_cons_succ]
    refine wpAnyH_take (i := 3) (oi := { dst := Option.some 25, op := Op.load 22 (Operand.tmp 24), type := 22, pos := "ref.go:44", after := #[{ on := 2, ground := Ground.data }], guard := Option.none }) (v := .slice A n c) rfl (by kernel_rfl) (by kernel_rfl) (by kernel_rfl) (fun _ _ _ h => h) (Or.inl ⟨by rfl, ?_⟩) hHeld ?_
    · intro W hSw
      obtain ⟨⟨x0, x1⟩, y0, y1, y2, y3⟩ := HCL.out _ hSw
      go_simp
    simp only [Act.put, List.setIfInBounds_toArray, List.set_cons_zero, List.set_cons_succ]
    refine wpAnyH_take (i := 4) (oi := { dst := Option.some 26, op := Op.fieldAddr 24 (Operand.tmp 2) 1, type := 0, pos := "ref.go:44", after := #[], guard := Option.none }) (v := .pointer (some ⟨g, 1, none⟩)) rfl (by kernel_rfl) (by kernel_rfl) (by kernel_rfl) (fun _ _ _ h => h) (Or.inl ⟨by rfl, ?_⟩) hHeld ?_
    · intro W hSw
      obtain ⟨⟨x0, x1⟩, y0, y1, y2, y3⟩ := HCL.out _ hSw
      go_simp
    simp only [Act.put, List.setIfInBounds_toArray, List.set_cons_zero, List.set_cons_succ]
    refine wpAnyH_take (i := 5) (oi := { dst := Option.some 27, op := Op.load 22 (Operand.tmp 26), type := 22, pos := "ref.go:44", after := #[{ on := 4, ground := Ground.data }], guard := Option.none }) (v := .slice A n c) rfl (by kernel_rfl) (by kernel_rfl) (by kernel_rfl) (fun _ _ _ h => h) (Or.inl ⟨by rfl, ?_⟩) hHeld ?_
    · intro W hSw
      obtain ⟨⟨x0, x1⟩, y0, y1, y2, y3⟩ := HCL.out _ hSw
      go_simp
    simp only [Act.put, List.setIfInBounds_toArray, List.set_cons_zero, List.set_cons_succ]
    refine wpAnyH_take (i := 6) (oi := { dst := Option.some 28, op := Op.call { callee := Callee.builtin Builtin.len, args := #[Operand.tmp 27], argTypes := #[22] }, type := 3, pos := "ref.go:44", after := #[{ on := 5, ground := Ground.data }], guard := Option.none }) (v := .int .i64 (n : Int)) rfl (by kernel_rfl) (by kernel_rfl) (by kernel_rfl) (fun _ _ _ h => h) (Or.inl ⟨by rfl, ?_⟩) hHeld ?_
    · intro W hSw
      obtain ⟨⟨x0, x1⟩, y0, y1, y2, y3⟩ := HCL.out _ hSw
      go_simp
    simp only [Act.put, List.setIfInBounds_toArray, List.set_cons_zero, List.set_cons_succ]
    refine wpAnyH_take (i := 7) (oi := { dst := Option.some 29, op := Op.fieldAddr 24 (Operand.tmp 2) 1, type := 0, pos := "ref.go:44", after := #[], guard := Option.none }) (v := .pointer (some ⟨g, 1, none⟩)) rfl (by kernel_rfl) (by kernel_rfl) (by kernel_rfl) (fun _ _ _ h => h) (Or.inl ⟨by rfl, ?_⟩) hHeld ?_
    · intro W hSw
      obtain ⟨⟨x0, x1⟩, y0, y1, y2, y3⟩ := HCL.out _ hSw
      go_simp
    simp only [Act.put, List.setIfInBounds_toArray, List.set_cons_zero, List.set_cons_succ]
    refine wpAnyH_take (i := 8) (oi := { dst := Option.some 30, op := Op.load 22 (Operand.tmp 29), type := 22, pos := "ref.go:44", after := #[{ on := 7, ground := Ground.data }], guard := Option.none }) (v := .slice A n c) rfl (by kernel_rfl) (by kernel_rfl) (by kernel_rfl) (fun _ _ _ h => h) (Or.inl ⟨by rfl, ?_⟩) hHeld ?_
    · intro W hSw
      obtain ⟨⟨x0, x1⟩, y0, y1, y2, y3⟩ := HCL.out _ hSw
      go_simp
    simp only [Act.put, List.setIfInBounds_toArray, List.set_cons_zero, List.set_cons_succ]
    refine wpAnyH_take (i := 9) (oi := { dst := Option.some 31, op := Op.call { callee := Callee.builtin Builtin.len, args := #[Operand.tmp 30], argTypes := #[22] }, type := 3, pos := "ref.go:44", after := #[{ on := 8, ground := Ground.data }], guard := Option.none }) (v := .int .i64 (n : Int)) rfl (by kernel_rfl) (by kernel_rfl) (by kernel_rfl) (fun _ _ _ h => h) (Or.inl ⟨by rfl, ?_⟩) hHeld ?_
    · intro W hSw
      obtain ⟨⟨x0, x1⟩, y0, y1, y2, y3⟩ := HCL.out _ hSw
      go_simp
    simp only [Act.put, List.setIfInBounds_toArray, List.set_cons_zero, List.set_cons_succ]
    refine wpAnyH_take (i := 10) (oi := { dst := Option.some 32, op := Op.slice 22 (Operand.tmp 25) Option.none (Option.some (Operand.tmp 28)) (Option.some (Operand.tmp 31)), type := 22, pos := "ref.go:44", after := #[{ on := 3, ground := Ground.data }, { on := 6, ground := Ground.data }, { on := 9, ground := Ground.data }], guard := Option.none }) (v := .slice A n n) rfl (by kernel_rfl) (by kernel_rfl) (by kernel_rfl) (fun _ _ _ h => h) (Or.inl ⟨by rfl, ?_⟩) hHeld ?_
    · intro W hSw
      obtain ⟨⟨x0, x1⟩, y0, y1, y2, y3⟩ := HCL.out _ hSw
      go_simp
    simp only [Act.put, List.setIfInBounds_toArray, List.set_cons_zero, List.set_cons_succ]
    refine wpAnyH_take (i := 11) (oi := { dst := Option.some 33, op := Op.load 26 (Operand.tmp 3), type := 26, pos := "ref.go:44", after := #[], guard := Option.none }) (v := .agg #[.int .i64 x.term, .int .i64 x.round, .int .i64 x.index, .int .i64 x.token]) rfl (by kernel_rfl) (by kernel_rfl) (by kernel_rfl) (fun _ _ _ h => h) (Or.inl ⟨by rfl, ?_⟩) hHeld ?_
    · intro W hSw
      obtain ⟨⟨x0, x1⟩, y0, y1, y2, y3⟩ := HCL.out _ hSw
      go_simp
    simp only [Act.put, List.setIfInBounds_toArray, List.set_cons_zero, List.set_cons_succ]
    refine wpAnyH_ready (rs := [12]) (by kernel_rfl) (by simp) ?_
    refine AllReadyH.cons (o := { dst := Option.some 34, op := Op.buildSlice 22 1 #[(0, Operand.tmp 33)], type := 22, pos := "ref.go:44", after := #[{ on := 11, ground := Ground.data }], guard := Option.none }) rfl (fun K hK => ?_) AllReadyH.nil
    go_simp
    obtain ⟨W3, g3, hW3, hg3, hb3, hq3, hsz3⟩ := one_box w2 (.cells #[.int .i64 x.term, .int .i64 x.round, .int .i64 x.index, .int .i64 x.token] 26)
    rw [← hW3, ← hg3]
    obtain ⟨W3d, hW3d⟩ : ∃ W, W = W3.drew := ⟨_, rfl⟩
    have hb3' : Below W1.heap.size W1 W3d := by rw [hW3d]; exact (HB.out.trans (hb3.mono HB.out.size)).drew
    have hq3 : W3d.heap[g3]? = some (.cells #[.int .i64 x.term, .int .i64 x.round, .int .i64 x.index, .int .i64 x.token] 26 (0, 0)) := by rw [hW3d]; exact hq3
    rw [← hW3d]
    have hit := (HI.out.1.below hb3').1
    have H3 := Lib.hid (And.intro hb3' (And.intro hq3 (And.intro hg3 hit)))
    refine hK.out _ _ (H21.out _ hb3') (fun hHeld2 => ?_)
    clear hK K hHeld hW3 hg3 hb3 hq3 hsz3 hb3' hit hW3d
    have hHeld := hHeld2
    clear hHeld2
    refine wpAnyH_ready (rs := [13]) (by kernel_rfl) (by simp) ?_
    refine AllReadyH.cons (o := { dst := Option.some 35, op := Op.call { callee := Callee.builtin Builtin.append, args := #[Operand.tmp 32, Operand.tmp 34], argTypes := #[22, 22] }, type := 22, pos := "ref.go:44", after := #[{ on := 10, ground := Ground.data }, { on := 12, ground := Ground.data }], guard := Option.none }) rfl (fun K hK => ?_) AllReadyH.nil
    refine step_op' rfl (wp_growIt H3.out.2.2.2 (.tmp 32) (.tmp 34) 22 Tryd.underlying22 info_itr rfl rfl g3 x rfl H3.out.2.1 (by have := HI.out.2.2.1; omega) ?_)
    intro v4 w4 ho4 hb4
    obtain ⟨A4, c4, rfl, -, -⟩ := ho4.form (j := m) (by rw [HM.out.1, List.length_append, HI.out.2.1]; rfl)
    have hb4' : Below W1.heap.size W1 w4 := H3.out.1.trans (hb4.mono H3.out.1.size)
    have H4 := Lib.hid (And.intro ho4 hb4')
    refine hK.out _ _ (H21.out _ hb4') (fun hHeld2 => ?_)
    clear hK K hHeld ho4 hb4
    have hHeld := hHeld2
    clear hHeld2
    simp only [Act.put, List.setIfInBounds_toArray, List.set_cons_zero, List.set_cons_succ]
    refine wpAnyH_take (i := 14) (oi := { dst := Option.some 36, op := Op.build 24 #[(0, Operand.tmp 23), (1, Operand.tmp 35)], type := 24, pos := "ref.go:44", after := #[{ on := 1, ground := Ground.data }, { on := 13, ground := Ground.data }], guard := Option.none }) (v := .agg #[.int .i64 lim, .slice A4 m c4]) rfl (by kernel_rfl) (by kernel_rfl) (by kernel_rfl) (fun _ _ _ h => h) (Or.inl ⟨by rfl, ?_⟩) hHeld ?_
    · intro W hSw
      go_simp
    simp only [Act.put, List.setIfInBounds_toArray, List.set_cons_zero, List.set_cons_succ]
    have hS := HQ2.out _ hb4'
    clear hb4'
    obtain ⟨z0, z1⟩ := cells2 hS
    have f0 := frozen_own hS 0
    have f1 := frozen_own hS 1
    refine wpAnyH_ready (rs := [15]) (by kernel_rfl) (by simp) ?_
    refine AllReadyH.cons (o := { dst := Option.none, op := Op.store 24 (Operand.tmp 4) (Operand.tmp 36), type := 0, pos := "ref.go:44", after := #[{ on := 14, ground := Ground.data }, { on := 13, ground := Ground.chain }, { on := 0, ground := Ground.phase }, { on := 1, ground := Ground.phase }, { on := 2, ground := Ground.phase }, { on := 3, ground := Ground.phase }, { on := 4, ground := Ground.phase }, { on := 5, ground := Ground.phase }, { on := 6, ground := Ground.phase }, { on := 7, ground := Ground.phase }, { on := 8, ground := Ground.phase }, { on := 9, ground := Ground.phase }, { on := 10, ground := Ground.phase }, { on := 11, ground := Ground.phase }, { on := 12, ground := Ground.phase }, { on := 13, ground := Ground.phase }, { on := 14, ground := Ground.phase }], guard := Option.none }) rfl (fun K hK => ?_) AllReadyH.nil
    go_simp
    obtain ⟨WF, hWF, u0, u1, hbF, hoth, hsz2⟩ := queRes (b0 := .int .i64 lim) (b1 := .slice A4 m c4) hS (H21.out _ H4.out.2) (Nat.le_refl g2)
    unfold put2 at hWF
    rw [hWF]
    refine hK.out _ _ hbF (fun hHeld2 => ?_)
    have HF := Lib.hid (And.intro hbF (And.intro hoth hsz2))
    clear hK K hHeld hbF hoth hsz2 hWF z0 z1 f0 f1 hS
    have hHeld := hHeld2
    clear hHeld2
    refine wpAnyH_take (i := 16) (oi := { dst := Option.some 5, op := Op.assign (Operand.const (Value.int IntKind.i64 0)), type := 3, pos := "ref.go:44", after := #[{ on := 15, ground := Ground.chain }, { on := 0, ground := Ground.phase }, { on := 1, ground := Ground.phase }, { on := 2, ground := Ground.phase }, { on := 3, ground := Ground.phase }, { on := 4, ground := Ground.phase }, { on := 5, ground := Ground.phase }, { on := 6, ground := Ground.phase }, { on := 7, ground := Ground.phase }, { on := 8, ground := Ground.phase }, { on := 9, ground := Ground.phase }, { on := 10, ground := Ground.phase }, { on := 11, ground := Ground.phase }, { on := 12, ground := Ground.phase }, { on := 13, ground := Ground.phase }, { on := 14, ground := Ground.phase }, { on := 15, ground := Ground.phase }], guard := Option.none }) (v := .int .i64 0) rfl (by kernel_rfl) (by kernel_rfl) (by kernel_rfl) (fun _ _ _ h => h) (Or.inl ⟨by rfl, ?_⟩) hHeld ?_
    · intro W hSw
      go_simp
    simp only [Act.put, List.setIfInBounds_toArray, List.set_cons_zero, List.set_cons_succ]
    clear hHeld
    refine wpAnyH_done (by kernel_rfl) ?_ _
    go_wp2_with fail
    refine bodyPost_ret (v := .tuple #[.agg #[.int .i64 lim, .slice A4 m c4], .int .i64 0]) ?_ rfl ⟨A4, c4, rfl, ⟨?_, ?_⟩, HE.out.1.trans (HF.out.1.mono (by have := HE.out; have := HE.out.1.size; omega))⟩
    · simp only [results, hres]
      go_simp
    · refine (H4.out.1.its (fun k => W1.heap.size ≤ k ∧ k < w4.heap.size) fun k hk => ?_).move (fun k hk _ => HF.out.2.1 k ?_) fun k hk => by rw [HF.out.2.2]; exact hk.2
      · have h1 := H4.out.1.lt k hk
        exact ⟨Nat.le_trans H3.out.1.size h1.1, h1.2⟩
      · have := hk.1
        have := HE.out
        omega
    · intro e he
      rcases List.mem_append.1 he with he | he
      · exact HI.out.1.2 e he
      · rw [List.mem_singleton.1 he]; exact HI.out.2.2.2

end Go.Proofs.YtojejcafahighaaDoor.pk
