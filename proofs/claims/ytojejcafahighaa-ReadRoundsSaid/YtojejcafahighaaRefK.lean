/-
  The document's own words of a queue: Add.
-/
import Derived.Test.YtojejcafahighaaRefI
import Derived.ArgAppend
namespace Go.Proofs.Ytojejcafahighaa.pk
open Go Go.RowKit
set_option maxRecDepth 100000

/-- One item behind a row that is full: a new row. -/
theorem run_growIt {w : World} {t : TypeId} {T : Nat → Prop} {A : Option Addr} {n c : Nat} {l : List It} (h : ItsT w T (.slice A n c) l) (ts ty : TypeId) (hts : Try.prog.underlying ts = some (.slice t)) (hi : (Try.prog.info? t).map (fun i => (i.zero, i.size, i.bytes)) = some (some (.agg #[.int .i64 0, .int .i64 0, .int .i64 0, .int .i64 0]), 4, 32))
    (g : Nat) (x : It) (hg : w.heap[g]? = some (.cells #[.int .i64 x.term, .int .i64 x.round, .int .i64 x.index, .int .i64 x.token] t (0, 0))) (hl : l.length < 100000000) :
    ∃ v' w', (Builtin.append_ #[ts, ts] ty #[.slice A n n, .slice (some ⟨g, 0, none⟩) 1 1]).run Try.prog w = .ok v' w' ∧ OwnI w' w.heap.size t v' (l ++ [x]) ∧ Below w.heap.size w w' := by
  have hn := h.len_
  rcases A with _ | a
  · have hn0 : n = 0 := by
      obtain ⟨cs, hr, -⟩ := h
      by_cases h0 : n = 0
      · exact h0
      · obtain ⟨-, -, -, b, off, hA, -⟩ := hr.at_ (by omega)
        cases hA
    subst hn0
    have hl0 : l = [] := List.eq_nil_of_length_eq_zero hn.1.symm
    subst hl0
    obtain ⟨v', w', h1, h2, h3, -⟩ := run_pushIt (OwnI.nil_ w w.heap.size t) ts ty hts hi g x hg (by simp) (Nat.le_refl _)
    exact ⟨v', w', h1, h2, (Below.refl _ _).grown h3 (Nat.le_refl _) fun k hk => by cases hk⟩
  · obtain ⟨i0, hi, hz0, hz1, hz2⟩ := info_three hi
    obtain ⟨cs, hr, he⟩ := h
    have hcl : cs.length = n * 4 := by rw [hr.1, hn.1]
    have holds : ∀ j u, cs[j]? = some u → w.cell? (a.add j) = some u := fun j u hj => by
      by_cases h0 : n = 0
      · have := (List.getElem?_eq_some_iff.1 hj).1
        omega
      · obtain ⟨-, -, -, b, off, hA, -, hc⟩ := hr.at_ (by omega)
        injection hA with hA
        subst hA
        rw [Lib.add_plain]
        exact hc j u hj
    obtain ⟨v', w', hrun, h2, h3⟩ := run_append_arg_grows (P := Try.prog) (w := w) ts ty t i0 _ 4 32 hts hi hz0 hz1 hz2 rfl (by omega) a n n cs hcl holds ⟨g, 0, none⟩ 1 1 [.int .i64 x.term, .int .i64 x.round, .int .i64 x.index, .int .i64 x.token] rfl
      (fun j u hj => by
        rw [Lib.add_plain, Nat.zero_add, cell_of_row w g _ _ _ (0, 0) hg]
        simpa using hj) (by omega) (by simp only [maxLen]; omega) (by omega)
    refine ⟨v', w', hrun, ⟨cs ++ [.int .i64 x.term, .int .i64 x.round, .int .i64 x.index, .int .i64 x.token], by rw [List.length_append, ← hn.1]; exact h2, fun j hj => ?_⟩, (Below.refl _ _).grown h3 (Nat.le_refl _) fun k hk => by cases hk⟩
    by_cases hj' : j < l.length
    · rw [List.getElem_append_left hj']
      exact itC_append (he j hj')
    · have hjl : j = l.length := by rw [List.length_append] at hj; simp at hj; omega
      subst hjl
      rw [List.getElem_append_right (Nat.le_refl _)]
      simp only [Nat.sub_self, List.getElem_cons_zero]
      refine ⟨?_, ?_, ?_, ?_⟩
      all_goals
        rw [List.getElem?_append_right (by omega), hcl, hn.1]
        simp
theorem wp_growIt {w : World} {t : TypeId} {T : Nat → Prop} {A : Option Addr} {n c : Nat} {l : List It} {o : Oper} {a : Act} {K : Act → World → Prop} {R : Exit → Act → World → Prop} (h : ItsT w T (.slice A n c) l) (s x : Operand) (ts : TypeId) (hts : Try.prog.underlying ts = some (.slice t)) (hi : (Try.prog.info? t).map (fun i => (i.zero, i.size, i.bytes)) = some (some (.agg #[.int .i64 0, .int .i64 0, .int .i64 0, .int .i64 0]), 4, 32))
    (ho : o.op = .call { callee := .builtin .append, args := #[s, x], argTypes := #[ts, ts] }) (hs : a.eval s = .slice A n n) (g : Nat) (y : It) (hx : a.eval x = .slice (some ⟨g, 0, none⟩) 1 1)
    (hg : w.heap[g]? = some (.cells #[.int .i64 y.term, .int .i64 y.round, .int .i64 y.index, .int .i64 y.token] t (0, 0))) (hl : l.length < 100000000)
    (hK : ∀ v' w', OwnI w' w.heap.size t v' (l ++ [y]) → Below w.heap.size w w' → K (a.put o.dst v') w') : o.wp Try.prog a w K R := by
  obtain ⟨v', w', hrun, h1, h2⟩ := run_growIt h ts o.type hts hi g y hg hl
  unfold Oper.wp execOp
  simp only [ho, resolve, invoke, builtin, Sem.run_bind, Sem.run_pure, Result.andThen_ok, List.map_toArray, List.map_cons, List.map_nil, hs, hx, hrun]
  exact hK v' w' h1 h2
theorem three_box (w : World) (a b c : Obj) : ∃ W g0 g1 g2, W = ((w.alloc a).alloc b).alloc c ∧ g0 = w.heap.size ∧ g1 = g0 + 1 ∧ g2 = g1 + 1 ∧ Below w.heap.size w W ∧ W.heap[g0]? = some a ∧ W.heap[g1]? = some b ∧ W.heap[g2]? = some c ∧ W.heap.size = g2 + 1 := by
  obtain ⟨W0, g0, g1, hW0, h0, h1, hb0, hq0, hq1, hs0⟩ := two_box w a b
  obtain ⟨W1, g2, hW1, h2, hb1, hq2, hs1⟩ := one_box W0 c
  exact ⟨W1, g0, g1, g2, by rw [hW1, hW0], h0, h1, by omega, hb0.trans (hb1.mono hb0.size), (hb1.block g0 (obj_lt hq0)).trans hq0, (hb1.block g1 (obj_lt hq1)).trans hq1, hq2, hs1⟩
theorem step_op' {P : Program} {ops : Array Oper} {o : Oper} {a : Act} {w : World} {K : Act → World → Prop} {Q : Exit → Act → World → Prop} {E : Prop} (hgd : o.guard = none) (h : Oper.wp P o a w K Q) : if Region.wanted o (yielded ops a.tmps) = true then Oper.wp P o a w K Q else E := by
  rw [if_pos (by simp [Region.wanted, hgd])]
  exact h


end Go.Proofs.Ytojejcafahighaa.pk
