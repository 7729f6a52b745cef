/-
  Rows of three numbers each that are read.
-/
import Derived.Test.YtojejcafahighaaReadQ
import Derived.Test.YtojejcafahighaaLawO14
namespace Go.Proofs.Ytojejcafahighaa.pk
open Go Go.RowKit Go.ChangeShapes Go.WideShapes Go.ChangeAt
set_option maxRecDepth 100000

theorem trs_of_trod {H : Type} {enc : TypeId × Value → H} {W : World} {held : Bool} {fuel : Nat} {v : Value} {y : DataW H × List MemPlace}
    (h : DataW.trod enc Try.prog W 0 (fun _ => true) held fuel 23 [v] = some y) :
    ∃ A c l, v = .slice A (List.length l) c ∧ Trs W (.slice A l.length c) l := by
  obtain ⟨A, n, c, cs, rfl, hr, hd⟩ := row_of_trod Try.underlying23 cA3 (by omega) h
  rcases hd with ⟨hy, rfl⟩ | ⟨es, sp, hy, hl, he⟩
  · exact ⟨A, c, [], rfl, cs, hr, fun j hj => by simp at hj⟩
  · have hone : ∀ i : Fin n, ∃ x : Tr, cs[i.1 * 3]? = some (.int .i64 x.a) ∧ cs[i.1 * 3 + 1]? = some (.int .i64 x.b) ∧ cs[i.1 * 3 + 2]? = some (.int .i64 x.c) := fun ⟨i, hi⟩ => by
      obtain ⟨m, z, htr, _⟩ := he i hi
      have hl1 : cs.length = n * 3 := hr.1
      obtain ⟨a, b, d, _, _, _, hcs⟩ := arr3_of (by rw [List.length_take, List.length_drop]; omega) htr
      have hg : ∀ o x, [Value.int .i64 a, .int .i64 b, .int .i64 d][o]? = some x → cs[i * 3 + o]? = some x := fun o x hx => by
        rw [← hcs, List.getElem?_take] at hx
        split at hx
        · rw [List.getElem?_drop] at hx; exact hx
        · cases hx
      exact ⟨⟨a, b, d⟩, hg 0 _ rfl, hg 1 _ rfl, hg 2 _ rfl⟩
    obtain ⟨f, hf⟩ := Classical.axiomOfChoice hone
    have hln : (List.ofFn f).length = n := List.length_ofFn ..
    refine ⟨A, c, List.ofFn f, by rw [hln], cs, by rw [hln]; exact hr, fun j hj => ?_⟩
    have hj' : j < n := by rw [hln] at hj; exact hj
    simp only [List.getElem_ofFn]
    exact hf ⟨j, hj'⟩

end Go.Proofs.Ytojejcafahighaa.pk
