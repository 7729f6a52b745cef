/-
  Truths that are read (a seat whose program has them).
-/
import Derived.Test.YthcikgbnenfjpaaDoorRead
namespace Go.Proofs.YthcikgbnenfjpaaDoor.pk
open Go Go.RowKit Go.ChangeShapes Go.WideShapes Go.ChangeAt
set_option maxRecDepth 100000

theorem cBool : Tryd.prog.cellsOf 4 = 1 := by kernel_rfl
theorem bools_of_trod {H : Type} {enc : TypeId × Value → H} {W : World} {held : Bool} {fuel : Nat} {v : Value} {y : DataW H × List MemPlace}
    (h : DataW.trod enc Tryd.prog W 0 (fun _ => true) held fuel 44 [v] = some y) :
    ∃ A c zs, v = .slice A zs.length c ∧ BoolsT W (fun k => k < W.heap.size) (.slice A zs.length c) zs ∧ ((y.1 = .nil ∧ zs = []) ∨ ∃ es sp, y.1 = .slice es sp ∧ es.length = zs.length) := by
  obtain ⟨A, n, c, cs, rfl, hr, hd⟩ := row_of_trod Tryd.underlying44 cBool (by omega) h
  rcases hd with ⟨hy, rfl⟩ | ⟨es, sp, hy, hl, he⟩
  · have hc0 : cs = [] := List.eq_nil_of_length_eq_zero (by have := hr.1; omega)
    subst hc0
    exact ⟨A, c, [], rfl, hr, Or.inl ⟨hy, rfl⟩⟩
  · have hone : ∀ i : Fin n, ∃ z : Bool, cs[i.1]? = some (.bool z) := fun ⟨i, hi⟩ => by
      obtain ⟨m, z, htr, _⟩ := he i hi
      obtain ⟨k, e0, _⟩ := DataW.trod_bool Tryd.underlying4 htr
      exact ⟨k, take_one e0⟩
    obtain ⟨f, hf⟩ := Classical.axiomOfChoice hone
    have hcs : cs = (List.ofFn f).map Value.bool := by
      refine List.ext_getElem? fun j => ?_
      by_cases hj : j < n
      · rw [hf ⟨j, hj⟩, List.getElem?_map, List.getElem?_eq_getElem (by simpa using hj), List.getElem_ofFn]
        rfl
      · have := hr.1
        rw [List.getElem?_eq_none (by omega), List.getElem?_eq_none (by simp; omega)]
    have hln : (List.ofFn f).length = n := List.length_ofFn ..
    refine ⟨A, c, List.ofFn f, by rw [hln], ?_, Or.inr ⟨es, sp, hy, by rw [hln]; exact hl⟩⟩
    unfold BoolsT
    rw [hln, ← hcs]
    exact hr

end Go.Proofs.YthcikgbnenfjpaaDoor.pk
