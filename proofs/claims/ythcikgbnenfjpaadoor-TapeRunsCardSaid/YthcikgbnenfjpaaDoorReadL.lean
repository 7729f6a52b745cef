/-
  Slices of bytes in a slice that are read (a seat whose program has them).
-/
import Derived.Test.YthcikgbnenfjpaaDoorRead
namespace Go.Proofs.YthcikgbnenfjpaaDoor.pk
open Go Go.RowKit Go.ChangeShapes Go.WideShapes Go.ChangeAt
set_option maxRecDepth 100000

theorem cSlB : Tryd.prog.cellsOf 22 = 1 := by kernel_rfl
theorem lists_of_trod {H : Type} {enc : TypeId × Value → H} {W : World} {held : Bool} {fuel : Nat} {v : Value} {y : DataW H × List MemPlace}
    (h : DataW.trod enc Tryd.prog W 0 (fun _ => true) held fuel 32 [v] = some y) :
    ∃ A c ls, v = .slice A (List.length ls) c ∧ ListsT W (fun k => k < W.heap.size) (.slice A ls.length c) ls := by
  obtain ⟨A, n, c, cs, rfl, hr, hd⟩ := row_of_trod Tryd.underlying32 cSlB (by omega) h
  rcases hd with ⟨hy, rfl⟩ | ⟨es, sp, hy, hl, he⟩
  · exact ⟨A, c, [], rfl, cs, hr, fun j hj => by simp at hj⟩
  · have hone : ∀ i : Fin n, ∃ bs : List UInt8, ∃ u, cs[i.1]? = some u ∧ SlT W (fun k => k < W.heap.size) u bs := fun ⟨i, hi⟩ => by
      obtain ⟨m, z, htr, _⟩ := he i hi
      have hl1 : ((cs.drop (i * 1)).take 1).length = 1 := by
        have := hr.1
        rw [List.length_take, List.length_drop]
        omega
      obtain ⟨u, hu⟩ := List.length_eq_one_iff.1 hl1
      rw [hu] at htr
      obtain ⟨A', n', c', bs, rfl, hs, _⟩ := sl_of_trod htr
      exact ⟨bs, _, take_one hu, hs.toT⟩
    obtain ⟨f, hf⟩ := Classical.axiomOfChoice hone
    have hln : (List.ofFn f).length = n := List.length_ofFn ..
    refine ⟨A, c, List.ofFn f, by rw [hln], cs, by rw [hln]; exact hr, fun j hj => ?_⟩
    have hj' : j < n := by rw [hln] at hj; exact hj
    simpa [List.getElem_ofFn] using hf ⟨j, hj'⟩

end Go.Proofs.YthcikgbnenfjpaaDoor.pk
