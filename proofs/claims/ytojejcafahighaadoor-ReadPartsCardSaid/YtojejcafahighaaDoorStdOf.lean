/-
  What the row's list gives the walks.
-/
import Derived.Test.YtojejcafahighaaDoorRow
import Derived.Test.YtojejcafahighaaDoorStd
import Derived.Test.YtojejcafahighaaDoorCards
import Derived.Test.YtojejcafahighaaDoorTie
namespace Go.Proofs.YtojejcafahighaaDoor.pk
open Go Go.RowKit Go.ChangeShapes Go.WideShapes Go.ChangeAt
set_option maxRecDepth 100000

theorem gTyp : Tryd.prog.globalNamed "errors.errorType" = some 0 := by kernel_rfl
theorem rType : (Tryd.prog.cutTypes.find? (·.1 == "internal/reflectlite.rtype")).map (·.2) = some 84 := by kernel_rfl
theorem tSize : Tryd.prog.types.size = 148 := by kernel_rfl
theorem oneRow : ((List.range 148).filter fun t => Tryd.prog.rowNamed t [101, 114, 114, 111, 114]) = [34] := by kernel_rfl
theorem lastVar : (((begin Tryd.prog (fun _ _ => 0) default).world.heap[1 - 1]?).bind Obj.row?).isSome = true := by kernel_rfl
theorem gSize : Tryd.prog.globals.size = 1 := by kernel_rfl

/-- WHAT THE ROW's LIST GIVES THE WALKS. -/
theorem std_of {W : World} (h : laidMetH Tryd.prog [("errors.errorType", Rows.laid_errors_errorType)] W) (hsh : W.ShapedOpen Tryd.prog) : Std W := by
  have h' : laidMet Tryd.prog ([("errors.errorType", Rows.laid_errors_errorType)].filter fun x => x.2.handleName?.isNone) W ∧ handlesMet Tryd.prog [("errors.errorType", Rows.laid_errors_errorType)] W := h
  obtain ⟨_, hh⟩ := h'
  obtain ⟨name, u, ty, e1, e2, e3, e4, e5⟩ := hh _ (List.mem_singleton.2 rfl)
  have en : name = [101, 114, 114, 111, 114] := (Option.some.inj e1).symm
  subst en
  obtain rfl := Option.some.inj (rType.symm.trans e2)
  have hm : ty ∈ (List.range 148).filter fun t => Tryd.prog.rowNamed t [101, 114, 114, 111, 114] := List.mem_filter.2 ⟨List.mem_range.2 (by rw [← tSize]; exact e3), e4⟩
  rw [oneRow] at hm
  obtain rfl := List.mem_singleton.1 hm
  have hth : typeHandle Tryd.prog 34 = .pointer (some ⟨1, 34, none⟩) := by kernel_rfl
  rw [hth] at e5
  refine ⟨by simpa using World.var?_cell gTyp e5 0, ?_⟩
  cases hx : ((begin Tryd.prog (fun _ _ => 0) default).world.heap[1 - 1]?).bind Obj.row? with
  | none => have hl := lastVar; rw [hx] at hl; cases hl
  | some zt =>
    obtain ⟨z, t⟩ := zt
    obtain ⟨cs, hc, _⟩ := hsh.1 (1 - 1) z t (by rw [gSize]; omega) hx
    rcases Nat.lt_or_ge (1 - 1) W.heap.size with hlt | hge
    · omega
    · rw [Array.getElem?_eq_none hge] at hc; cases hc

end Go.Proofs.YtojejcafahighaaDoor.pk
