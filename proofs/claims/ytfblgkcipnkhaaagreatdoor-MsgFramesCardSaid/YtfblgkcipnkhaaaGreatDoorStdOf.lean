/-
  What the row's list gives the walks.
-/
import Derived.Test.YtfblgkcipnkhaaaGreatDoorRow
import Derived.Test.YtfblgkcipnkhaaaGreatDoorJa
import Derived.Test.YtfblgkcipnkhaaaGreatDoorCards
import Derived.Test.YtfblgkcipnkhaaaGreatDoorTie
namespace Go.Proofs.YtfblgkcipnkhaaaGreatDoor.pk
open Go Go.RowKit Go.ChangeShapes Go.WideShapes Go.ChangeAt
set_option maxRecDepth 100000

theorem gTyp : Tryz.prog.globalNamed "errors.errorType" = some 0 := by kernel_rfl
theorem rType : (Tryz.prog.cutTypes.find? (·.1 == "internal/reflectlite.rtype")).map (·.2) = some 153 := by kernel_rfl
theorem tSize : Tryz.prog.types.size = 229 := by kernel_rfl
theorem oneRow : ((List.range 229).filter fun t => Tryz.prog.rowNamed t [101, 114, 114, 111, 114]) = [32] := by kernel_rfl
theorem lastVar : (((begin Tryz.prog (fun _ _ => 0) default).world.heap[6 - 1]?).bind Obj.row?).isSome = true := by kernel_rfl
theorem gSize : Tryz.prog.globals.size = 6 := by kernel_rfl

/-- WHAT THE ROW's LIST GIVES THE WALKS. -/
theorem std_of {W : World} (h : laidMetH Tryz.prog [("errors.errorType", Rows.laid_errors_errorType)] W) (hsh : W.ShapedOpen Tryz.prog) : Std W := by
  have h' : laidMet Tryz.prog ([("errors.errorType", Rows.laid_errors_errorType)].filter fun x => x.2.handleName?.isNone) W ∧ handlesMet Tryz.prog [("errors.errorType", Rows.laid_errors_errorType)] W := h
  obtain ⟨_, hh⟩ := h'
  obtain ⟨name, u, ty, e1, e2, e3, e4, e5⟩ := hh _ (List.mem_singleton.2 rfl)
  have en : name = [101, 114, 114, 111, 114] := (Option.some.inj e1).symm
  subst en
  obtain rfl := Option.some.inj (rType.symm.trans e2)
  have hm : ty ∈ (List.range 229).filter fun t => Tryz.prog.rowNamed t [101, 114, 114, 111, 114] := List.mem_filter.2 ⟨List.mem_range.2 (by rw [← tSize]; exact e3), e4⟩
  rw [oneRow] at hm
  obtain rfl := List.mem_singleton.1 hm
  have hth : typeHandle Tryz.prog 32 = .pointer (some ⟨6, 32, none⟩) := by kernel_rfl
  rw [hth] at e5
  refine ⟨by simpa using World.var?_cell gTyp e5 0, ?_⟩
  cases hx : ((begin Tryz.prog (fun _ _ => 0) default).world.heap[6 - 1]?).bind Obj.row? with
  | none => have hl := lastVar; rw [hx] at hl; cases hl
  | some zt =>
    obtain ⟨z, t⟩ := zt
    obtain ⟨cs, hc, _⟩ := hsh.1 (6 - 1) z t (by rw [gSize]; omega) hx
    rcases Nat.lt_or_ge (6 - 1) W.heap.size with hlt | hge
    · omega
    · rw [Array.getElem?_eq_none hge] at hc; cases hc

end Go.Proofs.YtfblgkcipnkhaaaGreatDoor.pk
