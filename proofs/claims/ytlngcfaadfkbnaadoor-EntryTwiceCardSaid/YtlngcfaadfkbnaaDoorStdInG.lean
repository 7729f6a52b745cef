/-
  What the row's list gives the walks, where it lists more than the error's own type.
-/
import Derived.Test.YtlngcfaadfkbnaaDoorStdOf
import Derived.Test.YtlngcfaadfkbnaaDoorStdG
import Derived.ChangeMaps5
import Derived.Stop.LaidErr
import Derived.LaidMore
namespace Go.Proofs.YtlngcfaadfkbnaaDoor.pk
open Go Go.RowKit Go.ChangeShapes Go.WideShapes Go.ChangeAt
set_option maxRecDepth 100000

theorem std_in {l : List (String × DataW Unit)} {W : World} (hf : (l.filter fun x => x.2.handleName?.isSome) = [("errors.errorType", Rows.laid_errors_errorType)]) (h : laidMetH Tryd.prog l W) (hsh : W.ShapedOpen Tryd.prog) : Std W := by
  refine std_of ?_ hsh
  unfold laidMetH at h
  rw [hf] at h
  exact ⟨laidMet_nil _ _, h.2⟩
theorem tTabG : (Tryd.prog.globals[1]?).map (·.type) = some 134 := by kernel_rfl
theorem c20G : Tryd.prog.cellsOf 134 = 20 := by kernel_rfl
theorem c1G : Tryd.prog.cellsOf 82 = 1 := by kernel_rfl
theorem stdG_in {l : List (String × DataW Unit)} {W : World} (h1 : ("internal/strconv.uint64pow10", Rows.laid_internal_strconv_uint64pow10) ∈ l.filter fun x => x.2.handleName?.isNone) (h : laidMetH Tryd.prog l W) (hsh : W.ShapedOpen Tryd.prog) : StdG W := by
  have hd : laidMet Tryd.prog [("internal/strconv.uint64pow10", Rows.laid_internal_strconv_uint64pow10)] W := by
    unfold laidMetH at h
    split at h
    · exact laid_mem h (List.mem_filter.1 h1).1
    · exact laid_mem h.1 h1
  refine ⟨Lib.tabIs_of_head (rest := []) gTabG tTabG Tryd.underlying134 Tryd.underlying82 c1G c20G hd, ?_⟩
  cases hx : ((begin Tryd.prog (fun _ _ => 0) default).world.heap[4 - 1]?).bind Obj.row? with
  | none => have hl := lastVar; rw [hx] at hl; cases hl
  | some zt =>
    obtain ⟨z, t⟩ := zt
    obtain ⟨cs, hc, _⟩ := hsh.1 (4 - 1) z t (by rw [gSize]; omega) hx
    rcases Nat.lt_or_ge (4 - 1) W.heap.size with hlt | hge
    · omega
    · rw [Array.getElem?_eq_none hge] at hc; cases hc

end Go.Proofs.YtlngcfaadfkbnaaDoor.pk
