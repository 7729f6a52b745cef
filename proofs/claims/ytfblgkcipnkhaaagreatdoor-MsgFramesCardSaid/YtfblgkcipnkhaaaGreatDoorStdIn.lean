/-
  What the row's list gives the walks, where it lists more than the error's own type.
-/
import Derived.Test.YtfblgkcipnkhaaaGreatDoorStdOf
import Derived.Test.YtfblgkcipnkhaaaGreatDoorStdP
import Derived.ChangeMaps5
import Derived.Stop.LaidErr
import Derived.LaidMore
namespace Go.Proofs.YtfblgkcipnkhaaaGreatDoor.pk
open Go Go.RowKit Go.ChangeShapes Go.WideShapes Go.ChangeAt
set_option maxRecDepth 100000

theorem std_in {l : List (String × DataW Unit)} {W : World} (hf : (l.filter fun x => x.2.handleName?.isSome) = [("errors.errorType", Rows.laid_errors_errorType)]) (h : laidMetH Tryz.prog l W) (hsh : W.ShapedOpen Tryz.prog) : Std W := by
  refine std_of ?_ hsh
  unfold laidMetH at h
  rw [hf] at h
  exact ⟨laidMet_nil _ _, h.2⟩

theorem tTab : (Tryz.prog.globals[1]?).map (·.type) = some 179 := by kernel_rfl
theorem tSyn : (Tryz.prog.globals[4]?).map (·.type) = some 32 := by kernel_rfl
theorem tRng : (Tryz.prog.globals[5]?).map (·.type) = some 32 := by kernel_rfl
theorem c20 : Tryz.prog.cellsOf 179 = 20 := by kernel_rfl
theorem c1 : Tryz.prog.cellsOf 51 = 1 := by kernel_rfl
theorem cES : Tryz.prog.cellsOf 199 = 1 := by kernel_rfl
theorem cSt : Tryz.prog.cellsOf 9 = 1 := by kernel_rfl
theorem starES : "*" ++ "errors.errorString" = "*errors.errorString" := by decide
theorem nameES (u : TypeId) (h : Tryz.prog.typeName? 3 u = some "*errors.errorString") : u = 197 :=
  typeName_ptr_named (nm := "errors.errorString") (by rw [starES]; kernel_rfl) (by kernel_rfl) (by decide) u (by rw [starES]; exact h)

theorem stdP_in {l : List (String × DataW Unit)} {W : World} (hf : (l.filter fun x => x.2.handleName?.isSome) = [("errors.errorType", Rows.laid_errors_errorType)])
    (h1 : ("internal/strconv.uint64pow10", Rows.laid_internal_strconv_uint64pow10) ∈ l.filter fun x => x.2.handleName?.isNone)
    (h2 : ("strconv.ErrSyntax", Rows.laid_strconv_ErrSyntax) ∈ l.filter fun x => x.2.handleName?.isNone)
    (h3 : ("strconv.ErrRange", Rows.laid_strconv_ErrRange) ∈ l.filter fun x => x.2.handleName?.isNone)
    (h : laidMetH Tryz.prog l W) (hsh : W.ShapedOpen Tryz.prog) : StdP W := by
  have h' := h
  unfold laidMetH at h'
  rw [hf] at h'
  have hd := h'.1
  have t1 : Lib.TabIs Tryz.prog W "internal/strconv.uint64pow10" .u64 Lib.pow10Tab :=
    Lib.tabIs_of_head (rest := []) gTab tTab Tryz.underlying179 Tryz.underlying51 c1 c20 (laid_mem hd h1)
  obtain ⟨a2, s2, g2, _⟩ := laid_sentinel (r := []) (laid_mem hd h2) gSyn tSyn Tryz.underlying32 nameES Tryz.underlying197 Tryz.underlying199 rfl rfl Tryz.underlying9 cES cSt
  obtain ⟨a3, s3, g3, _⟩ := laid_sentinel (r := []) (laid_mem hd h3) gRng tRng Tryz.underlying32 nameES Tryz.underlying197 Tryz.underlying199 rfl rfl Tryz.underlying9 cES cSt
  exact ⟨std_in hf h hsh, t1, ⟨_, _, g2⟩, ⟨_, _, g3⟩⟩

end Go.Proofs.YtfblgkcipnkhaaaGreatDoor.pk
