import Derived.Test.YtncaefocijainaaGreatDoorG38
import Derived.Test.YtncaefocijainaaGreatDoorG06
import Derived.Test.YtncaefocijainaaGreatDoorCards
import Derived.Test.YtncaefocijainaaGreatDoorTie
import Derived.Test.YtncaefocijainaaGreatDoorG07
import Derived.ChangeMaps5
import Derived.Stop.LaidErr
import Derived.LaidMore
namespace Go.Proofs.YtncaefocijainaaGreatDoor.pk
section
open Go Go.RowKit Go.ChangeShapes Go.WideShapes Go.ChangeAt
set_option maxRecDepth 100000
theorem gTyp : Tryz.prog.globalNamed "errors.errorType" = some 0 := by kernel_rfl
theorem rType : (Tryz.prog.cutTypes.find? (·.1 == "internal/reflectlite.rtype")).map (·.2) = some 188 := by kernel_rfl
theorem tSize : Tryz.prog.types.size = 312 := by kernel_rfl
theorem oneRow : ((List.range 312).filter fun t => Tryz.prog.rowNamed t [101, 114, 114, 111, 114]) = [27] := by kernel_rfl
theorem lastVar : (((begin Tryz.prog (fun _ _ => 0) default).world.heap[6 - 1]?).bind Obj.row?).isSome = true := by kernel_rfl
theorem gSize : Tryz.prog.globals.size = 6 := by kernel_rfl
theorem std_of {W : World} (h : laidMetH Tryz.prog [("errors.errorType", Rows.laid_errors_errorType)] W) (hsh : W.ShapedOpen Tryz.prog) : Std W := by
 have h' : laidMet Tryz.prog ([("errors.errorType", Rows.laid_errors_errorType)].filter fun x => x.2.handleName?.isNone) W ∧ handlesMet Tryz.prog [("errors.errorType", Rows.laid_errors_errorType)] W := h
 obtain ⟨_, hh⟩ := h'
 obtain ⟨name, u, ty, e1, e2, e3, e4, e5⟩ := hh _ (List.mem_singleton.2 rfl)
 have en : name = [101, 114, 114, 111, 114] := (Option.some.inj e1).symm
 subst en
 obtain rfl := Option.some.inj (rType.symm.trans e2)
 have hm : ty ∈ (List.range 312).filter fun t => Tryz.prog.rowNamed t [101, 114, 114, 111, 114] := List.mem_filter.2 ⟨List.mem_range.2 (by rw [← tSize]; exact e3), e4⟩
 rw [oneRow] at hm
 obtain rfl := List.mem_singleton.1 hm
 have hth : typeHandle Tryz.prog 27 = .pointer (some ⟨6, 27, none⟩) := by kernel_rfl
 rw [hth] at e5
 refine ⟨by simpa using World.var?_cell gTyp e5 0, ?_⟩
 cases hx : ((begin Tryz.prog (fun _ _ => 0) default).world.heap[6 - 1]?).bind Obj.row? with
 | none => have hl := lastVar; rw [hx] at hl; cases hl
 | some zt =>
   obtain ⟨z, t⟩ := zt
   obtain ⟨cs, hc, _⟩ := hsh.1 (6 - 1) z t (by rw [gSize]; omega) hx
   rcases Nat.lt_or_ge (6 - 1) W.heap.size with hlt | hge
   · omega
   · rw [Array.getElem?_eq_none hge] at hc; cases hc
end
section
open Go Go.RowKit Go.ChangeShapes Go.WideShapes Go.ChangeAt
set_option maxRecDepth 100000
theorem std_in {l : List (String × DataW Unit)} {W : World} (hf : (l.filter fun x => x.2.handleName?.isSome) = [("errors.errorType", Rows.laid_errors_errorType)]) (h : laidMetH Tryz.prog l W) (hsh : W.ShapedOpen Tryz.prog) : Std W := by
 refine std_of ?_ hsh
 unfold laidMetH at h
 rw [hf] at h
 exact ⟨laidMet_nil _ _, h.2⟩
theorem tTab : (Tryz.prog.globals[1]?).map (·.type) = some 250 := by kernel_rfl
theorem tSyn : (Tryz.prog.globals[4]?).map (·.type) = some 27 := by kernel_rfl
theorem tRng : (Tryz.prog.globals[5]?).map (·.type) = some 27 := by kernel_rfl
theorem c20 : Tryz.prog.cellsOf 250 = 20 := by kernel_rfl
theorem c1 : Tryz.prog.cellsOf 91 = 1 := by kernel_rfl
theorem cES : Tryz.prog.cellsOf 277 = 1 := by kernel_rfl
theorem cSt : Tryz.prog.cellsOf 9 = 1 := by kernel_rfl
theorem starES : "*" ++ "errors.errorString" = "*errors.errorString" := by decide
theorem nameES (u : TypeId) (h : Tryz.prog.typeName? 3 u = some "*errors.errorString") : u = 275 :=
 typeName_ptr_named (nm := "errors.errorString") (by rw [starES]; kernel_rfl) (by kernel_rfl) (by decide) u (by rw [starES]; exact h)
theorem stdP_in {l : List (String × DataW Unit)} {W : World} (hf : (l.filter fun x => x.2.handleName?.isSome) = [("errors.errorType", Rows.laid_errors_errorType)])
   (h1 : ("internal/strconv.uint64pow10", Rows.laid_internal_strconv_uint64pow10) ∈ l.filter fun x => x.2.handleName?.isNone)
   (h2 : ("strconv.ErrSyntax", Rows.laid_strconv_ErrSyntax) ∈ l.filter fun x => x.2.handleName?.isNone)
   (h3 : ("strconv.ErrRange", Rows.laid_strconv_ErrRange) ∈ l.filter fun x => x.2.handleName?.isNone)
   (h : laidMetH Tryz.prog l W) (hsh : W.ShapedOpen Tryz.prog) : StdP W := by
 have h' := h
 unfold laidMetH at h'
 rw [hf] at h'
 have hd := h'.1
 have t1 : Lib.TabIs Tryz.prog W "internal/strconv.uint64pow10" .u64 Lib.pow10Tab :=
   Lib.tabIs_of_head (rest := []) gTab tTab Tryz.underlying250 Tryz.underlying91 c1 c20 (laid_mem hd h1)
 obtain ⟨a2, s2, g2, _⟩ := laid_sentinel (r := []) (laid_mem hd h2) gSyn tSyn Tryz.underlying27 nameES Tryz.underlying275 Tryz.underlying277 rfl rfl Tryz.underlying9 cES cSt
 obtain ⟨a3, s3, g3, _⟩ := laid_sentinel (r := []) (laid_mem hd h3) gRng tRng Tryz.underlying27 nameES Tryz.underlying275 Tryz.underlying277 rfl rfl Tryz.underlying9 cES cSt
 exact ⟨std_in hf h hsh, t1, ⟨_, _, g2⟩, ⟨_, _, g3⟩⟩
end
end Go.Proofs.YtncaefocijainaaGreatDoor.pk
