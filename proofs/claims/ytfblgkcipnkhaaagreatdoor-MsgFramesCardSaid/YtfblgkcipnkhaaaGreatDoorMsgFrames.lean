/-
  Proved: whatever message is sealed, and whatever frame is opened, the law MsgFrames answers true, and its arguments read as they did: the tied card, for every input.
-/
import Derived.Test.YtfblgkcipnkhaaaGreatDoorLawFr
import Derived.Test.YtfblgkcipnkhaaaGreatDoorStdIn
import Derived.Test.YtfblgkcipnkhaaaGreatDoorReadM
import Derived.Test.YtfblgkcipnkhaaaGreatDoorHoldM
namespace Go.Proofs.YtfblgkcipnkhaaaGreatDoor.msgFrames
open Go Go.RowKit Go.ChangeShapes Go.WideShapes Go.ChangeAt Go.Joins
open Go.Proofs.YtfblgkcipnkhaaaGreatDoor.pk
set_option maxRecDepth 100000

theorem contract (H : Type) (enc : TypeId × Value → H) (W : World) (base : Nat) (args : Array Value) (ds gs : List (DataW H)) (before : List MemPlace)
    (hval : ∀ (j : Nat) t v, Tryz.f4.params[j]? = some t → args[j]? = some v → Value.okWide Tryz.prog W .any base t v)
    (hW : DataW.Whole enc Tryz.prog Tryz.f4.params.toList Rows.msgFramesSpec.vars false W args.toList ds gs before)
    (hz : (DataW.weightsEach Tryz.prog (Tryz.f4.params.toList ++ (OpenSpec.ofChange Rows.msgFramesSpec).bare.plain.varTypes Tryz.prog) (ds ++ gs)).all (· ≤ reachBytes) = true)
    (hL : laidMetH Tryz.prog Rows.msgFramesRow.laid W) (hsh : W.ShapedOpen Tryz.prog) :
    Calls Tryz.prog 4 args W fun e W' => ∃ v, e = .returned v ∧ Rows.msgFramesSpec.post enc Tryz.prog Tryz.f4 false true false false W args v W' := by
  have hs : StdP W := stdP_in (by kernel_rfl) (by simp [Rows.msgFramesRow, DataW.handleName?, Rows.laid_internal_strconv_uint64pow10, Rows.laid_strconv_ErrSyntax, Rows.laid_strconv_ErrRange, Rows.laid_math_bits_deBruijn32tab, Rows.laid_math_bits_deBruijn64tab, Rows.laid_errors_errorType]) (by simp [Rows.msgFramesRow, DataW.handleName?, Rows.laid_strconv_ErrSyntax]) (by simp [Rows.msgFramesRow, DataW.handleName?, Rows.laid_strconv_ErrRange]) hL hsh
  have hW' := hW
  obtain ⟨p, q, hA0, hV, rfl, hfz, hnd⟩ := hW
  have hA : DataW.TrodAll enc Tryz.prog W 0 (fun _ => true) true Tryz.f4.params.toList args.toList ds p := hA0
  rw [Tryz.params4] at hA hval
  obtain ⟨v0, vs0, d0, ds0, p0, q0, hargs, rfl, rfl, h0, r0⟩ := trodAll_cons hA
  obtain ⟨v1, vs1, d1, ds1, p1, q1, rfl, rfl, rfl, h1, r1⟩ := trodAll_cons r0
  obtain ⟨rfl, rfl, rfl⟩ := trodAll_nil r1
  obtain rfl : args = #[v0, v1] := by cases args; simp_all
  obtain ⟨rfl, rfl⟩ := trodVars_none hV
  have hw0 : ∀ n ∈ d0.weights Tryz.prog 25, n ≤ reachBytes := fun n hn => by
    have hz' := hz
    have hv0 : (OpenSpec.ofChange Rows.msgFramesSpec).bare.plain.varTypes Tryz.prog = [] := by kernel_rfl
    rw [hv0, List.append_nil, Tryz.params4] at hz'
    exact of_decide_eq_true (List.all_eq_true.1 hz' n (by simp [DataW.weightsEach, hn]))
  obtain ⟨m0, Ad0, nd0, cd0, Ae0, ne0, ce0, rfl, hi0, hb0, he0⟩ := open_msg (hval 0 25 v0 rfl rfl) h0 hw0
  obtain ⟨A1, n1, c1, rfl⟩ := okWide_slice Tryz.underlying22 (hval 1 22 v1 rfl rfl)
  obtain ⟨fuel1, hf1⟩ := h1
  obtain ⟨X1, Y1, Z1, t1, hv1, ht1, hdat1⟩ := sl_of_trod hf1
  injection hv1 with e1 e2 e3
  subst e1; subst e2; subst e3
  have hl1 : t1.length ≤ 140737488355328 := by
    rcases hdat1 with ⟨_, rfl⟩ | ⟨es, sp, hd, hel⟩
    · simp
    · have hd' : d1 = .slice es sp := hd
      have hz' := hz
      have hv0 : (OpenSpec.ofChange Rows.msgFramesSpec).bare.plain.varTypes Tryz.prog = [] := by kernel_rfl
      have hb5 : Tryz.prog.bytesOf 5 = 1 := by kernel_rfl
      rw [hv0, List.append_nil, Tryz.params4] at hz'
      have hz2 : es.length + sp.length ≤ reachBytes := by
        have h3 := List.all_eq_true.1 hz' (es.length + sp.length) (by
          simp [DataW.weightsEach, DataW.weights, Tryz.underlying22, hd', hb5])
        exact of_decide_eq_true h3
      simp only [reachBytes] at hz2
      omega
  clear hA0
  refine (frames_true conM m0 _ _ _ _ _ _ _ _ _ t1 W hs hi0 he0 (Bys.of_sl ht1) (by have := (Bys.of_sl ht1).len_; omega)).mono fun e W' ⟨he, hg⟩ => ?_
  subst he
  exact ⟨_, rfl, law_post rfl (by kernel_rfl) rfl (by kernel_rfl) hW' hg⟩

/-- A start for the witness: the heap that the program's own initialisers leave. -/
theorem door_met (os : Os) (args : Array Value) : laidMetH Tryz.prog Rows.msgFramesRow.laid ((World.doorLaid Tryz.prog 400 os).forCall (fun _ _ => 0) ⟨#[], args, []⟩).memory :=
  laidMetH_of_parts3 (fuel := 8) (laidMet_of_run' 8 (by kernel_rfl) (by kernel_rfl)) (by kernel_rfl) (by kernel_rfl)
theorem reads (os : Os) {H : Type} (enc : TypeId × Value → H) : ∃ places, DataW.whole enc Tryz.prog ((World.doorLaid Tryz.prog 400 os).forCall (fun _ _ => 0) ⟨#[], #[.agg #[.int .i64 0, .int .i64 0, .int .i64 0, .int .i64 0, .int .i64 0, .int .i64 0, .int .i64 0, .int .i64 0, .bool false, .int .i64 0, .slice none 0 0, .slice none 0 0], .slice none 0 0], []⟩).memory Tryz.f4.params.toList Rows.msgFramesSpec.vars false #[Value.agg #[.int .i64 0, .int .i64 0, .int .i64 0, .int .i64 0, .int .i64 0, .int .i64 0, .int .i64 0, .int .i64 0, .bool false, .int .i64 0, .slice none 0 0, .slice none 0 0], Value.slice none 0 0].toList 8 = some ([.agg [.lit (.int .i64 0), .lit (.int .i64 0), .lit (.int .i64 0), .lit (.int .i64 0), .lit (.int .i64 0), .lit (.int .i64 0), .lit (.int .i64 0), .lit (.int .i64 0), .lit (.bool false), .lit (.int .i64 0), .nil, .nil], .nil], [], places) :=
  ⟨[], by kernel_rfl⟩

theorem lifted (os : Os) (started : os.Started) (H : Type) (enc : TypeId × Value → H) (F : Stop.Interp) :
    ReturnsInHanded {} Tryz.checked os 4 .any ((OpenSpec.ofChange Rows.msgFramesSpec).preRow enc Tryz.prog Tryz.f4 Rows.msgFramesRow.domain false Rows.msgFramesRow.laid) (((OpenSpec.ofChange Rows.msgFramesSpec).at F).post enc Tryz.prog Tryz.f4 false true false false) := by
  obtain ⟨places, hx⟩ := reads os enc
  refine returnsInHanded_of_row (C := Tryz.checked) (s := OpenSpec.ofChange Rows.msgFramesSpec) own started (by kernel_rfl) Tryz.func4
    (witness_row_atRef (enc := enc) (C := Tryz.checked) false (World.doorLaid Tryz.prog 400 os) #[.agg #[.int .i64 0, .int .i64 0, .int .i64 0, .int .i64 0, .int .i64 0, .int .i64 0, .int .i64 0, .int .i64 0, .bool false, .int .i64 0, .slice none 0 0, .slice none 0 0], .slice none 0 0] rfl (by kernel_rfl) (by kernel_rfl) (by kernel_rfl)
      (OpenSpec.preRow_of_cond 8 hx (by kernel_rfl) (fun k hk => by cases hk) (by kernel_rfl) (by exact door_met os _))) ?_
  intro W base args ds gs before hval hW _ hcond hz hL hsh _
  exact contract H enc W base args ds gs before hval hW hz hL hsh

theorem said : Rows.MsgFramesSaid :=
  OpenClaim.holds_of_cond 4 Tryz.f4 rfl rfl rfl rfl rfl rfl rfl ⟨rfl, rfl, rfl, rfl, rfl⟩ rfl rfl rfl rfl rfl (by kernel_rfl) Tryz.func4 (by kernel_rfl)
    (of_decide_eq_true (by kernel_rfl)) (by unfold Func.isWrapper; first | (rw [if_pos (by decide +kernel)]; kernel_rfl) | (rw [if_neg (by decide +kernel)]; exact ⟨rfl, rfl⟩))
    (fun os started H enc _ F => by rw [OpenClaim.pre_eq_preRow]; exact lifted os started H enc F)

/-- No parameter wants a stand-in. -/
theorem plain (f : FuncId) (fn : Func) (hf : Tryz.pinned.checked.prog.funcNamed "tollbar/tollbarlaw11.MsgFrames" = some f) (hfn : Tryz.pinned.checked.prog.funcs[f]? = some fn) :
    true = Tryz.pinned.checked.prog.looks [] ∧ ∀ (j : Nat) t, fn.params[j]? = some t → Tryz.pinned.checked.prog.wantsStandIn t = false := by
  obtain rfl : f = 4 := Option.some.inj ((show Tryz.prog.funcNamed "tollbar/tollbarlaw11.MsgFrames" = some 4 by kernel_rfl).symm.trans hf) |>.symm
  obtain rfl : fn = Tryz.f4 := (Option.some.inj (Tryz.func4.symm.trans hfn)).symm
  refine ⟨by kernel_rfl, fun j t ht => ?_⟩
  rw [Tryz.params4] at ht
  have hm : t ∈ [25, 22] := by simpa using Array.mem_of_getElem? ht
  have hall : ([25, 22].all fun u => !Tryz.prog.wantsStandIn u) = true := by kernel_rfl
  exact (show Tryz.prog.wantsStandIn t = false by simpa using List.all_eq_true.1 hall t hm)

theorem card : Rows.MsgFramesCardSaid :=
  Claim7.holds_tied_plain_at .later [] _ _ _ _ said (fun _ h => by cases h) (by kernel_rfl) (fun _ h => by cases h) msgFrames_row_tie rfl ⟨rfl, rfl⟩ (by kernel_rfl) rfl plain (by kernel_rfl)
#print axioms card

end Go.Proofs.YtfblgkcipnkhaaaGreatDoor.msgFrames
