/-
  Proved: whatever bytes and whatever others behind them, the law SealSums answers true, and its arguments read as they did: for every input.
-/
import Derived.Test.YtgkjcdhkiclheaaSums
import Derived.Test.YtgkjcdhkiclheaaRow
import Derived.Test.YtgkjcdhkiclheaaHold
namespace Go.Proofs.Ytgkjcdhkiclheaa.sealSums
open Go Go.RowKit Go.ChangeShapes Go.WideShapes Go.ChangeAt Go.Joins
open Go.Proofs.Ytgkjcdhkiclheaa.pk
set_option maxRecDepth 100000

theorem contract (H : Type) (enc : TypeId × Value → H) (W : World) (base : Nat) (args : Array Value) (ds gs : List (DataW H)) (before : List MemPlace)
    (hval : ∀ (j : Nat) t v, Try.f3.params[j]? = some t → args[j]? = some v → Value.okWide Try.prog W .any base t v)
    (hW : DataW.Whole enc Try.prog Try.f3.params.toList Rows.sealSumsSpec.vars false W args.toList ds gs before)
    (hz : (DataW.weightsEach Try.prog (Try.f3.params.toList ++ (OpenSpec.ofChange Rows.sealSumsSpec).bare.plain.varTypes Try.prog) (ds ++ gs)).all (· ≤ reachBytes) = true) :
    Calls Try.prog 3 args W fun e W' => ∃ v, e = .returned v ∧ Rows.sealSumsSpec.post enc Try.prog Try.f3 false true false false W args v W' := by
  have hW' := hW
  obtain ⟨p, q, hA0, hV, rfl, hfz, hnd⟩ := hW
  have hA : DataW.TrodAll enc Try.prog W 0 (fun _ => true) true Try.f3.params.toList args.toList ds p := hA0
  rw [Try.params3] at hA hval
  obtain ⟨v0, vs0, d0, ds0, p0, q0, hargs, rfl, rfl, h0, r0⟩ := trodAll_cons hA
  obtain ⟨v1, vs1, d1, ds1, p1, q1, rfl, rfl, rfl, h1, r1⟩ := trodAll_cons r0
  obtain ⟨rfl, rfl, rfl⟩ := trodAll_nil r1
  obtain rfl : args = #[v0, v1] := by cases args; simp_all
  obtain ⟨rfl, rfl⟩ := trodVars_none hV
  obtain ⟨A0, n0, c0, rfl⟩ := okWide_slice Try.underlying22 (hval 0 22 v0 rfl rfl)
  obtain ⟨fuel0, hf0⟩ := h0
  obtain ⟨X0, Y0, Z0, t0, hv0, ht0, hdat0⟩ := sl_of_trod hf0
  injection hv0 with e1 e2 e3
  subst e1; subst e2; subst e3
  have hl0 : t0.length ≤ 140737488355328 := by
    rcases hdat0 with ⟨_, rfl⟩ | ⟨es, sp, hd, hel⟩
    · simp
    · have hd' : d0 = .slice es sp := hd
      have hz' := hz
      have hv0 : (OpenSpec.ofChange Rows.sealSumsSpec).bare.plain.varTypes Try.prog = [] := by kernel_rfl
      have hb5 : Try.prog.bytesOf 5 = 1 := by kernel_rfl
      rw [hv0, List.append_nil, Try.params3] at hz'
      have hz2 : es.length + sp.length ≤ reachBytes := by
        have h3 := List.all_eq_true.1 hz' (es.length + sp.length) (by
          simp [DataW.weightsEach, DataW.weights, Try.underlying22, hd', hb5])
        exact of_decide_eq_true h3
      simp only [reachBytes] at hz2
      omega
  obtain ⟨A1, n1, c1, rfl⟩ := okWide_slice Try.underlying22 (hval 1 22 v1 rfl rfl)
  obtain ⟨fuel1, hf1⟩ := h1
  obtain ⟨X1, Y1, Z1, t1, hv1, ht1, hdat1⟩ := sl_of_trod hf1
  injection hv1 with e1 e2 e3
  subst e1; subst e2; subst e3
  have hl1 : t1.length ≤ 140737488355328 := by
    rcases hdat1 with ⟨_, rfl⟩ | ⟨es, sp, hd, hel⟩
    · simp
    · have hd' : d1 = .slice es sp := hd
      have hz' := hz
      have hv0 : (OpenSpec.ofChange Rows.sealSumsSpec).bare.plain.varTypes Try.prog = [] := by kernel_rfl
      have hb5 : Try.prog.bytesOf 5 = 1 := by kernel_rfl
      rw [hv0, List.append_nil, Try.params3] at hz'
      have hz2 : es.length + sp.length ≤ reachBytes := by
        have h3 := List.all_eq_true.1 hz' (es.length + sp.length) (by
          simp [DataW.weightsEach, DataW.weights, Try.underlying22, hd', hb5])
        exact of_decide_eq_true h3
      simp only [reachBytes] at hz2
      omega
  clear hA0
  refine (sums_true con A0 A1 n0 c0 n1 c1 t0 t1 W ht0 ht1 hl0 hl1).mono fun e W' ⟨he, hg⟩ => ?_
  subst he
  exact ⟨_, rfl, law_post rfl (by kernel_rfl) rfl (by kernel_rfl) hW' hg⟩

theorem reads (os : Os) {H : Type} (enc : TypeId × Value → H) : ∃ places, DataW.whole enc Try.prog ((World.holding Try.prog os ⟨#[], #[], []⟩).forCall (fun _ _ => 0) ⟨#[], #[.slice none 0 0, .slice none 0 0], []⟩).memory Try.f3.params.toList Rows.sealSumsSpec.vars false #[Value.slice none 0 0, Value.slice none 0 0].toList 8 = some ([.nil, .nil], [], places) :=
  ⟨[], by kernel_rfl⟩

theorem lifted (os : Os) (started : os.Started) (H : Type) (enc : TypeId × Value → H) (F : Stop.Interp) :
    ReturnsInHanded {} Try.checked os 3 .any ((OpenSpec.ofChange Rows.sealSumsSpec).preRow enc Try.prog Try.f3 Rows.sealSumsRow.domain false Rows.sealSumsRow.laid) (((OpenSpec.ofChange Rows.sealSumsSpec).at F).post enc Try.prog Try.f3 false true false false) := by
  obtain ⟨places, hx⟩ := reads os enc
  refine returnsInHanded_of_row (C := Try.checked) (s := OpenSpec.ofChange Rows.sealSumsSpec) own started (by kernel_rfl) Try.func3
    (witness_row_at (enc := enc) (C := Try.checked) false (World.holding Try.prog os ⟨#[], #[], []⟩) #[.slice none 0 0, .slice none 0 0] rfl (by kernel_rfl) (by kernel_rfl) (by kernel_rfl)
      (OpenSpec.preRow_of_cond 8 hx (by kernel_rfl) (fun k hk => by cases hk) (by kernel_rfl) (laidMet_nil _ _))) ?_
  intro W base args ds gs before hval hW _ hcond hz hL hsh _
  exact contract H enc W base args ds gs before hval hW hz

theorem said : Rows.SealSumsSaid :=
  OpenClaim.holds_of_cond 3 Try.f3 rfl rfl rfl rfl rfl rfl rfl ⟨rfl, rfl, rfl, rfl, rfl⟩ rfl rfl rfl rfl rfl (by kernel_rfl) Try.func3 (by kernel_rfl)
    (of_decide_eq_true (by kernel_rfl)) (by unfold Func.isWrapper; first | (rw [if_pos (by decide +kernel)]; kernel_rfl) | (rw [if_neg (by decide +kernel)]; exact ⟨rfl, rfl⟩))
    (fun os started H enc _ F => by rw [OpenClaim.pre_eq_preRow]; exact lifted os started H enc F)

#print axioms said

end Go.Proofs.Ytgkjcdhkiclheaa.sealSums
