/-
  The law ReadRounds, over the contracts.
-/
import Derived.Test.YtojejcafahighaaConQ
namespace Go.Proofs.Ytojejcafahighaa.pk
open Go Go.RowKit
set_option maxRecDepth 100000

set_option maxHeartbeats 16000000 in
theorem rounds_true (C : ConQ) (lim : Int) (l : List It) (A : Option Addr) (n c : Nat) (term : Int) (w : World) (h : Its w (.slice A n c) l) (hi : inI lim) :
    Calls Try.prog 4 #[.agg #[.int .i64 lim, .slice A n c], .int .i64 term] w fun y w' => y = .returned (.bool true) ∧ Below w.heap.size w w' := by
  obtain ⟨W1, g, hW1, hg, hbw, hq, hsz1⟩ := one_box w (.cells #[.int .i64 lim, .slice A n c] 42)
  have HW := Lib.hid (And.intro hW1 hg)
  have HE := Lib.hid hbw
  obtain ⟨hn, hnc, hcm⟩ := h.len_
  have HI := Lib.hid (And.intro (h.below hbw) hn)
  have HCL := Lib.hid (show ∀ W, Below W1.heap.size W1 W → W.cell? ⟨g, 0, none⟩ = some (.int .i64 lim) ∧ W.cell? ⟨g, 1, none⟩ = some (.slice A n c) from fun W hW => cells2 ((hW.block g (obj_lt hq)).trans hq))
  obtain ⟨x0, x1⟩ := HCL.out W1 (Below.refl _ _)
  have in1 : (n : Int) ≤ 9223372036854775807 := by omega
  have CS := Lib.hid fun W => sureQ C W
  by_cases hbig : 200 < (n : Int)
  · clear h hW1 hg hbw hq hsz1 hn hnc hcm
    go_enter Try.func4, Try.ntmps4
    go_upto_region 1 with fail
    rw [← HW.out.1, ← HW.out.2]
    go_wp2_with (go_at_call 9; go_must (refine (CS.out _).mono ?_; rintro y w1 ⟨rfl, hb1⟩; have HB := Lib.hid (HE.out.trans (hb1.mono HE.out.size)); clear hb1))
    go_ret
    exact ⟨rfl, HB.out⟩
  · have hl : l.length ≤ 200 := by omega
    have CG := Lib.hid fun W (hW : Below W1.heap.size W1 W) => give_any lim l A n c W (HI.out.1.below hW) (by omega)
    have CR := Lib.hid fun A' c' W (h : Its W (.slice A' n c') l) => C.qRounds lim l A' n c' term W h hi (by omega)
    have CF := Lib.hid fun W (hW : Below W1.heap.size W1 W) => Rounds_ref lim l A n c term W (HI.out.1.below hW) (by omega)
    clear h hW1 hg hbw hq hsz1 hn hnc hcm hl
    go_enter Try.func4, Try.ntmps4
    go_upto_region 1 with fail
    rw [← HW.out.1, ← HW.out.2]
    go_upto_region 3 with fail
    have hd0 : Below W1.heap.size W1 W1.drew := (Below.refl _ _).drew
    have HD := Lib.hid hd0
    refine wp_region_held_drew (S := fun W => Below W1.heap.size W1 W) (by kernel_rfl) hd0 (fun hHeld => ?_)
    clear x0 x1 hd0
    refine wpAnyH_take (i := 0) (oi := { dst := Option.some 10, op := Op.load 42 (Operand.tmp 2), type := 42, pos := "law.go:122", after := #[], guard := Option.none }) (v := .agg #[.int .i64 lim, .slice A n c]) rfl (by kernel_rfl) (by kernel_rfl) (by kernel_rfl) (fun _ _ _ h => h) (Or.inl ⟨by rfl, ?_⟩) hHeld ?_
    · intro W hSw
      obtain ⟨x0, x1⟩ := HCL.out _ hSw
      go_simp
    simp only [Act.put, List.setIfInBounds_toArray, List.set_cons_zero, List.set_cons_succ]
    refine wpAnyH_take (i := 2) (oi := { dst := Option.some 12, op := Op.move (Operand.tmp 1), type := 3, pos := "law.go:122", after := #[], guard := Option.none }) (v := .int .i64 term) rfl (by kernel_rfl) (by kernel_rfl) (by kernel_rfl) (fun _ _ _ h => h) (Or.inl ⟨by rfl, ?_⟩) hHeld ?_
    · intro W hSw
      go_simp
    simp only [Act.put, List.setIfInBounds_toArray, List.set_cons_zero, List.set_cons_succ]
    refine wpAnyH_take (i := 4) (oi := { dst := Option.some 14, op := Op.load 42 (Operand.tmp 2), type := 42, pos := "law.go:122", after := #[], guard := Option.none }) (v := .agg #[.int .i64 lim, .slice A n c]) rfl (by kernel_rfl) (by kernel_rfl) (by kernel_rfl) (fun _ _ _ h => h) (Or.inl ⟨by rfl, ?_⟩) hHeld ?_
    · intro W hSw
      obtain ⟨x0, x1⟩ := HCL.out _ hSw
      go_simp
    simp only [Act.put, List.setIfInBounds_toArray, List.set_cons_zero, List.set_cons_succ]
    refine wpAnyH_take (i := 5) (oi := { dst := Option.some 15, op := Op.move (Operand.tmp 1), type := 3, pos := "law.go:122", after := #[], guard := Option.none }) (v := .int .i64 term) rfl (by kernel_rfl) (by kernel_rfl) (by kernel_rfl) (fun _ _ _ h => h) (Or.inl ⟨by rfl, ?_⟩) hHeld ?_
    · intro W hSw
      go_simp
    simp only [Act.put, List.setIfInBounds_toArray, List.set_cons_zero, List.set_cons_succ]
    refine wpAnyH_ready (rs := [1]) (by kernel_rfl) (by simp) ?_
    refine AllReadyH.cons (o := { dst := Option.some 11, op := Op.call { callee := Callee.value (Operand.func 12), args := #[Operand.tmp 10], argTypes := #[42] }, type := 26, pos := "law.go:122", after := #[{ on := 0, ground := Ground.data }], guard := Option.none }) rfl (fun K hK => ?_) AllReadyH.nil
    go_simp
    refine (CG.out _ HD.out).mono ?_
    rintro y w1 ⟨A1, c1, rfl, hi1, hb1⟩
    have hi1 := hi1.its
    have hb1 := HD.out.trans (hb1.mono HD.out.size)
    have H1 := Lib.hid (And.intro hi1 hb1)
    refine hK.out _ _ hb1 (fun hHeld2 => ?_)
    clear hK K hHeld hi1 hb1
    have hHeld := hHeld2
    clear hHeld2
    refine wpAnyH_ready (rs := [3]) (by kernel_rfl) (by simp) ?_
    refine AllReadyH.cons (o := { dst := Option.some 13, op := Op.call { callee := Callee.value (Operand.func 11), args := #[Operand.tmp 11, Operand.tmp 12], argTypes := #[26, 3] }, type := 34, pos := "law.go:122", after := #[{ on := 1, ground := Ground.data }, { on := 2, ground := Ground.data }, { on := 1, ground := Ground.chain }], guard := Option.none }) rfl (fun K hK => ?_) AllReadyH.nil
    go_simp
    refine (CR.out _ _ _ H1.out.1).mono ?_
    rintro y w2 ⟨r2, A2, k2, c2, rfl, hk2, hr2, hi2, hb2⟩
    have hb2 := H1.out.2.trans (hb2.mono H1.out.2.size)
    have H2 := Lib.hid (And.intro hi2 (And.intro hb2 hr2))
    refine hK.out _ _ hb2 (fun hHeld2 => ?_)
    clear hK K hHeld hi2 hb2 hr2 hk2
    have hHeld := hHeld2
    clear hHeld2
    refine wpAnyH_ready (rs := [6]) (by kernel_rfl) (by simp) ?_
    refine AllReadyH.cons (o := { dst := Option.some 16, op := Op.call { callee := Callee.value (Operand.func 13), args := #[Operand.tmp 14, Operand.tmp 15], argTypes := #[42, 3] }, type := 34, pos := "law.go:122", after := #[{ on := 4, ground := Ground.data }, { on := 5, ground := Ground.data }, { on := 3, ground := Ground.chain }], guard := Option.none }) rfl (fun K hK => ?_) AllReadyH.nil
    go_simp
    refine (CF.out _ H2.out.2.1).mono ?_
    rintro y w3 ⟨r3, A3, k3, c3, rfl, hk3, hr3, hi3, hb3⟩
    obtain rfl := rounds_same hr3 H2.out.2.2
    have hi2 := H2.out.1.below hb3
    have hb3 := H2.out.2.1.trans (hb3.mono H2.out.2.1.size)
    have H3 := Lib.hid (And.intro hi3 (And.intro hb3 hi2))
    refine hK.out _ _ hb3 (fun hHeld2 => ?_)
    clear hK K hHeld hi3 hb3 hr3 hk3 hi2
    have hHeld := hHeld2
    clear hHeld2
    refine wpAnyH_ready (rs := [7]) (by kernel_rfl) (by simp) ?_
    refine AllReadyH.cons (o := { dst := Option.some 17, op := Op.call { callee := Callee.value (Operand.func 10), args := #[Operand.tmp 13, Operand.tmp 16], argTypes := #[34, 34] }, type := 4, pos := "law.go:122", after := #[{ on := 3, ground := Ground.data }, { on := 6, ground := Ground.data }, { on := 6, ground := Ground.chain }], guard := Option.none }) rfl (fun K hK => ?_) AllReadyH.nil
    go_simp
    refine (ints_any _ _ _ r3 _ _ _ r3 _ H3.out.2.2 H3.out.1 true (decide_eq_true rfl).symm).mono ?_
    rintro y w4 ⟨rfl, hb4⟩
    have hb4 := H3.out.2.1.trans (hb4.mono H3.out.2.1.size)
    have H4 := Lib.hid hb4
    refine hK.out _ _ hb4 (fun hHeld2 => ?_)
    clear hK K hHeld hb4
    have hHeld := hHeld2
    clear hHeld2
    refine wpAnyH_take (i := 8) (oi := { dst := Option.some 18, op := Op.move (Operand.tmp 17), type := 4, pos := "law.go:122", after := #[{ on := 7, ground := Ground.data }, { on := 7, ground := Ground.chain }], guard := Option.none }) (v := .bool true) rfl (by kernel_rfl) (by kernel_rfl) (by kernel_rfl) (fun _ _ _ h => h) (Or.inl ⟨by rfl, ?_⟩) hHeld ?_
    · intro W hSw
      go_simp
    simp only [Act.put, List.setIfInBounds_toArray, List.set_cons_zero, List.set_cons_succ]
    refine wpAnyH_ready (rs := [9]) (by kernel_rfl) (by simp) ?_
    refine AllReadyH.cons (o := { dst := Option.some 19, op := Op.call { callee := Callee.value (Operand.func 9), args := #[], argTypes := #[] }, type := 4, pos := "law.go:122", after := #[{ on := 8, ground := Ground.chain }, { on := 8, ground := Ground.guard }], guard := Option.some (8, true) }) rfl (fun K hK => ?_) AllReadyH.nil
    go_simp
    refine (CS.out _).mono ?_
    rintro y w5 ⟨rfl, hb5⟩
    have hb5 := H4.out.trans (hb5.mono H4.out.size)
    have H5 := Lib.hid hb5
    refine hK.out _ _ hb5 (fun hHeld2 => ?_)
    clear hK K hHeld hb5
    have hHeld := hHeld2
    clear hHeld2
    refine wpAnyH_take (i := 10) (oi := { dst := Option.some 20, op := Op.pick (Operand.tmp 18) (Operand.tmp 19) (Operand.const (Value.bool false)), type := 4, pos := "law.go:122", after := #[{ on := 8, ground := Ground.data }, { on := 9, ground := Ground.data }], guard := Option.none }) (v := .bool true) rfl (by kernel_rfl) (by kernel_rfl) (by kernel_rfl) (fun _ _ _ h => h) (Or.inl ⟨by rfl, ?_⟩) hHeld ?_
    · intro W hSw
      go_simp
    simp only [Act.put, List.setIfInBounds_toArray, List.set_cons_zero, List.set_cons_succ]
    refine wpAnyH_take (i := 11) (oi := { dst := Option.some 4, op := Op.assign (Operand.tmp 20), type := 4, pos := "law.go:122", after := #[{ on := 10, ground := Ground.data }, { on := 9, ground := Ground.chain }, { on := 0, ground := Ground.phase }, { on := 1, ground := Ground.phase }, { on := 2, ground := Ground.phase }, { on := 3, ground := Ground.phase }, { on := 4, ground := Ground.phase }, { on := 5, ground := Ground.phase }, { on := 6, ground := Ground.phase }, { on := 7, ground := Ground.phase }, { on := 8, ground := Ground.phase }, { on := 9, ground := Ground.phase }, { on := 10, ground := Ground.phase }], guard := Option.none }) (v := .bool true) rfl (by kernel_rfl) (by kernel_rfl) (by kernel_rfl) (fun _ _ _ h => h) (Or.inl ⟨by rfl, ?_⟩) hHeld ?_
    · intro W hSw
      go_simp
    simp only [Act.put, List.setIfInBounds_toArray, List.set_cons_zero, List.set_cons_succ]
    clear hHeld
    refine wpAnyH_done (by kernel_rfl) ?_ _
    go_wp2_with fail
    go_ret
    exact ⟨rfl, HE.out.trans (H5.out.mono HE.out.size)⟩

end Go.Proofs.Ytojejcafahighaa.pk
