/-
  The law MsgReads: walked.
-/
import Derived.Test.YtfblgkcipnkhaaaGreatDoorJk
import Derived.Test.YtfblgkcipnkhaaaGreatDoorJl
import Derived.Test.YtfblgkcipnkhaaaGreatDoorRdJ
namespace Go.Proofs.YtfblgkcipnkhaaaGreatDoor.pk
open Go Go.RowKit
set_option maxRecDepth 100000

theorem decM_small {b : List UInt8} {m : Ms} {k : Nat} (h : decM b = (m, k)) : m.data.length ≤ 10000 ∧ SmallE 200 25663 m.ents := by
  rcases decM_two b with ⟨h1, h2⟩ | ⟨h1, h2⟩
  · have h3 : (decM b).2 = 0 := by rw [h2]
    have h4 : mayM m = true := by
      have h5 := (decM_inv h3).2
      rw [h] at h5
      exact h5
    have h5 := mayM_iff.1 h4
    exact ⟨by omega, by omega, fun e he => by have := (fitM_iff.1 (h5.2.2 e he)).2.2.2.2.2.2; omega⟩
  · rw [h] at h2
    injection h2 with p1 p2
    subst p1
    exact ⟨by simp [zm], by simp [zm], fun e he => by simp [zm] at he⟩
theorem decM_kind (b : List UInt8) : (decM b).2 = 0 ∨ (decM b).2 = 3 := by
  rcases decM_two b with ⟨h1, h2⟩ | ⟨h1, h2⟩
  · exact Or.inl (by rw [h2])
  · exact Or.inr (by rw [h2])

set_option maxHeartbeats 16000000 in
theorem reads_true (C : ConM) (A : Option Addr) (n c : Nat) (b : List UInt8) (w : World) (hs : StdP w) (h : Bys w (.slice A n c) b) (hn : n ≤ 140737488355328) :
    Calls Tryz.prog 7 #[.slice A n c] w fun y w' => y = .returned (.bool true) ∧ Below w.heap.size w w' := by
  rcases hd : decM b with ⟨m, k⟩
  obtain ⟨hm1, hm2⟩ := decM_small hd
  obtain ⟨nd, hnd⟩ : ∃ nd, nd = m.data.length := ⟨_, rfl⟩
  obtain ⟨ne, hne⟩ : ∃ ne, ne = m.ents.length := ⟨_, rfl⟩
  have CD := Lib.hid (C.mDecode A n c b w hs h hn m k hd.symm nd ne hnd hne)
  have CR := Lib.hid fun W (hW : Below w.heap.size w W) => RefDecM_s A n c b W w.heap.size hW.size (h.sl_.below hW) m k hd.symm nd ne hnd hne
  obtain ⟨q, hq⟩ : ∃ q, q = (encM m).length := ⟨_, rfl⟩
  have CE := Lib.hid fun Ad cd Ae ce W hS hI => C.mEncode m Ad nd cd Ae ne ce W hS hI (by omega) hm2 q hq
  have CX := Lib.hid fun Ad cd Ae ce W hI => RefEncM_any m Ad nd cd Ae ne ce W hI (by omega) hm2 q hq
  have HS := Lib.hid fun W (hW : Below w.heap.size w W) => hs.more hW
  have HA := Lib.hid fun W (hW : Below w.heap.size w W) => h.below hW
  obtain ⟨X, hX⟩ : ∃ X : ByteArray, X = ⟨(encM m).toArray⟩ := ⟨_, rfl⟩
  have HXx := Lib.hid hX
  have hk := decM_kind b
  rw [hd] at hk
  rcases (show k = 3 ∨ k = 0 from by rcases hk with h1 | h1; exact Or.inr h1; exact Or.inl h1) with rfl | rfl
  · rw [er_ne (by decide)] at CD
    have e3 : ((3 : Nat) : Int) = 3 := rfl
    rw [e3] at CD CR
    have CN := Lib.hid fun W hS => num_some 3 W hS
    clear hd hm1 hm2 hnd hne hq hX hk hs h hn
    go_enter Tryz.func7, Tryz.ntmps7
    go_upto_region 2 with (go_at_call 11; go_must (refine CD.out.mono ?_; rintro y w1 ⟨Ad, cd, Ae, ce, rfl, hi, hb⟩; have H1 := Lib.hid (And.intro hi hb); clear hi hb))
    obtain ⟨W1, g1, hW1, hg1, hb1, hq1, -⟩ := one_box w1 (.cells #[.int .i64 m.kind, .int .i64 m.frm, .int .i64 m.to, .int .i64 m.term, .int .i64 m.index, .int .i64 m.logTerm, .int .i64 m.commit, .int .i64 m.round, .bool m.ok, .int .i64 m.off, .slice Ad nd cd, .slice Ae ne ce] 30)
    rw [← hW1, ← hg1]
    have HW1 := Lib.hid (And.intro (H1.out.2.trans (hb1.mono H1.out.2.size)) (And.intro (H1.out.1.below hb1) hq1))
    clear hW1 hg1 hb1 hq1
    go_upto_region 3 with (go_at_call 12; go_must (refine (CR.out W1 HW1.out.1).mono ?_; rintro y w2 ⟨Ad2, cd2, Ae2, ce2, rfl, hi, hb⟩; have H2 := Lib.hid (And.intro hi hb); clear hi hb))
    obtain ⟨W2, g2, hW2, hg2, hb2, hq2, -⟩ := one_box w2 (.cells #[.int .i64 m.kind, .int .i64 m.frm, .int .i64 m.to, .int .i64 m.term, .int .i64 m.index, .int .i64 m.logTerm, .int .i64 m.commit, .int .i64 m.round, .bool m.ok, .int .i64 m.off, .slice Ad2 nd cd2, .slice Ae2 ne ce2] 25)
    rw [← hW2, ← hg2]
    have hbb := H2.out.2.trans (hb2.mono H2.out.2.size)
    have HT := Lib.hid (HW1.out.1.trans (hbb.mono HW1.out.1.size))
    have HC1 := Lib.hid fun W (hW : Below W2.heap.size W2 W) => cells12 (((hW.block g1 (Nat.lt_of_lt_of_le (obj_lt HW1.out.2.2) hbb.size)).trans (hbb.block g1 (obj_lt HW1.out.2.2))).trans HW1.out.2.2)
    have HC2 := Lib.hid fun W (hW : Below W2.heap.size W2 W) => cells12 ((hW.block g2 (obj_lt hq2)).trans hq2)
    have HI1 := Lib.hid fun W (hW : Below W2.heap.size W2 W) => (HW1.out.2.1.below hbb).below hW
    have HI2 := Lib.hid fun W (hW : Below W2.heap.size W2 W) => ((H2.out.1.inM fun _ hq => hq.2).below hb2).below hW
    have HBA := Lib.hid (HA.out W2 HT.out)
    clear hW2 hg2 hb2 hq2 hbb
    have hd0 : Below W2.heap.size W2 W2.drew := (Below.refl _ _).drew
    refine wp_region_held_drew (S := fun W => Below W2.heap.size W2 W) (by kernel_rfl) hd0 (fun hHeld => ?_)
    obtain ⟨v0, hv0⟩ : ∃ V, V = W2.drew := ⟨_, rfl⟩
    rw [← hv0] at hd0 hHeld ⊢
    have HB := Lib.hid (Below.refl W2.heap.size W2)
    have HX := Lib.hid hd0
    have HQ := Lib.hid hd0
    clear hd0 hv0
    refine wpAnyH_take (i := 0) (oi := { dst := Option.some 17, op := Op.move (Operand.tmp 4), type := 32, pos := "law.go:122", after := #[], guard := Option.none }) (v := .iface 60 (.int .i64 3)) rfl (by kernel_rfl) (by kernel_rfl) (by kernel_rfl) (fun _ _ _ h => h) (Or.inl ⟨by rfl, ?_⟩) hHeld ?_
    · intro W hSw
      go_simp
    simp only [Act.put, List.setIfInBounds_toArray, List.set_cons_zero, List.set_cons_succ]
    refine wpAnyH_take (i := 2) (oi := { dst := Option.some 19, op := Op.move (Operand.tmp 6), type := 3, pos := "law.go:122", after := #[], guard := Option.none }) (v := .int .i64 3) rfl (by kernel_rfl) (by kernel_rfl) (by kernel_rfl) (fun _ _ _ h => h) (Or.inl ⟨by rfl, ?_⟩) hHeld ?_
    · intro W hSw
      go_simp
    simp only [Act.put, List.setIfInBounds_toArray, List.set_cons_zero, List.set_cons_succ]
    refine wpAnyH_ready (rs := [1]) (by kernel_rfl) (by simp) ?_
    refine AllReadyH.cons (o := { dst := Option.some 18, op := Op.call { callee := Callee.value (Operand.func 18), args := #[Operand.tmp 17], argTypes := #[32] }, type := 3, pos := "law.go:122", after := #[{ on := 0, ground := Ground.data }], guard := Option.none }) rfl (fun K hK => ?_) AllReadyH.nil
    go_simp
    refine (CN.out v0 (HS.out _ (HT.out.trans (HQ.out.mono HT.out.size))).std_).mono ?_
    rintro y v101 ⟨rfl, hb⟩
    have hbS := HX.out.trans (hb.mono HX.out.size)
    refine hK.out _ _ hbS (fun hHeld2 => ?_)
    clear hK K hHeld hHeld2
    have HBA := Lib.hid (HBA.out.below hbS)
    have HB := Lib.hid (HB.out.trans (hbS.mono HB.out.size))
    have HQ := Lib.hid HB.out
    refine heldStrong (S' := fun W => Below v101.heap.size v101 W) (fun W hW => hbS.trans (hW.mono hbS.size)) _ _ _ _ ?_
    have hHeld : Below v101.heap.size v101 v101 := Below.refl _ _
    have HX := Lib.hid (Below.refl v101.heap.size v101)
    clear hbS hb
    refine wpAnyH_take (i := 3) (oi := { dst := Option.some 20, op := Op.binOp BinOp.eql 3 (Operand.tmp 18) (Operand.tmp 19) 3, type := 4, pos := "law.go:122", after := #[{ on := 1, ground := Ground.data }, { on := 2, ground := Ground.data }], guard := Option.none }) (v := .bool true) rfl (by kernel_rfl) (by kernel_rfl) (by kernel_rfl) (fun _ _ _ h => h) (Or.inl ⟨by rfl, ?_⟩) hHeld ?_
    · intro W hSw
      go_simp
    simp only [Act.put, List.setIfInBounds_toArray, List.set_cons_zero, List.set_cons_succ]
    refine wpAnyH_take (i := 4) (oi := { dst := Option.some 21, op := Op.move (Operand.tmp 20), type := 4, pos := "law.go:122", after := #[{ on := 3, ground := Ground.data }, { on := 1, ground := Ground.chain }], guard := Option.none }) (v := .bool true) rfl (by kernel_rfl) (by kernel_rfl) (by kernel_rfl) (fun _ _ _ h => h) (Or.inl ⟨by rfl, ?_⟩) hHeld ?_
    · intro W hSw
      go_simp
    simp only [Act.put, List.setIfInBounds_toArray, List.set_cons_zero, List.set_cons_succ]
    refine wpAnyH_take (i := 5) (oi := { dst := Option.some 22, op := Op.load 30 (Operand.tmp 3), type := 30, pos := "law.go:122", after := #[{ on := 4, ground := Ground.guard }], guard := Option.some (4, true) }) (v := .agg #[.int .i64 m.kind, .int .i64 m.frm, .int .i64 m.to, .int .i64 m.term, .int .i64 m.index, .int .i64 m.logTerm, .int .i64 m.commit, .int .i64 m.round, .bool m.ok, .int .i64 m.off, .slice Ad nd cd, .slice Ae ne ce]) rfl (by kernel_rfl) (by kernel_rfl) (by kernel_rfl) (fun _ _ _ h => h) (Or.inl ⟨by rfl, ?_⟩) hHeld ?_
    · intro W hSw
      obtain ⟨z0, z1, z2, z3, z4, z5, z6, z7, z8, z9, z10, z11⟩ := HC1.out _ (HB.out.trans (hSw.mono HB.out.size))
      go_simp
    simp only [Act.put, List.setIfInBounds_toArray, List.set_cons_zero, List.set_cons_succ]
    refine wpAnyH_take (i := 8) (oi := { dst := Option.some 25, op := Op.load 25 (Operand.tmp 5), type := 25, pos := "law.go:122", after := #[{ on := 4, ground := Ground.guard }], guard := Option.some (4, true) }) (v := .agg #[.int .i64 m.kind, .int .i64 m.frm, .int .i64 m.to, .int .i64 m.term, .int .i64 m.index, .int .i64 m.logTerm, .int .i64 m.commit, .int .i64 m.round, .bool m.ok, .int .i64 m.off, .slice Ad2 nd cd2, .slice Ae2 ne ce2]) rfl (by kernel_rfl) (by kernel_rfl) (by kernel_rfl) (fun _ _ _ h => h) (Or.inl ⟨by rfl, ?_⟩) hHeld ?_
    · intro W hSw
      obtain ⟨z0, z1, z2, z3, z4, z5, z6, z7, z8, z9, z10, z11⟩ := HC2.out _ (HB.out.trans (hSw.mono HB.out.size))
      go_simp
    simp only [Act.put, List.setIfInBounds_toArray, List.set_cons_zero, List.set_cons_succ]
    refine wpAnyH_ready (rs := [6]) (by kernel_rfl) (by simp) ?_
    refine AllReadyH.cons (o := { dst := Option.some 23, op := Op.call { callee := Callee.value (Operand.func 16), args := #[Operand.tmp 22], argTypes := #[30] }, type := 22, pos := "law.go:122", after := #[{ on := 5, ground := Ground.data }, { on := 4, ground := Ground.chain }, { on := 4, ground := Ground.guard }], guard := Option.some (4, true) }) rfl (fun K hK => ?_) AllReadyH.nil
    go_simp
    refine (CE.out Ad cd Ae ce v101 (HS.out _ (HT.out.trans (HQ.out.mono HT.out.size))) (HI1.out _ HQ.out)).mono ?_
    rintro y v102 ⟨A5, c5, rfl, hi, hb⟩
    have hbS := HX.out.trans (hb.mono HX.out.size)
    refine hK.out _ _ hbS (fun hHeld2 => ?_)
    clear hK K hHeld hHeld2
    have HBA := Lib.hid (HBA.out.below hbS)
    have HE5 := Lib.hid (hi)
    have HB := Lib.hid (HB.out.trans (hbS.mono HB.out.size))
    have HQ := Lib.hid HB.out
    refine heldStrong (S' := fun W => Below v102.heap.size v102 W) (fun W hW => hbS.trans (hW.mono hbS.size)) _ _ _ _ ?_
    have hHeld : Below v102.heap.size v102 v102 := Below.refl _ _
    have HX := Lib.hid (Below.refl v102.heap.size v102)
    clear hbS hb hi
    refine wpAnyH_take (i := 7) (oi := { dst := Option.some 24, op := Op.convert 22 9 (Operand.tmp 23), type := 9, pos := "law.go:122", after := #[{ on := 6, ground := Ground.data }, { on := 4, ground := Ground.guard }], guard := Option.some (4, true) }) (v := .string X) rfl (by kernel_rfl) (by kernel_rfl) (by kernel_rfl) (fun _ _ _ h => h) (Or.inl ⟨by rfl, ?_⟩) hHeld ?_
    · intro W hSw
      have hv := conv_bytes (HE5.out.below hSw).sl_; rw [← HXx.out] at hv
      go_simp
    simp only [Act.put, List.setIfInBounds_toArray, List.set_cons_zero, List.set_cons_succ]
    refine wpAnyH_ready (rs := [9]) (by kernel_rfl) (by simp) ?_
    refine AllReadyH.cons (o := { dst := Option.some 26, op := Op.call { callee := Callee.value (Operand.func 17), args := #[Operand.tmp 25], argTypes := #[25] }, type := 22, pos := "law.go:122", after := #[{ on := 8, ground := Ground.data }, { on := 6, ground := Ground.chain }, { on := 4, ground := Ground.guard }], guard := Option.some (4, true) }) rfl (fun K hK => ?_) AllReadyH.nil
    go_simp
    refine (CX.out Ad2 cd2 Ae2 ce2 v102 (HI2.out _ HQ.out)).mono ?_
    rintro y v103 ⟨A6, c6, rfl, hi, hb⟩
    have hbS := HX.out.trans (hb.mono HX.out.size)
    refine hK.out _ _ hbS (fun hHeld2 => ?_)
    clear hK K hHeld hHeld2
    have HBA := Lib.hid (HBA.out.below hbS)
    have HE5 := Lib.hid (HE5.out.below hbS)
    have HE6 := Lib.hid (hi)
    have HB := Lib.hid (HB.out.trans (hbS.mono HB.out.size))
    have HQ := Lib.hid HB.out
    refine heldStrong (S' := fun W => Below v103.heap.size v103 W) (fun W hW => hbS.trans (hW.mono hbS.size)) _ _ _ _ ?_
    have hHeld : Below v103.heap.size v103 v103 := Below.refl _ _
    have HX := Lib.hid (Below.refl v103.heap.size v103)
    clear hbS hb hi
    refine wpAnyH_take (i := 10) (oi := { dst := Option.some 27, op := Op.convert 22 9 (Operand.tmp 26), type := 9, pos := "law.go:122", after := #[{ on := 9, ground := Ground.data }, { on := 4, ground := Ground.guard }], guard := Option.some (4, true) }) (v := .string X) rfl (by kernel_rfl) (by kernel_rfl) (by kernel_rfl) (fun _ _ _ h => h) (Or.inl ⟨by rfl, ?_⟩) hHeld ?_
    · intro W hSw
      have hv := conv_bytes (HE6.out.below hSw).sl_; rw [← HXx.out] at hv
      go_simp
    simp only [Act.put, List.setIfInBounds_toArray, List.set_cons_zero, List.set_cons_succ]
    refine wpAnyH_take (i := 11) (oi := { dst := Option.some 28, op := Op.binOp BinOp.eql 9 (Operand.tmp 24) (Operand.tmp 27) 9, type := 4, pos := "law.go:122", after := #[{ on := 7, ground := Ground.data }, { on := 10, ground := Ground.data }, { on := 4, ground := Ground.guard }], guard := Option.some (4, true) }) (v := .bool true) rfl (by kernel_rfl) (by kernel_rfl) (by kernel_rfl) (fun _ _ _ h => h) (Or.inl ⟨by rfl, ?_⟩) hHeld ?_
    · intro W hSw
      go_simp
    simp only [Act.put, List.setIfInBounds_toArray, List.set_cons_zero, List.set_cons_succ]
    refine wpAnyH_take (i := 12) (oi := { dst := Option.some 29, op := Op.pick (Operand.tmp 21) (Operand.tmp 28) (Operand.const (Value.bool false)), type := 4, pos := "law.go:122", after := #[{ on := 4, ground := Ground.data }, { on := 11, ground := Ground.data }], guard := Option.none }) (v := .bool true) rfl (by kernel_rfl) (by kernel_rfl) (by kernel_rfl) (fun _ _ _ h => h) (Or.inl ⟨by rfl, ?_⟩) hHeld ?_
    · intro W hSw
      go_simp
    simp only [Act.put, List.setIfInBounds_toArray, List.set_cons_zero, List.set_cons_succ]
    refine wpAnyH_take (i := 13) (oi := { dst := Option.some 30, op := Op.move (Operand.tmp 29), type := 4, pos := "law.go:122", after := #[{ on := 12, ground := Ground.data }, { on := 9, ground := Ground.chain }], guard := Option.none }) (v := .bool true) rfl (by kernel_rfl) (by kernel_rfl) (by kernel_rfl) (fun _ _ _ h => h) (Or.inl ⟨by rfl, ?_⟩) hHeld ?_
    · intro W hSw
      go_simp
    simp only [Act.put, List.setIfInBounds_toArray, List.set_cons_zero, List.set_cons_succ]
    refine wpAnyH_take (i := 14) (oi := { dst := Option.some 31, op := Op.move (Operand.tmp 4), type := 32, pos := "law.go:122", after := #[{ on := 13, ground := Ground.guard }], guard := Option.some (13, true) }) (v := .iface 60 (.int .i64 3)) rfl (by kernel_rfl) (by kernel_rfl) (by kernel_rfl) (fun _ _ _ h => h) (Or.inl ⟨by rfl, ?_⟩) hHeld ?_
    · intro W hSw
      go_simp
    simp only [Act.put, List.setIfInBounds_toArray, List.set_cons_zero, List.set_cons_succ]
    refine wpAnyH_take (i := 15) (oi := { dst := Option.some 32, op := Op.binOp BinOp.neq 32 (Operand.tmp 31) (Operand.const Value.nilIface) 32, type := 4, pos := "law.go:122", after := #[{ on := 14, ground := Ground.data }, { on := 13, ground := Ground.guard }], guard := Option.some (13, true) }) (v := .bool true) rfl (by kernel_rfl) (by kernel_rfl) (by kernel_rfl) (fun _ _ _ h => h) (Or.inl ⟨by rfl, ?_⟩) hHeld ?_
    · intro W hSw
      go_simp
    simp only [Act.put, List.setIfInBounds_toArray, List.set_cons_zero, List.set_cons_succ]
    refine wpAnyH_take (i := 16) (oi := { dst := Option.some 33, op := Op.move (Operand.tmp 32), type := 4, pos := "law.go:122", after := #[{ on := 15, ground := Ground.data }, { on := 13, ground := Ground.chain }, { on := 13, ground := Ground.guard }], guard := Option.some (13, true) }) (v := .bool true) rfl (by kernel_rfl) (by kernel_rfl) (by kernel_rfl) (fun _ _ _ h => h) (Or.inl ⟨by rfl, ?_⟩) hHeld ?_
    · intro W hSw
      go_simp
    simp only [Act.put, List.setIfInBounds_toArray, List.set_cons_zero, List.set_cons_succ]
    refine wpAnyH_take (i := 17) (oi := { dst := Option.some 34, op := Op.load 30 (Operand.tmp 3), type := 30, pos := "law.go:122", after := #[{ on := 16, ground := Ground.guard }], guard := Option.some (16, false) }) (v := undef) rfl (by kernel_rfl) (by kernel_rfl) (by kernel_rfl) (fun _ _ _ h => h) (Or.inr ⟨by rfl, rfl⟩) hHeld ?_
    simp only [Act.put, List.setIfInBounds_toArray, List.set_cons_zero, List.set_cons_succ]
    refine wpAnyH_take (i := 18) (oi := { dst := Option.some 35, op := Op.call { callee := Callee.value (Operand.func 13), args := #[Operand.tmp 34], argTypes := #[30] }, type := 32, pos := "law.go:122", after := #[{ on := 17, ground := Ground.data }, { on := 16, ground := Ground.chain }, { on := 16, ground := Ground.guard }], guard := Option.some (16, false) }) (v := undef) rfl (by kernel_rfl) (by kernel_rfl) (by kernel_rfl) (fun _ _ _ h => h) (Or.inr ⟨by rfl, rfl⟩) hHeld ?_
    simp only [Act.put, List.setIfInBounds_toArray, List.set_cons_zero, List.set_cons_succ]
    refine wpAnyH_take (i := 19) (oi := { dst := Option.some 36, op := Op.binOp BinOp.eql 32 (Operand.tmp 35) (Operand.const Value.nilIface) 32, type := 4, pos := "law.go:122", after := #[{ on := 18, ground := Ground.data }, { on := 16, ground := Ground.guard }], guard := Option.some (16, false) }) (v := undef) rfl (by kernel_rfl) (by kernel_rfl) (by kernel_rfl) (fun _ _ _ h => h) (Or.inr ⟨by rfl, rfl⟩) hHeld ?_
    simp only [Act.put, List.setIfInBounds_toArray, List.set_cons_zero, List.set_cons_succ]
    refine wpAnyH_take (i := 20) (oi := { dst := Option.some 37, op := Op.move (Operand.tmp 36), type := 4, pos := "law.go:122", after := #[{ on := 19, ground := Ground.data }, { on := 18, ground := Ground.chain }, { on := 16, ground := Ground.guard }], guard := Option.some (16, false) }) (v := undef) rfl (by kernel_rfl) (by kernel_rfl) (by kernel_rfl) (fun _ _ _ h => h) (Or.inr ⟨by rfl, rfl⟩) hHeld ?_
    simp only [Act.put, List.setIfInBounds_toArray, List.set_cons_zero, List.set_cons_succ]
    refine wpAnyH_take (i := 21) (oi := { dst := Option.some 38, op := Op.load 30 (Operand.tmp 3), type := 30, pos := "law.go:122", after := #[{ on := 20, ground := Ground.guard }], guard := Option.some (20, true) }) (v := undef) rfl (by kernel_rfl) (by kernel_rfl) (by kernel_rfl) (fun _ _ _ h => h) (Or.inr ⟨by rfl, rfl⟩) hHeld ?_
    simp only [Act.put, List.setIfInBounds_toArray, List.set_cons_zero, List.set_cons_succ]
    refine wpAnyH_take (i := 22) (oi := { dst := Option.some 39, op := Op.call { callee := Callee.value (Operand.func 16), args := #[Operand.tmp 38], argTypes := #[30] }, type := 22, pos := "law.go:122", after := #[{ on := 21, ground := Ground.data }, { on := 20, ground := Ground.chain }, { on := 20, ground := Ground.guard }], guard := Option.some (20, true) }) (v := undef) rfl (by kernel_rfl) (by kernel_rfl) (by kernel_rfl) (fun _ _ _ h => h) (Or.inr ⟨by rfl, rfl⟩) hHeld ?_
    simp only [Act.put, List.setIfInBounds_toArray, List.set_cons_zero, List.set_cons_succ]
    refine wpAnyH_take (i := 23) (oi := { dst := Option.some 40, op := Op.convert 22 9 (Operand.tmp 39), type := 9, pos := "law.go:122", after := #[{ on := 22, ground := Ground.data }, { on := 20, ground := Ground.guard }], guard := Option.some (20, true) }) (v := undef) rfl (by kernel_rfl) (by kernel_rfl) (by kernel_rfl) (fun _ _ _ h => h) (Or.inr ⟨by rfl, rfl⟩) hHeld ?_
    simp only [Act.put, List.setIfInBounds_toArray, List.set_cons_zero, List.set_cons_succ]
    refine wpAnyH_take (i := 24) (oi := { dst := Option.some 41, op := Op.move (Operand.tmp 0), type := 22, pos := "law.go:122", after := #[{ on := 20, ground := Ground.guard }], guard := Option.some (20, true) }) (v := undef) rfl (by kernel_rfl) (by kernel_rfl) (by kernel_rfl) (fun _ _ _ h => h) (Or.inr ⟨by rfl, rfl⟩) hHeld ?_
    simp only [Act.put, List.setIfInBounds_toArray, List.set_cons_zero, List.set_cons_succ]
    refine wpAnyH_take (i := 25) (oi := { dst := Option.some 42, op := Op.convert 22 9 (Operand.tmp 41), type := 9, pos := "law.go:122", after := #[{ on := 24, ground := Ground.data }, { on := 20, ground := Ground.guard }], guard := Option.some (20, true) }) (v := undef) rfl (by kernel_rfl) (by kernel_rfl) (by kernel_rfl) (fun _ _ _ h => h) (Or.inr ⟨by rfl, rfl⟩) hHeld ?_
    simp only [Act.put, List.setIfInBounds_toArray, List.set_cons_zero, List.set_cons_succ]
    refine wpAnyH_take (i := 26) (oi := { dst := Option.some 43, op := Op.binOp BinOp.eql 9 (Operand.tmp 40) (Operand.tmp 42) 9, type := 4, pos := "law.go:122", after := #[{ on := 23, ground := Ground.data }, { on := 25, ground := Ground.data }, { on := 20, ground := Ground.guard }], guard := Option.some (20, true) }) (v := undef) rfl (by kernel_rfl) (by kernel_rfl) (by kernel_rfl) (fun _ _ _ h => h) (Or.inr ⟨by rfl, rfl⟩) hHeld ?_
    simp only [Act.put, List.setIfInBounds_toArray, List.set_cons_zero, List.set_cons_succ]
    refine wpAnyH_take (i := 27) (oi := { dst := Option.some 44, op := Op.pick (Operand.tmp 37) (Operand.tmp 43) (Operand.const (Value.bool false)), type := 4, pos := "law.go:122", after := #[{ on := 20, ground := Ground.data }, { on := 26, ground := Ground.data }, { on := 16, ground := Ground.guard }], guard := Option.some (16, false) }) (v := undef) rfl (by kernel_rfl) (by kernel_rfl) (by kernel_rfl) (fun _ _ _ h => h) (Or.inr ⟨by rfl, rfl⟩) hHeld ?_
    simp only [Act.put, List.setIfInBounds_toArray, List.set_cons_zero, List.set_cons_succ]
    refine wpAnyH_take (i := 28) (oi := { dst := Option.some 45, op := Op.pick (Operand.tmp 33) (Operand.const (Value.bool true)) (Operand.tmp 44), type := 4, pos := "law.go:122", after := #[{ on := 16, ground := Ground.data }, { on := 27, ground := Ground.data }, { on := 13, ground := Ground.guard }], guard := Option.some (13, true) }) (v := .bool true) rfl (by kernel_rfl) (by kernel_rfl) (by kernel_rfl) (fun _ _ _ h => h) (Or.inl ⟨by rfl, ?_⟩) hHeld ?_
    · intro W hSw
      go_simp
    simp only [Act.put, List.setIfInBounds_toArray, List.set_cons_zero, List.set_cons_succ]
    refine wpAnyH_take (i := 29) (oi := { dst := Option.some 46, op := Op.pick (Operand.tmp 30) (Operand.tmp 45) (Operand.const (Value.bool false)), type := 4, pos := "law.go:122", after := #[{ on := 13, ground := Ground.data }, { on := 28, ground := Ground.data }], guard := Option.none }) (v := .bool true) rfl (by kernel_rfl) (by kernel_rfl) (by kernel_rfl) (fun _ _ _ h => h) (Or.inl ⟨by rfl, ?_⟩) hHeld ?_
    · intro W hSw
      go_simp
    simp only [Act.put, List.setIfInBounds_toArray, List.set_cons_zero, List.set_cons_succ]
    refine wpAnyH_take (i := 30) (oi := { dst := Option.some 47, op := Op.move (Operand.tmp 46), type := 4, pos := "law.go:122", after := #[{ on := 29, ground := Ground.data }, { on := 22, ground := Ground.chain }], guard := Option.none }) (v := .bool true) rfl (by kernel_rfl) (by kernel_rfl) (by kernel_rfl) (fun _ _ _ h => h) (Or.inl ⟨by rfl, ?_⟩) hHeld ?_
    · intro W hSw
      go_simp
    simp only [Act.put, List.setIfInBounds_toArray, List.set_cons_zero, List.set_cons_succ]
    refine wpAnyH_ready (rs := [31]) (by kernel_rfl) (by simp) ?_
    refine AllReadyH.cons (o := { dst := Option.some 48, op := Op.call { callee := Callee.value (Operand.func 10), args := #[], argTypes := #[] }, type := 4, pos := "law.go:122", after := #[{ on := 30, ground := Ground.chain }, { on := 30, ground := Ground.guard }], guard := Option.some (30, true) }) rfl (fun K hK => ?_) AllReadyH.nil
    go_simp
    refine (sureM C v103 (HS.out _ (HT.out.trans (HQ.out.mono HT.out.size)))).mono ?_
    rintro y v104 ⟨rfl, hb⟩
    have hbS := HX.out.trans (hb.mono HX.out.size)
    refine hK.out _ _ hbS (fun hHeld2 => ?_)
    clear hK K hHeld hHeld2
    have HBA := Lib.hid (HBA.out.below hbS)
    have HE5 := Lib.hid (HE5.out.below hbS)
    have HE6 := Lib.hid (HE6.out.below hbS)
    have HB := Lib.hid (HB.out.trans (hbS.mono HB.out.size))
    have HQ := Lib.hid HB.out
    refine heldStrong (S' := fun W => Below v104.heap.size v104 W) (fun W hW => hbS.trans (hW.mono hbS.size)) _ _ _ _ ?_
    have hHeld : Below v104.heap.size v104 v104 := Below.refl _ _
    have HX := Lib.hid (Below.refl v104.heap.size v104)
    clear hbS hb
    refine wpAnyH_take (i := 32) (oi := { dst := Option.some 49, op := Op.pick (Operand.tmp 47) (Operand.tmp 48) (Operand.const (Value.bool false)), type := 4, pos := "law.go:122", after := #[{ on := 30, ground := Ground.data }, { on := 31, ground := Ground.data }], guard := Option.none }) (v := .bool true) rfl (by kernel_rfl) (by kernel_rfl) (by kernel_rfl) (fun _ _ _ h => h) (Or.inl ⟨by rfl, ?_⟩) hHeld ?_
    · intro W hSw
      go_simp
    simp only [Act.put, List.setIfInBounds_toArray, List.set_cons_zero, List.set_cons_succ]
    refine wpAnyH_take (i := 33) (oi := { dst := Option.some 2, op := Op.assign (Operand.tmp 49), type := 4, pos := "law.go:122", after := #[{ on := 32, ground := Ground.data }, { on := 31, ground := Ground.chain }, { on := 0, ground := Ground.phase }, { on := 1, ground := Ground.phase }, { on := 2, ground := Ground.phase }, { on := 3, ground := Ground.phase }, { on := 4, ground := Ground.phase }, { on := 5, ground := Ground.phase }, { on := 6, ground := Ground.phase }, { on := 7, ground := Ground.phase }, { on := 8, ground := Ground.phase }, { on := 9, ground := Ground.phase }, { on := 10, ground := Ground.phase }, { on := 11, ground := Ground.phase }, { on := 12, ground := Ground.phase }, { on := 13, ground := Ground.phase }, { on := 14, ground := Ground.phase }, { on := 15, ground := Ground.phase }, { on := 16, ground := Ground.phase }, { on := 17, ground := Ground.phase }, { on := 18, ground := Ground.phase }, { on := 19, ground := Ground.phase }, { on := 20, ground := Ground.phase }, { on := 21, ground := Ground.phase }, { on := 22, ground := Ground.phase }, { on := 23, ground := Ground.phase }, { on := 24, ground := Ground.phase }, { on := 25, ground := Ground.phase }, { on := 26, ground := Ground.phase }, { on := 27, ground := Ground.phase }, { on := 28, ground := Ground.phase }, { on := 29, ground := Ground.phase }, { on := 30, ground := Ground.phase }, { on := 31, ground := Ground.phase }, { on := 32, ground := Ground.phase }], guard := Option.none }) (v := .bool true) rfl (by kernel_rfl) (by kernel_rfl) (by kernel_rfl) (fun _ _ _ h => h) (Or.inl ⟨by rfl, ?_⟩) hHeld ?_
    · intro W hSw
      go_simp
    simp only [Act.put, List.setIfInBounds_toArray, List.set_cons_zero, List.set_cons_succ]
    clear hHeld
    refine wpAnyH_done (by kernel_rfl) ?_ _
    go_wp2_with fail
    go_ret
    exact ⟨rfl, HT.out.trans (HQ.out.mono HT.out.size)⟩
  · rw [er_zero] at CD
    have e0 : ((0 : Nat) : Int) = 0 := rfl
    rw [e0] at CR
    have CN := Lib.hid fun W (_ : Std W) => num_none W
    have hinv : b = encM m ∧ mayM m = true := by
      have h5 := decM_inv (b := b) (by rw [hd])
      rw [hd] at h5
      exact h5
    have CC := Lib.hid fun Ad cd Ae ce W hS hI => C.mCheck m Ad nd cd Ae ne ce W hS hI (by omega) hm2 0 (by rw [if_pos hinv.2])
    rw [er_zero] at CC
    have HBB := Lib.hid (show X = ⟨b.toArray⟩ by rw [hX, ← hinv.1])
    clear hinv
    clear hd hm1 hm2 hnd hne hq hX hk hs h hn
    go_enter Tryz.func7, Tryz.ntmps7
    go_upto_region 2 with (go_at_call 11; go_must (refine CD.out.mono ?_; rintro y w1 ⟨Ad, cd, Ae, ce, rfl, hi, hb⟩; have H1 := Lib.hid (And.intro hi hb); clear hi hb))
    obtain ⟨W1, g1, hW1, hg1, hb1, hq1, -⟩ := one_box w1 (.cells #[.int .i64 m.kind, .int .i64 m.frm, .int .i64 m.to, .int .i64 m.term, .int .i64 m.index, .int .i64 m.logTerm, .int .i64 m.commit, .int .i64 m.round, .bool m.ok, .int .i64 m.off, .slice Ad nd cd, .slice Ae ne ce] 30)
    rw [← hW1, ← hg1]
    have HW1 := Lib.hid (And.intro (H1.out.2.trans (hb1.mono H1.out.2.size)) (And.intro (H1.out.1.below hb1) hq1))
    clear hW1 hg1 hb1 hq1
    go_upto_region 3 with (go_at_call 12; go_must (refine (CR.out W1 HW1.out.1).mono ?_; rintro y w2 ⟨Ad2, cd2, Ae2, ce2, rfl, hi, hb⟩; have H2 := Lib.hid (And.intro hi hb); clear hi hb))
    obtain ⟨W2, g2, hW2, hg2, hb2, hq2, -⟩ := one_box w2 (.cells #[.int .i64 m.kind, .int .i64 m.frm, .int .i64 m.to, .int .i64 m.term, .int .i64 m.index, .int .i64 m.logTerm, .int .i64 m.commit, .int .i64 m.round, .bool m.ok, .int .i64 m.off, .slice Ad2 nd cd2, .slice Ae2 ne ce2] 25)
    rw [← hW2, ← hg2]
    have hbb := H2.out.2.trans (hb2.mono H2.out.2.size)
    have HT := Lib.hid (HW1.out.1.trans (hbb.mono HW1.out.1.size))
    have HC1 := Lib.hid fun W (hW : Below W2.heap.size W2 W) => cells12 (((hW.block g1 (Nat.lt_of_lt_of_le (obj_lt HW1.out.2.2) hbb.size)).trans (hbb.block g1 (obj_lt HW1.out.2.2))).trans HW1.out.2.2)
    have HC2 := Lib.hid fun W (hW : Below W2.heap.size W2 W) => cells12 ((hW.block g2 (obj_lt hq2)).trans hq2)
    have HI1 := Lib.hid fun W (hW : Below W2.heap.size W2 W) => (HW1.out.2.1.below hbb).below hW
    have HI2 := Lib.hid fun W (hW : Below W2.heap.size W2 W) => ((H2.out.1.inM fun _ hq => hq.2).below hb2).below hW
    have HBA := Lib.hid (HA.out W2 HT.out)
    clear hW2 hg2 hb2 hq2 hbb
    have hd0 : Below W2.heap.size W2 W2.drew := (Below.refl _ _).drew
    refine wp_region_held_drew (S := fun W => Below W2.heap.size W2 W) (by kernel_rfl) hd0 (fun hHeld => ?_)
    obtain ⟨v0, hv0⟩ : ∃ V, V = W2.drew := ⟨_, rfl⟩
    rw [← hv0] at hd0 hHeld ⊢
    have HB := Lib.hid (Below.refl W2.heap.size W2)
    have HX := Lib.hid hd0
    have HQ := Lib.hid hd0
    clear hd0 hv0
    refine wpAnyH_take (i := 0) (oi := { dst := Option.some 17, op := Op.move (Operand.tmp 4), type := 32, pos := "law.go:122", after := #[], guard := Option.none }) (v := .nilIface) rfl (by kernel_rfl) (by kernel_rfl) (by kernel_rfl) (fun _ _ _ h => h) (Or.inl ⟨by rfl, ?_⟩) hHeld ?_
    · intro W hSw
      go_simp
    simp only [Act.put, List.setIfInBounds_toArray, List.set_cons_zero, List.set_cons_succ]
    refine wpAnyH_take (i := 2) (oi := { dst := Option.some 19, op := Op.move (Operand.tmp 6), type := 3, pos := "law.go:122", after := #[], guard := Option.none }) (v := .int .i64 0) rfl (by kernel_rfl) (by kernel_rfl) (by kernel_rfl) (fun _ _ _ h => h) (Or.inl ⟨by rfl, ?_⟩) hHeld ?_
    · intro W hSw
      go_simp
    simp only [Act.put, List.setIfInBounds_toArray, List.set_cons_zero, List.set_cons_succ]
    refine wpAnyH_ready (rs := [1]) (by kernel_rfl) (by simp) ?_
    refine AllReadyH.cons (o := { dst := Option.some 18, op := Op.call { callee := Callee.value (Operand.func 18), args := #[Operand.tmp 17], argTypes := #[32] }, type := 3, pos := "law.go:122", after := #[{ on := 0, ground := Ground.data }], guard := Option.none }) rfl (fun K hK => ?_) AllReadyH.nil
    go_simp
    refine (CN.out v0 (HS.out _ (HT.out.trans (HQ.out.mono HT.out.size))).std_).mono ?_
    rintro y v105 ⟨rfl, hb⟩
    have hbS := HX.out.trans (hb.mono HX.out.size)
    refine hK.out _ _ hbS (fun hHeld2 => ?_)
    clear hK K hHeld hHeld2
    have HBA := Lib.hid (HBA.out.below hbS)
    have HB := Lib.hid (HB.out.trans (hbS.mono HB.out.size))
    have HQ := Lib.hid HB.out
    refine heldStrong (S' := fun W => Below v105.heap.size v105 W) (fun W hW => hbS.trans (hW.mono hbS.size)) _ _ _ _ ?_
    have hHeld : Below v105.heap.size v105 v105 := Below.refl _ _
    have HX := Lib.hid (Below.refl v105.heap.size v105)
    clear hbS hb
    refine wpAnyH_take (i := 3) (oi := { dst := Option.some 20, op := Op.binOp BinOp.eql 3 (Operand.tmp 18) (Operand.tmp 19) 3, type := 4, pos := "law.go:122", after := #[{ on := 1, ground := Ground.data }, { on := 2, ground := Ground.data }], guard := Option.none }) (v := .bool true) rfl (by kernel_rfl) (by kernel_rfl) (by kernel_rfl) (fun _ _ _ h => h) (Or.inl ⟨by rfl, ?_⟩) hHeld ?_
    · intro W hSw
      go_simp
    simp only [Act.put, List.setIfInBounds_toArray, List.set_cons_zero, List.set_cons_succ]
    refine wpAnyH_take (i := 4) (oi := { dst := Option.some 21, op := Op.move (Operand.tmp 20), type := 4, pos := "law.go:122", after := #[{ on := 3, ground := Ground.data }, { on := 1, ground := Ground.chain }], guard := Option.none }) (v := .bool true) rfl (by kernel_rfl) (by kernel_rfl) (by kernel_rfl) (fun _ _ _ h => h) (Or.inl ⟨by rfl, ?_⟩) hHeld ?_
    · intro W hSw
      go_simp
    simp only [Act.put, List.setIfInBounds_toArray, List.set_cons_zero, List.set_cons_succ]
    refine wpAnyH_take (i := 5) (oi := { dst := Option.some 22, op := Op.load 30 (Operand.tmp 3), type := 30, pos := "law.go:122", after := #[{ on := 4, ground := Ground.guard }], guard := Option.some (4, true) }) (v := .agg #[.int .i64 m.kind, .int .i64 m.frm, .int .i64 m.to, .int .i64 m.term, .int .i64 m.index, .int .i64 m.logTerm, .int .i64 m.commit, .int .i64 m.round, .bool m.ok, .int .i64 m.off, .slice Ad nd cd, .slice Ae ne ce]) rfl (by kernel_rfl) (by kernel_rfl) (by kernel_rfl) (fun _ _ _ h => h) (Or.inl ⟨by rfl, ?_⟩) hHeld ?_
    · intro W hSw
      obtain ⟨z0, z1, z2, z3, z4, z5, z6, z7, z8, z9, z10, z11⟩ := HC1.out _ (HB.out.trans (hSw.mono HB.out.size))
      go_simp
    simp only [Act.put, List.setIfInBounds_toArray, List.set_cons_zero, List.set_cons_succ]
    refine wpAnyH_take (i := 8) (oi := { dst := Option.some 25, op := Op.load 25 (Operand.tmp 5), type := 25, pos := "law.go:122", after := #[{ on := 4, ground := Ground.guard }], guard := Option.some (4, true) }) (v := .agg #[.int .i64 m.kind, .int .i64 m.frm, .int .i64 m.to, .int .i64 m.term, .int .i64 m.index, .int .i64 m.logTerm, .int .i64 m.commit, .int .i64 m.round, .bool m.ok, .int .i64 m.off, .slice Ad2 nd cd2, .slice Ae2 ne ce2]) rfl (by kernel_rfl) (by kernel_rfl) (by kernel_rfl) (fun _ _ _ h => h) (Or.inl ⟨by rfl, ?_⟩) hHeld ?_
    · intro W hSw
      obtain ⟨z0, z1, z2, z3, z4, z5, z6, z7, z8, z9, z10, z11⟩ := HC2.out _ (HB.out.trans (hSw.mono HB.out.size))
      go_simp
    simp only [Act.put, List.setIfInBounds_toArray, List.set_cons_zero, List.set_cons_succ]
    refine wpAnyH_ready (rs := [6]) (by kernel_rfl) (by simp) ?_
    refine AllReadyH.cons (o := { dst := Option.some 23, op := Op.call { callee := Callee.value (Operand.func 16), args := #[Operand.tmp 22], argTypes := #[30] }, type := 22, pos := "law.go:122", after := #[{ on := 5, ground := Ground.data }, { on := 4, ground := Ground.chain }, { on := 4, ground := Ground.guard }], guard := Option.some (4, true) }) rfl (fun K hK => ?_) AllReadyH.nil
    go_simp
    refine (CE.out Ad cd Ae ce v105 (HS.out _ (HT.out.trans (HQ.out.mono HT.out.size))) (HI1.out _ HQ.out)).mono ?_
    rintro y v106 ⟨A5, c5, rfl, hi, hb⟩
    have hbS := HX.out.trans (hb.mono HX.out.size)
    refine hK.out _ _ hbS (fun hHeld2 => ?_)
    clear hK K hHeld hHeld2
    have HBA := Lib.hid (HBA.out.below hbS)
    have HE5 := Lib.hid (hi)
    have HB := Lib.hid (HB.out.trans (hbS.mono HB.out.size))
    have HQ := Lib.hid HB.out
    refine heldStrong (S' := fun W => Below v106.heap.size v106 W) (fun W hW => hbS.trans (hW.mono hbS.size)) _ _ _ _ ?_
    have hHeld : Below v106.heap.size v106 v106 := Below.refl _ _
    have HX := Lib.hid (Below.refl v106.heap.size v106)
    clear hbS hb hi
    refine wpAnyH_take (i := 7) (oi := { dst := Option.some 24, op := Op.convert 22 9 (Operand.tmp 23), type := 9, pos := "law.go:122", after := #[{ on := 6, ground := Ground.data }, { on := 4, ground := Ground.guard }], guard := Option.some (4, true) }) (v := .string X) rfl (by kernel_rfl) (by kernel_rfl) (by kernel_rfl) (fun _ _ _ h => h) (Or.inl ⟨by rfl, ?_⟩) hHeld ?_
    · intro W hSw
      have hv := conv_bytes (HE5.out.below hSw).sl_; rw [← HXx.out] at hv
      go_simp
    simp only [Act.put, List.setIfInBounds_toArray, List.set_cons_zero, List.set_cons_succ]
    refine wpAnyH_ready (rs := [9]) (by kernel_rfl) (by simp) ?_
    refine AllReadyH.cons (o := { dst := Option.some 26, op := Op.call { callee := Callee.value (Operand.func 17), args := #[Operand.tmp 25], argTypes := #[25] }, type := 22, pos := "law.go:122", after := #[{ on := 8, ground := Ground.data }, { on := 6, ground := Ground.chain }, { on := 4, ground := Ground.guard }], guard := Option.some (4, true) }) rfl (fun K hK => ?_) AllReadyH.nil
    go_simp
    refine (CX.out Ad2 cd2 Ae2 ce2 v106 (HI2.out _ HQ.out)).mono ?_
    rintro y v107 ⟨A6, c6, rfl, hi, hb⟩
    have hbS := HX.out.trans (hb.mono HX.out.size)
    refine hK.out _ _ hbS (fun hHeld2 => ?_)
    clear hK K hHeld hHeld2
    have HBA := Lib.hid (HBA.out.below hbS)
    have HE5 := Lib.hid (HE5.out.below hbS)
    have HE6 := Lib.hid (hi)
    have HB := Lib.hid (HB.out.trans (hbS.mono HB.out.size))
    have HQ := Lib.hid HB.out
    refine heldStrong (S' := fun W => Below v107.heap.size v107 W) (fun W hW => hbS.trans (hW.mono hbS.size)) _ _ _ _ ?_
    have hHeld : Below v107.heap.size v107 v107 := Below.refl _ _
    have HX := Lib.hid (Below.refl v107.heap.size v107)
    clear hbS hb hi
    refine wpAnyH_take (i := 10) (oi := { dst := Option.some 27, op := Op.convert 22 9 (Operand.tmp 26), type := 9, pos := "law.go:122", after := #[{ on := 9, ground := Ground.data }, { on := 4, ground := Ground.guard }], guard := Option.some (4, true) }) (v := .string X) rfl (by kernel_rfl) (by kernel_rfl) (by kernel_rfl) (fun _ _ _ h => h) (Or.inl ⟨by rfl, ?_⟩) hHeld ?_
    · intro W hSw
      have hv := conv_bytes (HE6.out.below hSw).sl_; rw [← HXx.out] at hv
      go_simp
    simp only [Act.put, List.setIfInBounds_toArray, List.set_cons_zero, List.set_cons_succ]
    refine wpAnyH_take (i := 11) (oi := { dst := Option.some 28, op := Op.binOp BinOp.eql 9 (Operand.tmp 24) (Operand.tmp 27) 9, type := 4, pos := "law.go:122", after := #[{ on := 7, ground := Ground.data }, { on := 10, ground := Ground.data }, { on := 4, ground := Ground.guard }], guard := Option.some (4, true) }) (v := .bool true) rfl (by kernel_rfl) (by kernel_rfl) (by kernel_rfl) (fun _ _ _ h => h) (Or.inl ⟨by rfl, ?_⟩) hHeld ?_
    · intro W hSw
      go_simp
    simp only [Act.put, List.setIfInBounds_toArray, List.set_cons_zero, List.set_cons_succ]
    refine wpAnyH_take (i := 12) (oi := { dst := Option.some 29, op := Op.pick (Operand.tmp 21) (Operand.tmp 28) (Operand.const (Value.bool false)), type := 4, pos := "law.go:122", after := #[{ on := 4, ground := Ground.data }, { on := 11, ground := Ground.data }], guard := Option.none }) (v := .bool true) rfl (by kernel_rfl) (by kernel_rfl) (by kernel_rfl) (fun _ _ _ h => h) (Or.inl ⟨by rfl, ?_⟩) hHeld ?_
    · intro W hSw
      go_simp
    simp only [Act.put, List.setIfInBounds_toArray, List.set_cons_zero, List.set_cons_succ]
    refine wpAnyH_take (i := 13) (oi := { dst := Option.some 30, op := Op.move (Operand.tmp 29), type := 4, pos := "law.go:122", after := #[{ on := 12, ground := Ground.data }, { on := 9, ground := Ground.chain }], guard := Option.none }) (v := .bool true) rfl (by kernel_rfl) (by kernel_rfl) (by kernel_rfl) (fun _ _ _ h => h) (Or.inl ⟨by rfl, ?_⟩) hHeld ?_
    · intro W hSw
      go_simp
    simp only [Act.put, List.setIfInBounds_toArray, List.set_cons_zero, List.set_cons_succ]
    refine wpAnyH_take (i := 14) (oi := { dst := Option.some 31, op := Op.move (Operand.tmp 4), type := 32, pos := "law.go:122", after := #[{ on := 13, ground := Ground.guard }], guard := Option.some (13, true) }) (v := .nilIface) rfl (by kernel_rfl) (by kernel_rfl) (by kernel_rfl) (fun _ _ _ h => h) (Or.inl ⟨by rfl, ?_⟩) hHeld ?_
    · intro W hSw
      go_simp
    simp only [Act.put, List.setIfInBounds_toArray, List.set_cons_zero, List.set_cons_succ]
    refine wpAnyH_take (i := 15) (oi := { dst := Option.some 32, op := Op.binOp BinOp.neq 32 (Operand.tmp 31) (Operand.const Value.nilIface) 32, type := 4, pos := "law.go:122", after := #[{ on := 14, ground := Ground.data }, { on := 13, ground := Ground.guard }], guard := Option.some (13, true) }) (v := .bool false) rfl (by kernel_rfl) (by kernel_rfl) (by kernel_rfl) (fun _ _ _ h => h) (Or.inl ⟨by rfl, ?_⟩) hHeld ?_
    · intro W hSw
      go_simp
    simp only [Act.put, List.setIfInBounds_toArray, List.set_cons_zero, List.set_cons_succ]
    refine wpAnyH_take (i := 16) (oi := { dst := Option.some 33, op := Op.move (Operand.tmp 32), type := 4, pos := "law.go:122", after := #[{ on := 15, ground := Ground.data }, { on := 13, ground := Ground.chain }, { on := 13, ground := Ground.guard }], guard := Option.some (13, true) }) (v := .bool false) rfl (by kernel_rfl) (by kernel_rfl) (by kernel_rfl) (fun _ _ _ h => h) (Or.inl ⟨by rfl, ?_⟩) hHeld ?_
    · intro W hSw
      go_simp
    simp only [Act.put, List.setIfInBounds_toArray, List.set_cons_zero, List.set_cons_succ]
    refine wpAnyH_take (i := 17) (oi := { dst := Option.some 34, op := Op.load 30 (Operand.tmp 3), type := 30, pos := "law.go:122", after := #[{ on := 16, ground := Ground.guard }], guard := Option.some (16, false) }) (v := .agg #[.int .i64 m.kind, .int .i64 m.frm, .int .i64 m.to, .int .i64 m.term, .int .i64 m.index, .int .i64 m.logTerm, .int .i64 m.commit, .int .i64 m.round, .bool m.ok, .int .i64 m.off, .slice Ad nd cd, .slice Ae ne ce]) rfl (by kernel_rfl) (by kernel_rfl) (by kernel_rfl) (fun _ _ _ h => h) (Or.inl ⟨by rfl, ?_⟩) hHeld ?_
    · intro W hSw
      obtain ⟨z0, z1, z2, z3, z4, z5, z6, z7, z8, z9, z10, z11⟩ := HC1.out _ (HB.out.trans (hSw.mono HB.out.size))
      go_simp
    simp only [Act.put, List.setIfInBounds_toArray, List.set_cons_zero, List.set_cons_succ]
    refine wpAnyH_ready (rs := [18]) (by kernel_rfl) (by simp) ?_
    refine AllReadyH.cons (o := { dst := Option.some 35, op := Op.call { callee := Callee.value (Operand.func 13), args := #[Operand.tmp 34], argTypes := #[30] }, type := 32, pos := "law.go:122", after := #[{ on := 17, ground := Ground.data }, { on := 16, ground := Ground.chain }, { on := 16, ground := Ground.guard }], guard := Option.some (16, false) }) rfl (fun K hK => ?_) AllReadyH.nil
    go_simp
    refine (CC.out Ad cd Ae ce v107 (HS.out _ (HT.out.trans (HQ.out.mono HT.out.size))) (HI1.out _ HQ.out)).mono ?_
    rintro y v108 ⟨rfl, hb⟩
    have hbS := HX.out.trans (hb.mono HX.out.size)
    refine hK.out _ _ hbS (fun hHeld2 => ?_)
    clear hK K hHeld hHeld2
    have HBA := Lib.hid (HBA.out.below hbS)
    have HE5 := Lib.hid (HE5.out.below hbS)
    have HE6 := Lib.hid (HE6.out.below hbS)
    have HB := Lib.hid (HB.out.trans (hbS.mono HB.out.size))
    have HQ := Lib.hid HB.out
    refine heldStrong (S' := fun W => Below v108.heap.size v108 W) (fun W hW => hbS.trans (hW.mono hbS.size)) _ _ _ _ ?_
    have hHeld : Below v108.heap.size v108 v108 := Below.refl _ _
    have HX := Lib.hid (Below.refl v108.heap.size v108)
    clear hbS hb
    refine wpAnyH_take (i := 19) (oi := { dst := Option.some 36, op := Op.binOp BinOp.eql 32 (Operand.tmp 35) (Operand.const Value.nilIface) 32, type := 4, pos := "law.go:122", after := #[{ on := 18, ground := Ground.data }, { on := 16, ground := Ground.guard }], guard := Option.some (16, false) }) (v := .bool true) rfl (by kernel_rfl) (by kernel_rfl) (by kernel_rfl) (fun _ _ _ h => h) (Or.inl ⟨by rfl, ?_⟩) hHeld ?_
    · intro W hSw
      go_simp
    simp only [Act.put, List.setIfInBounds_toArray, List.set_cons_zero, List.set_cons_succ]
    refine wpAnyH_take (i := 20) (oi := { dst := Option.some 37, op := Op.move (Operand.tmp 36), type := 4, pos := "law.go:122", after := #[{ on := 19, ground := Ground.data }, { on := 18, ground := Ground.chain }, { on := 16, ground := Ground.guard }], guard := Option.some (16, false) }) (v := .bool true) rfl (by kernel_rfl) (by kernel_rfl) (by kernel_rfl) (fun _ _ _ h => h) (Or.inl ⟨by rfl, ?_⟩) hHeld ?_
    · intro W hSw
      go_simp
    simp only [Act.put, List.setIfInBounds_toArray, List.set_cons_zero, List.set_cons_succ]
    refine wpAnyH_take (i := 21) (oi := { dst := Option.some 38, op := Op.load 30 (Operand.tmp 3), type := 30, pos := "law.go:122", after := #[{ on := 20, ground := Ground.guard }], guard := Option.some (20, true) }) (v := .agg #[.int .i64 m.kind, .int .i64 m.frm, .int .i64 m.to, .int .i64 m.term, .int .i64 m.index, .int .i64 m.logTerm, .int .i64 m.commit, .int .i64 m.round, .bool m.ok, .int .i64 m.off, .slice Ad nd cd, .slice Ae ne ce]) rfl (by kernel_rfl) (by kernel_rfl) (by kernel_rfl) (fun _ _ _ h => h) (Or.inl ⟨by rfl, ?_⟩) hHeld ?_
    · intro W hSw
      obtain ⟨z0, z1, z2, z3, z4, z5, z6, z7, z8, z9, z10, z11⟩ := HC1.out _ (HB.out.trans (hSw.mono HB.out.size))
      go_simp
    simp only [Act.put, List.setIfInBounds_toArray, List.set_cons_zero, List.set_cons_succ]
    refine wpAnyH_take (i := 24) (oi := { dst := Option.some 41, op := Op.move (Operand.tmp 0), type := 22, pos := "law.go:122", after := #[{ on := 20, ground := Ground.guard }], guard := Option.some (20, true) }) (v := .slice A n c) rfl (by kernel_rfl) (by kernel_rfl) (by kernel_rfl) (fun _ _ _ h => h) (Or.inl ⟨by rfl, ?_⟩) hHeld ?_
    · intro W hSw
      go_simp
    simp only [Act.put, List.setIfInBounds_toArray, List.set_cons_zero, List.set_cons_succ]
    refine wpAnyH_take (i := 25) (oi := { dst := Option.some 42, op := Op.convert 22 9 (Operand.tmp 41), type := 9, pos := "law.go:122", after := #[{ on := 24, ground := Ground.data }, { on := 20, ground := Ground.guard }], guard := Option.some (20, true) }) (v := .string X) rfl (by kernel_rfl) (by kernel_rfl) (by kernel_rfl) (fun _ _ _ h => h) (Or.inl ⟨by rfl, ?_⟩) hHeld ?_
    · intro W hSw
      have hv := conv_bytes (HBA.out.below hSw).sl_; rw [← HBB.out] at hv
      go_simp
    simp only [Act.put, List.setIfInBounds_toArray, List.set_cons_zero, List.set_cons_succ]
    refine wpAnyH_ready (rs := [22]) (by kernel_rfl) (by simp) ?_
    refine AllReadyH.cons (o := { dst := Option.some 39, op := Op.call { callee := Callee.value (Operand.func 16), args := #[Operand.tmp 38], argTypes := #[30] }, type := 22, pos := "law.go:122", after := #[{ on := 21, ground := Ground.data }, { on := 20, ground := Ground.chain }, { on := 20, ground := Ground.guard }], guard := Option.some (20, true) }) rfl (fun K hK => ?_) AllReadyH.nil
    go_simp
    refine (CE.out Ad cd Ae ce v108 (HS.out _ (HT.out.trans (HQ.out.mono HT.out.size))) (HI1.out _ HQ.out)).mono ?_
    rintro y v109 ⟨A7, c7, rfl, hi, hb⟩
    have hbS := HX.out.trans (hb.mono HX.out.size)
    refine hK.out _ _ hbS (fun hHeld2 => ?_)
    clear hK K hHeld hHeld2
    have HBA := Lib.hid (HBA.out.below hbS)
    have HE5 := Lib.hid (HE5.out.below hbS)
    have HE6 := Lib.hid (HE6.out.below hbS)
    have HE7 := Lib.hid (hi)
    have HB := Lib.hid (HB.out.trans (hbS.mono HB.out.size))
    have HQ := Lib.hid HB.out
    refine heldStrong (S' := fun W => Below v109.heap.size v109 W) (fun W hW => hbS.trans (hW.mono hbS.size)) _ _ _ _ ?_
    have hHeld : Below v109.heap.size v109 v109 := Below.refl _ _
    have HX := Lib.hid (Below.refl v109.heap.size v109)
    clear hbS hb hi
    refine wpAnyH_take (i := 23) (oi := { dst := Option.some 40, op := Op.convert 22 9 (Operand.tmp 39), type := 9, pos := "law.go:122", after := #[{ on := 22, ground := Ground.data }, { on := 20, ground := Ground.guard }], guard := Option.some (20, true) }) (v := .string X) rfl (by kernel_rfl) (by kernel_rfl) (by kernel_rfl) (fun _ _ _ h => h) (Or.inl ⟨by rfl, ?_⟩) hHeld ?_
    · intro W hSw
      have hv := conv_bytes (HE7.out.below hSw).sl_; rw [← HXx.out] at hv
      go_simp
    simp only [Act.put, List.setIfInBounds_toArray, List.set_cons_zero, List.set_cons_succ]
    refine wpAnyH_take (i := 26) (oi := { dst := Option.some 43, op := Op.binOp BinOp.eql 9 (Operand.tmp 40) (Operand.tmp 42) 9, type := 4, pos := "law.go:122", after := #[{ on := 23, ground := Ground.data }, { on := 25, ground := Ground.data }, { on := 20, ground := Ground.guard }], guard := Option.some (20, true) }) (v := .bool true) rfl (by kernel_rfl) (by kernel_rfl) (by kernel_rfl) (fun _ _ _ h => h) (Or.inl ⟨by rfl, ?_⟩) hHeld ?_
    · intro W hSw
      go_simp
    simp only [Act.put, List.setIfInBounds_toArray, List.set_cons_zero, List.set_cons_succ]
    refine wpAnyH_take (i := 27) (oi := { dst := Option.some 44, op := Op.pick (Operand.tmp 37) (Operand.tmp 43) (Operand.const (Value.bool false)), type := 4, pos := "law.go:122", after := #[{ on := 20, ground := Ground.data }, { on := 26, ground := Ground.data }, { on := 16, ground := Ground.guard }], guard := Option.some (16, false) }) (v := .bool true) rfl (by kernel_rfl) (by kernel_rfl) (by kernel_rfl) (fun _ _ _ h => h) (Or.inl ⟨by rfl, ?_⟩) hHeld ?_
    · intro W hSw
      go_simp
    simp only [Act.put, List.setIfInBounds_toArray, List.set_cons_zero, List.set_cons_succ]
    refine wpAnyH_take (i := 28) (oi := { dst := Option.some 45, op := Op.pick (Operand.tmp 33) (Operand.const (Value.bool true)) (Operand.tmp 44), type := 4, pos := "law.go:122", after := #[{ on := 16, ground := Ground.data }, { on := 27, ground := Ground.data }, { on := 13, ground := Ground.guard }], guard := Option.some (13, true) }) (v := .bool true) rfl (by kernel_rfl) (by kernel_rfl) (by kernel_rfl) (fun _ _ _ h => h) (Or.inl ⟨by rfl, ?_⟩) hHeld ?_
    · intro W hSw
      go_simp
    simp only [Act.put, List.setIfInBounds_toArray, List.set_cons_zero, List.set_cons_succ]
    refine wpAnyH_take (i := 29) (oi := { dst := Option.some 46, op := Op.pick (Operand.tmp 30) (Operand.tmp 45) (Operand.const (Value.bool false)), type := 4, pos := "law.go:122", after := #[{ on := 13, ground := Ground.data }, { on := 28, ground := Ground.data }], guard := Option.none }) (v := .bool true) rfl (by kernel_rfl) (by kernel_rfl) (by kernel_rfl) (fun _ _ _ h => h) (Or.inl ⟨by rfl, ?_⟩) hHeld ?_
    · intro W hSw
      go_simp
    simp only [Act.put, List.setIfInBounds_toArray, List.set_cons_zero, List.set_cons_succ]
    refine wpAnyH_take (i := 30) (oi := { dst := Option.some 47, op := Op.move (Operand.tmp 46), type := 4, pos := "law.go:122", after := #[{ on := 29, ground := Ground.data }, { on := 22, ground := Ground.chain }], guard := Option.none }) (v := .bool true) rfl (by kernel_rfl) (by kernel_rfl) (by kernel_rfl) (fun _ _ _ h => h) (Or.inl ⟨by rfl, ?_⟩) hHeld ?_
    · intro W hSw
      go_simp
    simp only [Act.put, List.setIfInBounds_toArray, List.set_cons_zero, List.set_cons_succ]
    refine wpAnyH_ready (rs := [31]) (by kernel_rfl) (by simp) ?_
    refine AllReadyH.cons (o := { dst := Option.some 48, op := Op.call { callee := Callee.value (Operand.func 10), args := #[], argTypes := #[] }, type := 4, pos := "law.go:122", after := #[{ on := 30, ground := Ground.chain }, { on := 30, ground := Ground.guard }], guard := Option.some (30, true) }) rfl (fun K hK => ?_) AllReadyH.nil
    go_simp
    refine (sureM C v109 (HS.out _ (HT.out.trans (HQ.out.mono HT.out.size)))).mono ?_
    rintro y v110 ⟨rfl, hb⟩
    have hbS := HX.out.trans (hb.mono HX.out.size)
    refine hK.out _ _ hbS (fun hHeld2 => ?_)
    clear hK K hHeld hHeld2
    have HBA := Lib.hid (HBA.out.below hbS)
    have HE5 := Lib.hid (HE5.out.below hbS)
    have HE6 := Lib.hid (HE6.out.below hbS)
    have HE7 := Lib.hid (HE7.out.below hbS)
    have HB := Lib.hid (HB.out.trans (hbS.mono HB.out.size))
    have HQ := Lib.hid HB.out
    refine heldStrong (S' := fun W => Below v110.heap.size v110 W) (fun W hW => hbS.trans (hW.mono hbS.size)) _ _ _ _ ?_
    have hHeld : Below v110.heap.size v110 v110 := Below.refl _ _
    have HX := Lib.hid (Below.refl v110.heap.size v110)
    clear hbS hb
    refine wpAnyH_take (i := 32) (oi := { dst := Option.some 49, op := Op.pick (Operand.tmp 47) (Operand.tmp 48) (Operand.const (Value.bool false)), type := 4, pos := "law.go:122", after := #[{ on := 30, ground := Ground.data }, { on := 31, ground := Ground.data }], guard := Option.none }) (v := .bool true) rfl (by kernel_rfl) (by kernel_rfl) (by kernel_rfl) (fun _ _ _ h => h) (Or.inl ⟨by rfl, ?_⟩) hHeld ?_
    · intro W hSw
      go_simp
    simp only [Act.put, List.setIfInBounds_toArray, List.set_cons_zero, List.set_cons_succ]
    refine wpAnyH_take (i := 33) (oi := { dst := Option.some 2, op := Op.assign (Operand.tmp 49), type := 4, pos := "law.go:122", after := #[{ on := 32, ground := Ground.data }, { on := 31, ground := Ground.chain }, { on := 0, ground := Ground.phase }, { on := 1, ground := Ground.phase }, { on := 2, ground := Ground.phase }, { on := 3, ground := Ground.phase }, { on := 4, ground := Ground.phase }, { on := 5, ground := Ground.phase }, { on := 6, ground := Ground.phase }, { on := 7, ground := Ground.phase }, { on := 8, ground := Ground.phase }, { on := 9, ground := Ground.phase }, { on := 10, ground := Ground.phase }, { on := 11, ground := Ground.phase }, { on := 12, ground := Ground.phase }, { on := 13, ground := Ground.phase }, { on := 14, ground := Ground.phase }, { on := 15, ground := Ground.phase }, { on := 16, ground := Ground.phase }, { on := 17, ground := Ground.phase }, { on := 18, ground := Ground.phase }, { on := 19, ground := Ground.phase }, { on := 20, ground := Ground.phase }, { on := 21, ground := Ground.phase }, { on := 22, ground := Ground.phase }, { on := 23, ground := Ground.phase }, { on := 24, ground := Ground.phase }, { on := 25, ground := Ground.phase }, { on := 26, ground := Ground.phase }, { on := 27, ground := Ground.phase }, { on := 28, ground := Ground.phase }, { on := 29, ground := Ground.phase }, { on := 30, ground := Ground.phase }, { on := 31, ground := Ground.phase }, { on := 32, ground := Ground.phase }], guard := Option.none }) (v := .bool true) rfl (by kernel_rfl) (by kernel_rfl) (by kernel_rfl) (fun _ _ _ h => h) (Or.inl ⟨by rfl, ?_⟩) hHeld ?_
    · intro W hSw
      go_simp
    simp only [Act.put, List.setIfInBounds_toArray, List.set_cons_zero, List.set_cons_succ]
    clear hHeld
    refine wpAnyH_done (by kernel_rfl) ?_ _
    go_wp2_with fail
    go_ret
    exact ⟨rfl, HT.out.trans (HQ.out.mono HT.out.size)⟩

end Go.Proofs.YtfblgkcipnkhaaaGreatDoor.pk
