/-
  The law MsgFrames: walked.
-/
import Derived.Test.YtfblgkcipnkhaaaGreatDoorJk
import Derived.Test.YtfblgkcipnkhaaaGreatDoorJl
import Derived.Test.YtfblgkcipnkhaaaGreatDoorRdJ
import Derived.Test.YtfblgkcipnkhaaaGreatDoorLawRd
namespace Go.Proofs.YtfblgkcipnkhaaaGreatDoor.pk
open Go Go.RowKit
set_option maxRecDepth 100000

theorem openM_small {b : List UInt8} {m : Ms} {k : Nat} (h : openM b = (m, k)) : m.data.length ≤ 10000 ∧ SmallE 200 25663 m.ents := by
  unfold openM at h
  split at h
  · exact decM_small h
  · injection h with p1 p2
    subst p1
    exact ⟨by simp [zm], by simp [zm], fun e he => by simp [zm] at he⟩

set_option maxHeartbeats 32000000 in
theorem frames_true (C : ConM) (m : Ms) (Ad : Option Addr) (nd cd : Nat) (Ae : Option Addr) (ne ce : Nat) (Ab : Option Addr) (nb cb : Nat) (b : List UInt8) (w : World) (hs : StdP w) (h : InM m Ad nd cd Ae ne ce w) (hd : ∀ e ∈ m.ents, e.data.length ≤ 140737488355328) (hbb : Bys w (.slice Ab nb cb) b) (hn : nb ≤ 140737488355328) :
    Calls Tryz.prog 4 #[.agg #[.int .i64 m.kind, .int .i64 m.frm, .int .i64 m.to, .int .i64 m.term, .int .i64 m.index, .int .i64 m.logTerm, .int .i64 m.commit, .int .i64 m.round, .bool m.ok, .int .i64 m.off, .slice Ad nd cd, .slice Ae ne ce], .slice Ab nb cb] w fun y w' => y = .returned (.bool true) ∧ Below w.heap.size w w' := by
  obtain ⟨W1, g, hW1, hg, hb1, hq, hsz⟩ := one_box w (.cells #[.int .i64 m.kind, .int .i64 m.frm, .int .i64 m.to, .int .i64 m.term, .int .i64 m.index, .int .i64 m.logTerm, .int .i64 m.commit, .int .i64 m.round, .bool m.ok, .int .i64 m.off, .slice Ad nd cd, .slice Ae ne ce] 25)
  have HW := Lib.hid (And.intro hW1 hg)
  have HE := Lib.hid (And.intro hb1 (obj_lt hq))
  have HS := Lib.hid fun W (hW : Below W1.heap.size W1 W) => (hs.more hb1).more hW
  have HC := Lib.hid fun W (hW : Below W1.heap.size W1 W) => cells12 ((hW.block g (obj_lt hq)).trans hq)
  have HI := Lib.hid fun W (hW : Below W1.heap.size W1 W) => (h.below hb1).below hW
  have HA := Lib.hid fun W (hW : Below W1.heap.size W1 W) => (hbb.below hb1).below hW
  cases hl : longM m with
  | true =>
    have HL := Lib.hid fun W hW => longMsg_any m Ad nd cd Ae ne ce W (HI.out W hW) hd true hl.symm
    clear hW1 hg hb1 hq hsz h hd hs hl hbb hn
    go_enter Tryz.func4, Tryz.ntmps4
    go_upto_region 1 with fail
    rw [← HW.out.1, ← HW.out.2]
    obtain ⟨z0, z1, z2, z3, z4, z5, z6, z7, z8, z9, z10, z11⟩ := HC.out W1 (Below.refl _ _)
    go_wp2_with (first
      | (go_at_call 9; go_must (refine (HL.out W1 (Below.refl _ _)).mono ?_; rintro y w1 ⟨rfl, hb⟩; have H1 := Lib.hid hb; clear hb))
      | (go_at_call 10; go_must (refine (sureM C w1 (HS.out w1 H1.out)).mono ?_; rintro y w2 ⟨rfl, hb⟩; have H2 := Lib.hid (H1.out.trans (hb.mono H1.out.size)); clear hb)))
    go_ret
    exact ⟨rfl, HE.out.1.trans (H2.out.mono HE.out.1.size)⟩
  | false =>
    have HL := Lib.hid fun W hW => longMsg_any m Ad nd cd Ae ne ce W (HI.out W hW) hd false hl.symm
    obtain ⟨s1, s2⟩ := longM_small hl
    have hnd := h.data.len_
    have hnd2 : nd ≤ 10000 := by omega
    have s3 : SmallE 1000000 100000000 m.ents := ⟨by have := s2.1; omega, fun e he => by have := s2.2 e he; omega⟩
    have HG := Lib.hid fun W hW => giveMsg_any m Ad nd cd Ae ne ce W (HI.out W hW) (by omega) s3
    obtain ⟨q, hq0⟩ : ∃ q, q = (encM m).length := ⟨_, rfl⟩
    have CX := Lib.hid fun W hW => RefEncM_any m Ad nd cd Ae ne ce W (HI.out W hW) hnd2 s2 q hq0
    obtain ⟨X, hX⟩ : ∃ X : ByteArray, X = ⟨(encM m).toArray⟩ := ⟨_, rfl⟩
    have HXx := Lib.hid hX
    obtain ⟨n, hn0⟩ : ∃ n, n = (sealM m).length := ⟨_, rfl⟩
    have CSM := Lib.hid fun A1 c1 A2 c2 W hS' hI => C.mSeal m A1 nd c1 A2 ne c2 W hS' hI hnd2 s2 n hn0
    have CSE := Lib.hid fun A c W (hB : Bys W (.slice A q c) (encM m)) => RefSeal_any 109 A q c (encM m) W W.heap.size (Nat.le_refl _) hB.sl_
    have e109 : (((109 : UInt8).toNat : Nat) : Int) = 109 := rfl
    simp only [e109] at CSE
    have HN0 := Lib.hid hn0
    obtain ⟨Z, hZ⟩ : ∃ Z : ByteArray, Z = ⟨(sealM m).toArray⟩ := ⟨_, rfl⟩
    have HZx := Lib.hid hZ
    rcases hdx : openM b with ⟨x, k⟩
    obtain ⟨x1, x2⟩ := openM_small hdx
    obtain ⟨nx, hnx⟩ : ∃ nx, nx = x.data.length := ⟨_, rfl⟩
    obtain ⟨ex, hex⟩ : ∃ ex, ex = x.ents.length := ⟨_, rfl⟩
    have CD := Lib.hid fun W (hW : Below W1.heap.size W1 W) => C.mOpen Ab nb cb b W (HS.out W hW) (HA.out W hW) hn x k hdx.symm nx ex hnx hex
    have CR := Lib.hid fun W (hW : Below W1.heap.size W1 W) => RefOpenM_s Ab nb cb b W (HA.out W hW) x k hdx.symm nx ex hnx hex
    obtain ⟨qx, hqx⟩ : ∃ q, q = (encM x).length := ⟨_, rfl⟩
    have CE1 := Lib.hid fun Ad cd Ae ce W hS hI => C.mEncode x Ad nx cd Ae ex ce W hS hI (by omega) x2 qx hqx
    have CX1 := Lib.hid fun Ad cd Ae ce W hI => RefEncM_any x Ad nx cd Ae ex ce W hI (by omega) x2 qx hqx
    obtain ⟨Y, hY⟩ : ∃ Y : ByteArray, Y = ⟨(encM x).toArray⟩ := ⟨_, rfl⟩
    have HYx := Lib.hid hY
    have CN := Lib.hid fun W hS => num_any k W hS
    clear hW1 hg hb1 hq hsz h hd hs hl s1 s2 s3 hnd hnd2 hq0 hX hbb hn hdx x1 x2 hnx hex hqx hY hn0 hZ e109
    go_enter Tryz.func4, Tryz.ntmps4
    go_upto_region 1 with fail
    rw [← HW.out.1, ← HW.out.2]
    obtain ⟨z0, z1, z2, z3, z4, z5, z6, z7, z8, z9, z10, z11⟩ := HC.out W1 (Below.refl _ _)
    go_upto_region 4 with (first
      | (go_at_call 9; go_must (refine (HL.out W1 (Below.refl _ _)).mono ?_; rintro y w1 ⟨rfl, hb⟩; obtain ⟨z0, z1, z2, z3, z4, z5, z6, z7, z8, z9, z10, z11⟩ := HC.out w1 hb; have HP1 := Lib.hid hb; clear hb))
      | (go_at_call 17; go_must (refine (CX.out w1 HP1.out).mono ?_; rintro y w2 ⟨A2, c2, rfl, hi, hb⟩; have HP2 := Lib.hid (And.intro (HP1.out.trans (hb.mono HP1.out.size)) hi); clear hb hi))
      | (go_at_call 19; go_must (refine (CSE.out A2 c2 w2 HP2.out.2).mono ?_; rintro y w3 ⟨v, rfl, hi, hb⟩; obtain ⟨A3, c3, hv, -⟩ := id hi; subst hv; have HP := Lib.hid (HP2.out.1.trans (hb.mono HP2.out.1.size)); have HF := Lib.hid (show Bys w3 (.slice A3 (sealB 109 (encM m)).length c3) (sealM m) from Bys.of_sl hi); clear hb hi)))
    clear z0 z1 z2 z3 z4 z5 z6 z7 z8 z9 z10 z11
    have hsl : (sealB 109 (encM m)).length = n := HN0.out.symm
    rw [hsl]
    rw [hsl] at HF
    clear hsl
    go_upto_region 5 with (go_at_call 20; go_must (refine (CD.out w3 HP.out).mono ?_; rintro y wa ⟨Ad1, cd1, Ae1, ce1, rfl, hi, hb⟩; have H1 := Lib.hid (And.intro hi hb); clear hi hb))
    obtain ⟨W3, g3, hW3, hg3, hb3, hq3, -⟩ := one_box wa (.cells #[.int .i64 x.kind, .int .i64 x.frm, .int .i64 x.to, .int .i64 x.term, .int .i64 x.index, .int .i64 x.logTerm, .int .i64 x.commit, .int .i64 x.round, .bool x.ok, .int .i64 x.off, .slice Ad1 nx cd1, .slice Ae1 ex ce1] 30)
    rw [← hW3, ← hg3]
    have HW3 := Lib.hid (And.intro (HP.out.trans ((H1.out.2.trans (hb3.mono H1.out.2.size)).mono HP.out.size)) (And.intro (H1.out.1.below hb3) hq3))
    have HF3 := Lib.hid ((HF.out.below H1.out.2).below hb3)
    clear hW3 hg3 hb3 hq3
    go_upto_region 6 with (go_at_call 21; go_must (refine (CR.out W3 HW3.out.1).mono ?_; rintro y wb ⟨Ad2, cd2, Ae2, ce2, rfl, hi, hb⟩; have H2 := Lib.hid (And.intro (hi) hb); clear hi hb))
    obtain ⟨W4, g4, hW4, hg4, hb4, hq4, -⟩ := one_box wb (.cells #[.int .i64 x.kind, .int .i64 x.frm, .int .i64 x.to, .int .i64 x.term, .int .i64 x.index, .int .i64 x.logTerm, .int .i64 x.commit, .int .i64 x.round, .bool x.ok, .int .i64 x.off, .slice Ad2 nx cd2, .slice Ae2 ex ce2] 25)
    rw [← hW4, ← hg4]
    have hxb := H2.out.2.trans (hb4.mono H2.out.2.size)
    have HFZ := Lib.hid ((HF3.out.below hxb))
    have HT := Lib.hid (HW3.out.1.trans (hxb.mono HW3.out.1.size))
    have HC0 := Lib.hid fun W (hW : Below W4.heap.size W4 W) => HC.out W (HT.out.trans (hW.mono HT.out.size))
    have HC1 := Lib.hid fun W (hW : Below W4.heap.size W4 W) => cells12 (((hW.block g3 (Nat.lt_of_lt_of_le (obj_lt HW3.out.2.2) hxb.size)).trans (hxb.block g3 (obj_lt HW3.out.2.2))).trans HW3.out.2.2)
    have HC2 := Lib.hid fun W (hW : Below W4.heap.size W4 W) => cells12 ((hW.block g4 (obj_lt hq4)).trans hq4)
    have HI1 := Lib.hid fun W (hW : Below W4.heap.size W4 W) => (HW3.out.2.1.below hxb).below hW
    have HI2 := Lib.hid fun W (hW : Below W4.heap.size W4 W) => (H2.out.1.below hb4).below hW
    clear hW4 hg4 hb4 hq4 hxb
    have hd0 : Below W4.heap.size W4 W4.drew := (Below.refl _ _).drew
    refine wp_region_held_drew (S := fun W => Below W4.heap.size W4 W) (by kernel_rfl) hd0 (fun hHeld => ?_)
    obtain ⟨v0, hv0⟩ : ∃ V, V = W4.drew := ⟨_, rfl⟩
    rw [← hv0] at hd0 hHeld ⊢
    have HB := Lib.hid (Below.refl W4.heap.size W4)
    have HX := Lib.hid hd0
    have HQ := Lib.hid hd0
    clear hd0 hv0
    refine wpAnyH_take (i := 0) (oi := { dst := Option.some 30, op := Op.load 25 (Operand.tmp 2), type := 25, pos := "law.go:84", after := #[], guard := Option.none }) (v := .agg #[.int .i64 m.kind, .int .i64 m.frm, .int .i64 m.to, .int .i64 m.term, .int .i64 m.index, .int .i64 m.logTerm, .int .i64 m.commit, .int .i64 m.round, .bool m.ok, .int .i64 m.off, .slice Ad nd cd, .slice Ae ne ce]) rfl (by kernel_rfl) (by kernel_rfl) (by kernel_rfl) (fun _ _ _ h => h) (Or.inl ⟨by rfl, ?_⟩) hHeld ?_
    · intro W hSw
      obtain ⟨z0, z1, z2, z3, z4, z5, z6, z7, z8, z9, z10, z11⟩ := HC0.out _ (HB.out.trans (hSw.mono HB.out.size))
      go_simp
    simp only [Act.put, List.setIfInBounds_toArray, List.set_cons_zero, List.set_cons_succ]
    refine wpAnyH_take (i := 4) (oi := { dst := Option.some 34, op := Op.move (Operand.tmp 5), type := 22, pos := "law.go:84", after := #[], guard := Option.none }) (v := .slice A3 n c3) rfl (by kernel_rfl) (by kernel_rfl) (by kernel_rfl) (fun _ _ _ h => h) (Or.inl ⟨by rfl, ?_⟩) hHeld ?_
    · intro W hSw
      go_simp
    simp only [Act.put, List.setIfInBounds_toArray, List.set_cons_zero, List.set_cons_succ]
    refine wpAnyH_take (i := 5) (oi := { dst := Option.some 35, op := Op.convert 22 9 (Operand.tmp 34), type := 9, pos := "law.go:84", after := #[{ on := 4, ground := Ground.data }], guard := Option.none }) (v := .string Z) rfl (by kernel_rfl) (by kernel_rfl) (by kernel_rfl) (fun _ _ _ h => h) (Or.inl ⟨by rfl, ?_⟩) hHeld ?_
    · intro W hSw
      have hv := conv_bytes (HFZ.out.below hSw).sl_; rw [← HZx.out] at hv
      go_simp
    simp only [Act.put, List.setIfInBounds_toArray, List.set_cons_zero, List.set_cons_succ]
    refine wpAnyH_ready (rs := [1]) (by kernel_rfl) (by simp) ?_
    refine AllReadyH.cons (o := { dst := Option.some 31, op := Op.call { callee := Callee.value (Operand.func 14), args := #[Operand.tmp 30], argTypes := #[25] }, type := 30, pos := "law.go:84", after := #[{ on := 0, ground := Ground.data }], guard := Option.none }) rfl (fun K hK => ?_) AllReadyH.nil
    go_simp
    refine (HG.out v0 (HT.out.trans (HQ.out.mono HT.out.size))).mono ?_
    rintro y v131 ⟨A5, c5, A6, c6, rfl, hi, hb⟩
    have hbS := HX.out.trans (hb.mono HX.out.size)
    refine hK.out _ _ hbS (fun hHeld2 => ?_)
    clear hK K hHeld hHeld2
    have HFZ := Lib.hid (HFZ.out.below hbS)
    have HN5 := Lib.hid (hi)
    have HB := Lib.hid (HB.out.trans (hbS.mono HB.out.size))
    have HQ := Lib.hid HB.out
    refine heldStrong (S' := fun W => Below v131.heap.size v131 W) (fun W hW => hbS.trans (hW.mono hbS.size)) _ _ _ _ ?_
    have hHeld : Below v131.heap.size v131 v131 := Below.refl _ _
    have HX := Lib.hid (Below.refl v131.heap.size v131)
    clear hbS hb hi
    refine wpAnyH_ready (rs := [2]) (by kernel_rfl) (by simp) ?_
    refine AllReadyH.cons (o := { dst := Option.some 32, op := Op.call { callee := Callee.value (Operand.func 22), args := #[Operand.tmp 31], argTypes := #[30] }, type := 22, pos := "law.go:84", after := #[{ on := 1, ground := Ground.data }, { on := 1, ground := Ground.chain }], guard := Option.none }) rfl (fun K hK => ?_) AllReadyH.nil
    go_simp
    refine (CSM.out A5 c5 A6 c6 v131 (HS.out _ (HT.out.trans (HQ.out.mono HT.out.size))) HN5.out).mono ?_
    rintro y v132 ⟨A9, c9, rfl, hi, hb⟩
    have hbS := HX.out.trans (hb.mono HX.out.size)
    refine hK.out _ _ hbS (fun hHeld2 => ?_)
    clear hK K hHeld hHeld2
    have HFZ := Lib.hid (HFZ.out.below hbS)
    have HN5 := Lib.hid (HN5.out.below hbS)
    have HE9 := Lib.hid (hi)
    have HB := Lib.hid (HB.out.trans (hbS.mono HB.out.size))
    have HQ := Lib.hid HB.out
    refine heldStrong (S' := fun W => Below v132.heap.size v132 W) (fun W hW => hbS.trans (hW.mono hbS.size)) _ _ _ _ ?_
    have hHeld : Below v132.heap.size v132 v132 := Below.refl _ _
    have HX := Lib.hid (Below.refl v132.heap.size v132)
    clear hbS hb hi
    refine wpAnyH_take (i := 3) (oi := { dst := Option.some 33, op := Op.convert 22 9 (Operand.tmp 32), type := 9, pos := "law.go:84", after := #[{ on := 2, ground := Ground.data }], guard := Option.none }) (v := .string Z) rfl (by kernel_rfl) (by kernel_rfl) (by kernel_rfl) (fun _ _ _ h => h) (Or.inl ⟨by rfl, ?_⟩) hHeld ?_
    · intro W hSw
      have hv := conv_bytes (HE9.out.below hSw).sl_; rw [← HZx.out] at hv
      go_simp
    simp only [Act.put, List.setIfInBounds_toArray, List.set_cons_zero, List.set_cons_succ]
    refine wpAnyH_take (i := 6) (oi := { dst := Option.some 36, op := Op.binOp BinOp.eql 9 (Operand.tmp 33) (Operand.tmp 35) 9, type := 4, pos := "law.go:84", after := #[{ on := 3, ground := Ground.data }, { on := 5, ground := Ground.data }], guard := Option.none }) (v := .bool true) rfl (by kernel_rfl) (by kernel_rfl) (by kernel_rfl) (fun _ _ _ h => h) (Or.inl ⟨by rfl, ?_⟩) hHeld ?_
    · intro W hSw
      go_simp
    simp only [Act.put, List.setIfInBounds_toArray, List.set_cons_zero, List.set_cons_succ]
    refine wpAnyH_take (i := 7) (oi := { dst := Option.some 37, op := Op.move (Operand.tmp 36), type := 4, pos := "law.go:84", after := #[{ on := 6, ground := Ground.data }, { on := 2, ground := Ground.chain }], guard := Option.none }) (v := .bool true) rfl (by kernel_rfl) (by kernel_rfl) (by kernel_rfl) (fun _ _ _ h => h) (Or.inl ⟨by rfl, ?_⟩) hHeld ?_
    · intro W hSw
      go_simp
    simp only [Act.put, List.setIfInBounds_toArray, List.set_cons_zero, List.set_cons_succ]
    refine wpAnyH_take (i := 8) (oi := { dst := Option.some 38, op := Op.load 30 (Operand.tmp 7), type := 30, pos := "law.go:84", after := #[{ on := 7, ground := Ground.guard }], guard := Option.some (7, true) }) (v := .agg #[.int .i64 x.kind, .int .i64 x.frm, .int .i64 x.to, .int .i64 x.term, .int .i64 x.index, .int .i64 x.logTerm, .int .i64 x.commit, .int .i64 x.round, .bool x.ok, .int .i64 x.off, .slice Ad1 nx cd1, .slice Ae1 ex ce1]) rfl (by kernel_rfl) (by kernel_rfl) (by kernel_rfl) (fun _ _ _ h => h) (Or.inl ⟨by rfl, ?_⟩) hHeld ?_
    · intro W hSw
      obtain ⟨z0, z1, z2, z3, z4, z5, z6, z7, z8, z9, z10, z11⟩ := HC1.out _ (HB.out.trans (hSw.mono HB.out.size))
      go_simp
    simp only [Act.put, List.setIfInBounds_toArray, List.set_cons_zero, List.set_cons_succ]
    refine wpAnyH_take (i := 11) (oi := { dst := Option.some 41, op := Op.load 25 (Operand.tmp 9), type := 25, pos := "law.go:84", after := #[{ on := 7, ground := Ground.guard }], guard := Option.some (7, true) }) (v := .agg #[.int .i64 x.kind, .int .i64 x.frm, .int .i64 x.to, .int .i64 x.term, .int .i64 x.index, .int .i64 x.logTerm, .int .i64 x.commit, .int .i64 x.round, .bool x.ok, .int .i64 x.off, .slice Ad2 nx cd2, .slice Ae2 ex ce2]) rfl (by kernel_rfl) (by kernel_rfl) (by kernel_rfl) (fun _ _ _ h => h) (Or.inl ⟨by rfl, ?_⟩) hHeld ?_
    · intro W hSw
      obtain ⟨z0, z1, z2, z3, z4, z5, z6, z7, z8, z9, z10, z11⟩ := HC2.out _ (HB.out.trans (hSw.mono HB.out.size))
      go_simp
    simp only [Act.put, List.setIfInBounds_toArray, List.set_cons_zero, List.set_cons_succ]
    refine wpAnyH_ready (rs := [9]) (by kernel_rfl) (by simp) ?_
    refine AllReadyH.cons (o := { dst := Option.some 39, op := Op.call { callee := Callee.value (Operand.func 16), args := #[Operand.tmp 38], argTypes := #[30] }, type := 22, pos := "law.go:84", after := #[{ on := 8, ground := Ground.data }, { on := 7, ground := Ground.chain }, { on := 7, ground := Ground.guard }], guard := Option.some (7, true) }) rfl (fun K hK => ?_) AllReadyH.nil
    go_simp
    refine (CE1.out Ad1 cd1 Ae1 ce1 v132 (HS.out _ (HT.out.trans (HQ.out.mono HT.out.size))) (HI1.out _ HQ.out)).mono ?_
    rintro y v133 ⟨A11, c11, rfl, hi, hb⟩
    have hbS := HX.out.trans (hb.mono HX.out.size)
    refine hK.out _ _ hbS (fun hHeld2 => ?_)
    clear hK K hHeld hHeld2
    have HFZ := Lib.hid (HFZ.out.below hbS)
    have HN5 := Lib.hid (HN5.out.below hbS)
    have HE9 := Lib.hid (HE9.out.below hbS)
    have HE11 := Lib.hid (hi)
    have HB := Lib.hid (HB.out.trans (hbS.mono HB.out.size))
    have HQ := Lib.hid HB.out
    refine heldStrong (S' := fun W => Below v133.heap.size v133 W) (fun W hW => hbS.trans (hW.mono hbS.size)) _ _ _ _ ?_
    have hHeld : Below v133.heap.size v133 v133 := Below.refl _ _
    have HX := Lib.hid (Below.refl v133.heap.size v133)
    clear hbS hb hi
    refine wpAnyH_take (i := 10) (oi := { dst := Option.some 40, op := Op.convert 22 9 (Operand.tmp 39), type := 9, pos := "law.go:84", after := #[{ on := 9, ground := Ground.data }, { on := 7, ground := Ground.guard }], guard := Option.some (7, true) }) (v := .string Y) rfl (by kernel_rfl) (by kernel_rfl) (by kernel_rfl) (fun _ _ _ h => h) (Or.inl ⟨by rfl, ?_⟩) hHeld ?_
    · intro W hSw
      have hv := conv_bytes (HE11.out.below hSw).sl_; rw [← HYx.out] at hv
      go_simp
    simp only [Act.put, List.setIfInBounds_toArray, List.set_cons_zero, List.set_cons_succ]
    refine wpAnyH_ready (rs := [12]) (by kernel_rfl) (by simp) ?_
    refine AllReadyH.cons (o := { dst := Option.some 42, op := Op.call { callee := Callee.value (Operand.func 17), args := #[Operand.tmp 41], argTypes := #[25] }, type := 22, pos := "law.go:84", after := #[{ on := 11, ground := Ground.data }, { on := 9, ground := Ground.chain }, { on := 7, ground := Ground.guard }], guard := Option.some (7, true) }) rfl (fun K hK => ?_) AllReadyH.nil
    go_simp
    refine (CX1.out Ad2 cd2 Ae2 ce2 v133 (HI2.out _ HQ.out)).mono ?_
    rintro y v134 ⟨A12, c12, rfl, hi, hb⟩
    have hbS := HX.out.trans (hb.mono HX.out.size)
    refine hK.out _ _ hbS (fun hHeld2 => ?_)
    clear hK K hHeld hHeld2
    have HFZ := Lib.hid (HFZ.out.below hbS)
    have HN5 := Lib.hid (HN5.out.below hbS)
    have HE9 := Lib.hid (HE9.out.below hbS)
    have HE11 := Lib.hid (HE11.out.below hbS)
    have HE12 := Lib.hid (hi)
    have HB := Lib.hid (HB.out.trans (hbS.mono HB.out.size))
    have HQ := Lib.hid HB.out
    refine heldStrong (S' := fun W => Below v134.heap.size v134 W) (fun W hW => hbS.trans (hW.mono hbS.size)) _ _ _ _ ?_
    have hHeld : Below v134.heap.size v134 v134 := Below.refl _ _
    have HX := Lib.hid (Below.refl v134.heap.size v134)
    clear hbS hb hi
    refine wpAnyH_take (i := 13) (oi := { dst := Option.some 43, op := Op.convert 22 9 (Operand.tmp 42), type := 9, pos := "law.go:84", after := #[{ on := 12, ground := Ground.data }, { on := 7, ground := Ground.guard }], guard := Option.some (7, true) }) (v := .string Y) rfl (by kernel_rfl) (by kernel_rfl) (by kernel_rfl) (fun _ _ _ h => h) (Or.inl ⟨by rfl, ?_⟩) hHeld ?_
    · intro W hSw
      have hv := conv_bytes (HE12.out.below hSw).sl_; rw [← HYx.out] at hv
      go_simp
    simp only [Act.put, List.setIfInBounds_toArray, List.set_cons_zero, List.set_cons_succ]
    refine wpAnyH_take (i := 14) (oi := { dst := Option.some 44, op := Op.binOp BinOp.eql 9 (Operand.tmp 40) (Operand.tmp 43) 9, type := 4, pos := "law.go:84", after := #[{ on := 10, ground := Ground.data }, { on := 13, ground := Ground.data }, { on := 7, ground := Ground.guard }], guard := Option.some (7, true) }) (v := .bool true) rfl (by kernel_rfl) (by kernel_rfl) (by kernel_rfl) (fun _ _ _ h => h) (Or.inl ⟨by rfl, ?_⟩) hHeld ?_
    · intro W hSw
      go_simp
    simp only [Act.put, List.setIfInBounds_toArray, List.set_cons_zero, List.set_cons_succ]
    refine wpAnyH_take (i := 15) (oi := { dst := Option.some 45, op := Op.pick (Operand.tmp 37) (Operand.tmp 44) (Operand.const (Value.bool false)), type := 4, pos := "law.go:84", after := #[{ on := 7, ground := Ground.data }, { on := 14, ground := Ground.data }], guard := Option.none }) (v := .bool true) rfl (by kernel_rfl) (by kernel_rfl) (by kernel_rfl) (fun _ _ _ h => h) (Or.inl ⟨by rfl, ?_⟩) hHeld ?_
    · intro W hSw
      go_simp
    simp only [Act.put, List.setIfInBounds_toArray, List.set_cons_zero, List.set_cons_succ]
    refine wpAnyH_take (i := 16) (oi := { dst := Option.some 46, op := Op.move (Operand.tmp 45), type := 4, pos := "law.go:84", after := #[{ on := 15, ground := Ground.data }, { on := 12, ground := Ground.chain }], guard := Option.none }) (v := .bool true) rfl (by kernel_rfl) (by kernel_rfl) (by kernel_rfl) (fun _ _ _ h => h) (Or.inl ⟨by rfl, ?_⟩) hHeld ?_
    · intro W hSw
      go_simp
    simp only [Act.put, List.setIfInBounds_toArray, List.set_cons_zero, List.set_cons_succ]
    refine wpAnyH_take (i := 17) (oi := { dst := Option.some 47, op := Op.move (Operand.tmp 8), type := 32, pos := "law.go:84", after := #[{ on := 16, ground := Ground.guard }], guard := Option.some (16, true) }) (v := er k) rfl (by kernel_rfl) (by kernel_rfl) (by kernel_rfl) (fun _ _ _ h => h) (Or.inl ⟨by rfl, ?_⟩) hHeld ?_
    · intro W hSw
      go_simp
    simp only [Act.put, List.setIfInBounds_toArray, List.set_cons_zero, List.set_cons_succ]
    refine wpAnyH_take (i := 19) (oi := { dst := Option.some 49, op := Op.move (Operand.tmp 10), type := 3, pos := "law.go:84", after := #[{ on := 16, ground := Ground.guard }], guard := Option.some (16, true) }) (v := .int .i64 (k : Int)) rfl (by kernel_rfl) (by kernel_rfl) (by kernel_rfl) (fun _ _ _ h => h) (Or.inl ⟨by rfl, ?_⟩) hHeld ?_
    · intro W hSw
      go_simp
    simp only [Act.put, List.setIfInBounds_toArray, List.set_cons_zero, List.set_cons_succ]
    refine wpAnyH_ready (rs := [18]) (by kernel_rfl) (by simp) ?_
    refine AllReadyH.cons (o := { dst := Option.some 48, op := Op.call { callee := Callee.value (Operand.func 18), args := #[Operand.tmp 47], argTypes := #[32] }, type := 3, pos := "law.go:84", after := #[{ on := 17, ground := Ground.data }, { on := 16, ground := Ground.chain }, { on := 16, ground := Ground.guard }], guard := Option.some (16, true) }) rfl (fun K hK => ?_) AllReadyH.nil
    go_simp
    refine (CN.out v134 (HS.out _ (HT.out.trans (HQ.out.mono HT.out.size))).std_).mono ?_
    rintro y v135 ⟨rfl, hb⟩
    have hbS := HX.out.trans (hb.mono HX.out.size)
    refine hK.out _ _ hbS (fun hHeld2 => ?_)
    clear hK K hHeld hHeld2
    have HFZ := Lib.hid (HFZ.out.below hbS)
    have HN5 := Lib.hid (HN5.out.below hbS)
    have HE9 := Lib.hid (HE9.out.below hbS)
    have HE11 := Lib.hid (HE11.out.below hbS)
    have HE12 := Lib.hid (HE12.out.below hbS)
    have HB := Lib.hid (HB.out.trans (hbS.mono HB.out.size))
    have HQ := Lib.hid HB.out
    refine heldStrong (S' := fun W => Below v135.heap.size v135 W) (fun W hW => hbS.trans (hW.mono hbS.size)) _ _ _ _ ?_
    have hHeld : Below v135.heap.size v135 v135 := Below.refl _ _
    have HX := Lib.hid (Below.refl v135.heap.size v135)
    clear hbS hb
    refine wpAnyH_take (i := 20) (oi := { dst := Option.some 50, op := Op.binOp BinOp.eql 3 (Operand.tmp 48) (Operand.tmp 49) 3, type := 4, pos := "law.go:84", after := #[{ on := 18, ground := Ground.data }, { on := 19, ground := Ground.data }, { on := 16, ground := Ground.guard }], guard := Option.some (16, true) }) (v := .bool true) rfl (by kernel_rfl) (by kernel_rfl) (by kernel_rfl) (fun _ _ _ h => h) (Or.inl ⟨by rfl, ?_⟩) hHeld ?_
    · intro W hSw
      go_simp
    simp only [Act.put, List.setIfInBounds_toArray, List.set_cons_zero, List.set_cons_succ]
    refine wpAnyH_take (i := 21) (oi := { dst := Option.some 51, op := Op.pick (Operand.tmp 46) (Operand.tmp 50) (Operand.const (Value.bool false)), type := 4, pos := "law.go:84", after := #[{ on := 16, ground := Ground.data }, { on := 20, ground := Ground.data }], guard := Option.none }) (v := .bool true) rfl (by kernel_rfl) (by kernel_rfl) (by kernel_rfl) (fun _ _ _ h => h) (Or.inl ⟨by rfl, ?_⟩) hHeld ?_
    · intro W hSw
      go_simp
    simp only [Act.put, List.setIfInBounds_toArray, List.set_cons_zero, List.set_cons_succ]
    refine wpAnyH_take (i := 22) (oi := { dst := Option.some 52, op := Op.move (Operand.tmp 51), type := 4, pos := "law.go:84", after := #[{ on := 21, ground := Ground.data }, { on := 18, ground := Ground.chain }], guard := Option.none }) (v := .bool true) rfl (by kernel_rfl) (by kernel_rfl) (by kernel_rfl) (fun _ _ _ h => h) (Or.inl ⟨by rfl, ?_⟩) hHeld ?_
    · intro W hSw
      go_simp
    simp only [Act.put, List.setIfInBounds_toArray, List.set_cons_zero, List.set_cons_succ]
    refine wpAnyH_ready (rs := [23]) (by kernel_rfl) (by simp) ?_
    refine AllReadyH.cons (o := { dst := Option.some 53, op := Op.call { callee := Callee.value (Operand.func 10), args := #[], argTypes := #[] }, type := 4, pos := "law.go:84", after := #[{ on := 22, ground := Ground.chain }, { on := 22, ground := Ground.guard }], guard := Option.some (22, true) }) rfl (fun K hK => ?_) AllReadyH.nil
    go_simp
    refine (sureM C v135 (HS.out _ (HT.out.trans (HQ.out.mono HT.out.size)))).mono ?_
    rintro y v136 ⟨rfl, hb⟩
    have hbS := HX.out.trans (hb.mono HX.out.size)
    refine hK.out _ _ hbS (fun hHeld2 => ?_)
    clear hK K hHeld hHeld2
    have HFZ := Lib.hid (HFZ.out.below hbS)
    have HN5 := Lib.hid (HN5.out.below hbS)
    have HE9 := Lib.hid (HE9.out.below hbS)
    have HE11 := Lib.hid (HE11.out.below hbS)
    have HE12 := Lib.hid (HE12.out.below hbS)
    have HB := Lib.hid (HB.out.trans (hbS.mono HB.out.size))
    have HQ := Lib.hid HB.out
    refine heldStrong (S' := fun W => Below v136.heap.size v136 W) (fun W hW => hbS.trans (hW.mono hbS.size)) _ _ _ _ ?_
    have hHeld : Below v136.heap.size v136 v136 := Below.refl _ _
    have HX := Lib.hid (Below.refl v136.heap.size v136)
    clear hbS hb
    refine wpAnyH_take (i := 24) (oi := { dst := Option.some 54, op := Op.pick (Operand.tmp 52) (Operand.tmp 53) (Operand.const (Value.bool false)), type := 4, pos := "law.go:84", after := #[{ on := 22, ground := Ground.data }, { on := 23, ground := Ground.data }], guard := Option.none }) (v := .bool true) rfl (by kernel_rfl) (by kernel_rfl) (by kernel_rfl) (fun _ _ _ h => h) (Or.inl ⟨by rfl, ?_⟩) hHeld ?_
    · intro W hSw
      go_simp
    simp only [Act.put, List.setIfInBounds_toArray, List.set_cons_zero, List.set_cons_succ]
    refine wpAnyH_take (i := 25) (oi := { dst := Option.some 4, op := Op.assign (Operand.tmp 54), type := 4, pos := "law.go:84", after := #[{ on := 24, ground := Ground.data }, { on := 23, ground := Ground.chain }, { on := 0, ground := Ground.phase }, { on := 1, ground := Ground.phase }, { on := 2, ground := Ground.phase }, { on := 3, ground := Ground.phase }, { on := 4, ground := Ground.phase }, { on := 5, ground := Ground.phase }, { on := 6, ground := Ground.phase }, { on := 7, ground := Ground.phase }, { on := 8, ground := Ground.phase }, { on := 9, ground := Ground.phase }, { on := 10, ground := Ground.phase }, { on := 11, ground := Ground.phase }, { on := 12, ground := Ground.phase }, { on := 13, ground := Ground.phase }, { on := 14, ground := Ground.phase }, { on := 15, ground := Ground.phase }, { on := 16, ground := Ground.phase }, { on := 17, ground := Ground.phase }, { on := 18, ground := Ground.phase }, { on := 19, ground := Ground.phase }, { on := 20, ground := Ground.phase }, { on := 21, ground := Ground.phase }, { on := 22, ground := Ground.phase }, { on := 23, ground := Ground.phase }, { on := 24, ground := Ground.phase }], guard := Option.none }) (v := .bool true) rfl (by kernel_rfl) (by kernel_rfl) (by kernel_rfl) (fun _ _ _ h => h) (Or.inl ⟨by rfl, ?_⟩) hHeld ?_
    · intro W hSw
      go_simp
    simp only [Act.put, List.setIfInBounds_toArray, List.set_cons_zero, List.set_cons_succ]
    clear hHeld
    refine wpAnyH_done (by kernel_rfl) ?_ _
    go_wp2_with fail
    go_ret
    exact ⟨rfl, HE.out.1.trans ((HT.out.trans (HQ.out.mono HT.out.size)).mono HE.out.1.size)⟩

end Go.Proofs.YtfblgkcipnkhaaaGreatDoor.pk
