/-
  The law MsgBytes: walked.
-/
import Derived.Test.YtfblgkcipnkhaaaGreatDoorJk
import Derived.Test.YtfblgkcipnkhaaaGreatDoorJl
import Derived.Test.YtfblgkcipnkhaaaGreatDoorRdJ
import Derived.Test.YtfblgkcipnkhaaaGreatDoorLawRd
namespace Go.Proofs.YtfblgkcipnkhaaaGreatDoor.pk
open Go Go.RowKit
set_option maxRecDepth 100000

set_option maxHeartbeats 32000000 in
theorem bytes_true (C : ConM) (m : Ms) (Ad : Option Addr) (nd cd : Nat) (Ae : Option Addr) (ne ce : Nat) (Ab : Option Addr) (nb cb : Nat) (b : List UInt8) (w : World) (hs : StdP w) (h : InM m Ad nd cd Ae ne ce w) (hd : ∀ e ∈ m.ents, e.data.length ≤ 140737488355328) (hbb : Bys w (.slice Ab nb cb) b) (hn : nb ≤ 140737488355328) :
    Calls Tryz.prog 3 #[.agg #[.int .i64 m.kind, .int .i64 m.frm, .int .i64 m.to, .int .i64 m.term, .int .i64 m.index, .int .i64 m.logTerm, .int .i64 m.commit, .int .i64 m.round, .bool m.ok, .int .i64 m.off, .slice Ad nd cd, .slice Ae ne ce], .slice Ab nb cb] w fun y w' => y = .returned (.bool true) ∧ Below w.heap.size w w' := by
  obtain ⟨W1, g, hW1, hg, hb1, hq, hsz⟩ := one_box w (.cells #[.int .i64 m.kind, .int .i64 m.frm, .int .i64 m.to, .int .i64 m.term, .int .i64 m.index, .int .i64 m.logTerm, .int .i64 m.commit, .int .i64 m.round, .bool m.ok, .int .i64 m.off, .slice Ad nd cd, .slice Ae ne ce] 25)
  have HW := Lib.hid (And.intro hW1 hg)
  have HE := Lib.hid (And.intro hb1 (obj_lt hq))
  have HS := Lib.hid fun W (hW : Below W1.heap.size W1 W) => (hs.more hb1).more hW
  have HC := Lib.hid fun W (hW : Below W1.heap.size W1 W) => cells12 ((hW.block g (obj_lt hq)).trans hq)
  have HI := Lib.hid fun W (hW : Below W1.heap.size W1 W) => (h.below hb1).below hW
  have HA := Lib.hid fun W (hW : Below W1.heap.size W1 W) => (hbb.below hb1).below hW
  cases hl : longM m with
  | true =>
    have HL := Lib.hid fun W hW => longMsg_any m Ad nd cd Ae ne ce W (HI.out W hW) hd true hl.symm
    clear hW1 hg hb1 hq hsz h hd hs hl hbb hn
    go_enter Tryz.func3, Tryz.ntmps3
    go_upto_region 1 with fail
    rw [← HW.out.1, ← HW.out.2]
    obtain ⟨z0, z1, z2, z3, z4, z5, z6, z7, z8, z9, z10, z11⟩ := HC.out W1 (Below.refl _ _)
    go_wp2_with (first
      | (go_at_call 9; go_must (refine (HL.out W1 (Below.refl _ _)).mono ?_; rintro y w1 ⟨rfl, hb⟩; have H1 := Lib.hid hb; clear hb))
      | (go_at_call 10; go_must (refine (sureM C w1 (HS.out w1 H1.out)).mono ?_; rintro y w2 ⟨rfl, hb⟩; have H2 := Lib.hid (H1.out.trans (hb.mono H1.out.size)); clear hb)))
    go_ret
    exact ⟨rfl, HE.out.1.trans (H2.out.mono HE.out.1.size)⟩
  | false =>
    have HL := Lib.hid fun W hW => longMsg_any m Ad nd cd Ae ne ce W (HI.out W hW) hd false hl.symm
    obtain ⟨s1, s2⟩ := longM_small hl
    have hnd := h.data.len_
    have hnd2 : nd ≤ 10000 := by omega
    have s3 : SmallE 1000000 100000000 m.ents := ⟨by have := s2.1; omega, fun e he => by have := s2.2 e he; omega⟩
    have HG := Lib.hid fun W hW => giveMsg_any m Ad nd cd Ae ne ce W (HI.out W hW) (by omega) s3
    obtain ⟨q, hq0⟩ : ∃ q, q = (encM m).length := ⟨_, rfl⟩
    have CX := Lib.hid fun W hW => RefEncM_any m Ad nd cd Ae ne ce W (HI.out W hW) hnd2 s2 q hq0
    obtain ⟨X, hX⟩ : ∃ X : ByteArray, X = ⟨(encM m).toArray⟩ := ⟨_, rfl⟩
    have HXx := Lib.hid hX
    have CEM := Lib.hid fun Ad cd Ae ce W hS hI => C.mEncode m Ad nd cd Ae ne ce W hS hI hnd2 s2 q hq0
    rcases hdx : decM b with ⟨x, k⟩
    obtain ⟨x1, x2⟩ := decM_small hdx
    obtain ⟨nx, hnx⟩ : ∃ nx, nx = x.data.length := ⟨_, rfl⟩
    obtain ⟨ex, hex⟩ : ∃ ex, ex = x.ents.length := ⟨_, rfl⟩
    have CD := Lib.hid fun W (hW : Below W1.heap.size W1 W) => C.mDecode Ab nb cb b W (HS.out W hW) (HA.out W hW) hn x k hdx.symm nx ex hnx hex
    have CR := Lib.hid fun W (hW : Below W1.heap.size W1 W) => RefDecM_s Ab nb cb b W W1.heap.size hW.size (((hbb.below hb1).sl_).below hW) x k hdx.symm nx ex hnx hex
    obtain ⟨qx, hqx⟩ : ∃ q, q = (encM x).length := ⟨_, rfl⟩
    have CE1 := Lib.hid fun Ad cd Ae ce W hS hI => C.mEncode x Ad nx cd Ae ex ce W hS hI (by omega) x2 qx hqx
    have CX1 := Lib.hid fun Ad cd Ae ce W hI => RefEncM_any x Ad nx cd Ae ex ce W hI (by omega) x2 qx hqx
    obtain ⟨Y, hY⟩ : ∃ Y : ByteArray, Y = ⟨(encM x).toArray⟩ := ⟨_, rfl⟩
    have HYx := Lib.hid hY
    have CN := Lib.hid fun W hS => num_any k W hS
    cases hm : mayM m with
    | true =>
      have CC := Lib.hid fun A1 c1 A2 c2 W hS' hI => C.mCheck m A1 nd c1 A2 ne c2 W hS' hI hnd2 s2 0 (by rw [hm]; rfl)
      rw [er_zero] at CC
      have CM := Lib.hid fun W hW => May_m m Ad nd cd Ae ne ce W (HI.out W hW) true hm.symm
      clear hW1 hg hb1 hq hsz h hd hs hl s1 s2 s3 hnd hnd2 hq0 hX hbb hn hdx x1 x2 hnx hex hqx hY hm
      go_enter Tryz.func3, Tryz.ntmps3
      go_upto_region 1 with fail
      rw [← HW.out.1, ← HW.out.2]
      obtain ⟨z0, z1, z2, z3, z4, z5, z6, z7, z8, z9, z10, z11⟩ := HC.out W1 (Below.refl _ _)
      go_upto_region 3 with (go_at_call 9; go_must (refine (HL.out W1 (Below.refl _ _)).mono ?_; rintro y w1 ⟨rfl, hb⟩; have HP := Lib.hid hb; clear hb))
      clear z0 z1 z2 z3 z4 z5 z6 z7 z8 z9 z10 z11
      go_upto_region 4 with (go_at_call 11; go_must (refine (CD.out w1 HP.out).mono ?_; rintro y wa ⟨Ad1, cd1, Ae1, ce1, rfl, hi, hb⟩; have H1 := Lib.hid (And.intro hi hb); clear hi hb))
      obtain ⟨W3, g3, hW3, hg3, hb3, hq3, -⟩ := one_box wa (.cells #[.int .i64 x.kind, .int .i64 x.frm, .int .i64 x.to, .int .i64 x.term, .int .i64 x.index, .int .i64 x.logTerm, .int .i64 x.commit, .int .i64 x.round, .bool x.ok, .int .i64 x.off, .slice Ad1 nx cd1, .slice Ae1 ex ce1] 30)
      rw [← hW3, ← hg3]
      have HW3 := Lib.hid (And.intro (HP.out.trans ((H1.out.2.trans (hb3.mono H1.out.2.size)).mono HP.out.size)) (And.intro (H1.out.1.below hb3) hq3))
      clear hW3 hg3 hb3 hq3
      go_upto_region 5 with (go_at_call 12; go_must (refine (CR.out W3 HW3.out.1).mono ?_; rintro y wb ⟨Ad2, cd2, Ae2, ce2, rfl, hi, hb⟩; have H2 := Lib.hid (And.intro (hi.inM fun _ hq => hq.2) hb); clear hi hb))
      obtain ⟨W4, g4, hW4, hg4, hb4, hq4, -⟩ := one_box wb (.cells #[.int .i64 x.kind, .int .i64 x.frm, .int .i64 x.to, .int .i64 x.term, .int .i64 x.index, .int .i64 x.logTerm, .int .i64 x.commit, .int .i64 x.round, .bool x.ok, .int .i64 x.off, .slice Ad2 nx cd2, .slice Ae2 ex ce2] 25)
      rw [← hW4, ← hg4]
      have hxb := H2.out.2.trans (hb4.mono H2.out.2.size)
      have HT := Lib.hid (HW3.out.1.trans (hxb.mono HW3.out.1.size))
      have HC0 := Lib.hid fun W (hW : Below W4.heap.size W4 W) => HC.out W (HT.out.trans (hW.mono HT.out.size))
      have HC1 := Lib.hid fun W (hW : Below W4.heap.size W4 W) => cells12 (((hW.block g3 (Nat.lt_of_lt_of_le (obj_lt HW3.out.2.2) hxb.size)).trans (hxb.block g3 (obj_lt HW3.out.2.2))).trans HW3.out.2.2)
      have HC2 := Lib.hid fun W (hW : Below W4.heap.size W4 W) => cells12 ((hW.block g4 (obj_lt hq4)).trans hq4)
      have HI1 := Lib.hid fun W (hW : Below W4.heap.size W4 W) => (HW3.out.2.1.below hxb).below hW
      have HI2 := Lib.hid fun W (hW : Below W4.heap.size W4 W) => (H2.out.1.below hb4).below hW
      clear hW4 hg4 hb4 hq4 hxb
      have hd0 : Below W4.heap.size W4 W4.drew := (Below.refl _ _).drew
      refine wp_region_held_drew (S := fun W => Below W4.heap.size W4 W) (by kernel_rfl) hd0 (fun hHeld => ?_)
      obtain ⟨v0, hv0⟩ : ∃ V, V = W4.drew := ⟨_, rfl⟩
      rw [← hv0] at hd0 hHeld ⊢
      have HB := Lib.hid (Below.refl W4.heap.size W4)
      have HX := Lib.hid hd0
      have HQ := Lib.hid hd0
      clear hd0 hv0
      refine wpAnyH_take (i := 0) (oi := { dst := Option.some 22, op := Op.load 25 (Operand.tmp 2), type := 25, pos := "law.go:73", after := #[], guard := Option.none }) (v := .agg #[.int .i64 m.kind, .int .i64 m.frm, .int .i64 m.to, .int .i64 m.term, .int .i64 m.index, .int .i64 m.logTerm, .int .i64 m.commit, .int .i64 m.round, .bool m.ok, .int .i64 m.off, .slice Ad nd cd, .slice Ae ne ce]) rfl (by kernel_rfl) (by kernel_rfl) (by kernel_rfl) (fun _ _ _ h => h) (Or.inl ⟨by rfl, ?_⟩) hHeld ?_
      · intro W hSw
        obtain ⟨z0, z1, z2, z3, z4, z5, z6, z7, z8, z9, z10, z11⟩ := HC0.out _ (HB.out.trans (hSw.mono HB.out.size))
        go_simp
      simp only [Act.put, List.setIfInBounds_toArray, List.set_cons_zero, List.set_cons_succ]
      refine wpAnyH_take (i := 4) (oi := { dst := Option.some 26, op := Op.load 25 (Operand.tmp 2), type := 25, pos := "law.go:73", after := #[], guard := Option.none }) (v := .agg #[.int .i64 m.kind, .int .i64 m.frm, .int .i64 m.to, .int .i64 m.term, .int .i64 m.index, .int .i64 m.logTerm, .int .i64 m.commit, .int .i64 m.round, .bool m.ok, .int .i64 m.off, .slice Ad nd cd, .slice Ae ne ce]) rfl (by kernel_rfl) (by kernel_rfl) (by kernel_rfl) (fun _ _ _ h => h) (Or.inl ⟨by rfl, ?_⟩) hHeld ?_
      · intro W hSw
        obtain ⟨z0, z1, z2, z3, z4, z5, z6, z7, z8, z9, z10, z11⟩ := HC0.out _ (HB.out.trans (hSw.mono HB.out.size))
        go_simp
      simp only [Act.put, List.setIfInBounds_toArray, List.set_cons_zero, List.set_cons_succ]
      refine wpAnyH_ready (rs := [1]) (by kernel_rfl) (by simp) ?_
      refine AllReadyH.cons (o := { dst := Option.some 23, op := Op.call { callee := Callee.value (Operand.func 14), args := #[Operand.tmp 22], argTypes := #[25] }, type := 30, pos := "law.go:73", after := #[{ on := 0, ground := Ground.data }], guard := Option.none }) rfl (fun K hK => ?_) AllReadyH.nil
      go_simp
      refine (HG.out v0 (HT.out.trans (HQ.out.mono HT.out.size))).mono ?_
      rintro y v111 ⟨A5, c5, A6, c6, rfl, hi, hb⟩
      have hbS := HX.out.trans (hb.mono HX.out.size)
      refine hK.out _ _ hbS (fun hHeld2 => ?_)
      clear hK K hHeld hHeld2
      have HN5 := Lib.hid (hi)
      have HB := Lib.hid (HB.out.trans (hbS.mono HB.out.size))
      have HQ := Lib.hid HB.out
      refine heldStrong (S' := fun W => Below v111.heap.size v111 W) (fun W hW => hbS.trans (hW.mono hbS.size)) _ _ _ _ ?_
      have hHeld : Below v111.heap.size v111 v111 := Below.refl _ _
      have HX := Lib.hid (Below.refl v111.heap.size v111)
      clear hbS hb hi
      refine wpAnyH_ready (rs := [2]) (by kernel_rfl) (by simp) ?_
      refine AllReadyH.cons (o := { dst := Option.some 24, op := Op.call { callee := Callee.value (Operand.func 13), args := #[Operand.tmp 23], argTypes := #[30] }, type := 32, pos := "law.go:73", after := #[{ on := 1, ground := Ground.data }, { on := 1, ground := Ground.chain }], guard := Option.none }) rfl (fun K hK => ?_) AllReadyH.nil
      go_simp
      refine (CC.out A5 c5 A6 c6 v111 (HS.out _ (HT.out.trans (HQ.out.mono HT.out.size))) HN5.out).mono ?_
      rintro y v112 ⟨rfl, hb⟩
      have hbS := HX.out.trans (hb.mono HX.out.size)
      refine hK.out _ _ hbS (fun hHeld2 => ?_)
      clear hK K hHeld hHeld2
      have HN5 := Lib.hid (HN5.out.below hbS)
      have HB := Lib.hid (HB.out.trans (hbS.mono HB.out.size))
      have HQ := Lib.hid HB.out
      refine heldStrong (S' := fun W => Below v112.heap.size v112 W) (fun W hW => hbS.trans (hW.mono hbS.size)) _ _ _ _ ?_
      have hHeld : Below v112.heap.size v112 v112 := Below.refl _ _
      have HX := Lib.hid (Below.refl v112.heap.size v112)
      clear hbS hb
      refine wpAnyH_take (i := 3) (oi := { dst := Option.some 25, op := Op.binOp BinOp.eql 32 (Operand.tmp 24) (Operand.const Value.nilIface) 32, type := 4, pos := "law.go:73", after := #[{ on := 2, ground := Ground.data }], guard := Option.none }) (v := .bool true) rfl (by kernel_rfl) (by kernel_rfl) (by kernel_rfl) (fun _ _ _ h => h) (Or.inl ⟨by rfl, ?_⟩) hHeld ?_
      · intro W hSw
        go_simp
      simp only [Act.put, List.setIfInBounds_toArray, List.set_cons_zero, List.set_cons_succ]
      refine wpAnyH_ready (rs := [5]) (by kernel_rfl) (by simp) ?_
      refine AllReadyH.cons (o := { dst := Option.some 27, op := Op.call { callee := Callee.value (Operand.func 15), args := #[Operand.tmp 26], argTypes := #[25] }, type := 4, pos := "law.go:73", after := #[{ on := 4, ground := Ground.data }, { on := 2, ground := Ground.chain }], guard := Option.none }) rfl (fun K hK => ?_) AllReadyH.nil
      go_simp
      refine (CM.out v112 (HT.out.trans (HQ.out.mono HT.out.size))).mono ?_
      rintro y v113 ⟨rfl, hb⟩
      have hbS := HX.out.trans (hb.mono HX.out.size)
      refine hK.out _ _ hbS (fun hHeld2 => ?_)
      clear hK K hHeld hHeld2
      have HN5 := Lib.hid (HN5.out.below hbS)
      have HB := Lib.hid (HB.out.trans (hbS.mono HB.out.size))
      have HQ := Lib.hid HB.out
      refine heldStrong (S' := fun W => Below v113.heap.size v113 W) (fun W hW => hbS.trans (hW.mono hbS.size)) _ _ _ _ ?_
      have hHeld : Below v113.heap.size v113 v113 := Below.refl _ _
      have HX := Lib.hid (Below.refl v113.heap.size v113)
      clear hbS hb
      refine wpAnyH_take (i := 6) (oi := { dst := Option.some 28, op := Op.binOp BinOp.eql 4 (Operand.tmp 25) (Operand.tmp 27) 4, type := 4, pos := "law.go:73", after := #[{ on := 3, ground := Ground.data }, { on := 5, ground := Ground.data }], guard := Option.none }) (v := .bool true) rfl (by kernel_rfl) (by kernel_rfl) (by kernel_rfl) (fun _ _ _ h => h) (Or.inl ⟨by rfl, ?_⟩) hHeld ?_
      · intro W hSw
        go_simp
      simp only [Act.put, List.setIfInBounds_toArray, List.set_cons_zero, List.set_cons_succ]
      refine wpAnyH_take (i := 7) (oi := { dst := Option.some 29, op := Op.move (Operand.tmp 28), type := 4, pos := "law.go:73", after := #[{ on := 6, ground := Ground.data }, { on := 5, ground := Ground.chain }], guard := Option.none }) (v := .bool true) rfl (by kernel_rfl) (by kernel_rfl) (by kernel_rfl) (fun _ _ _ h => h) (Or.inl ⟨by rfl, ?_⟩) hHeld ?_
      · intro W hSw
        go_simp
      simp only [Act.put, List.setIfInBounds_toArray, List.set_cons_zero, List.set_cons_succ]
      refine wpAnyH_take (i := 8) (oi := { dst := Option.some 30, op := Op.load 25 (Operand.tmp 2), type := 25, pos := "law.go:73", after := #[{ on := 7, ground := Ground.guard }], guard := Option.some (7, true) }) (v := .agg #[.int .i64 m.kind, .int .i64 m.frm, .int .i64 m.to, .int .i64 m.term, .int .i64 m.index, .int .i64 m.logTerm, .int .i64 m.commit, .int .i64 m.round, .bool m.ok, .int .i64 m.off, .slice Ad nd cd, .slice Ae ne ce]) rfl (by kernel_rfl) (by kernel_rfl) (by kernel_rfl) (fun _ _ _ h => h) (Or.inl ⟨by rfl, ?_⟩) hHeld ?_
      · intro W hSw
        obtain ⟨z0, z1, z2, z3, z4, z5, z6, z7, z8, z9, z10, z11⟩ := HC0.out _ (HB.out.trans (hSw.mono HB.out.size))
        go_simp
      simp only [Act.put, List.setIfInBounds_toArray, List.set_cons_zero, List.set_cons_succ]
      refine wpAnyH_take (i := 12) (oi := { dst := Option.some 34, op := Op.load 25 (Operand.tmp 2), type := 25, pos := "law.go:73", after := #[{ on := 7, ground := Ground.guard }], guard := Option.some (7, true) }) (v := .agg #[.int .i64 m.kind, .int .i64 m.frm, .int .i64 m.to, .int .i64 m.term, .int .i64 m.index, .int .i64 m.logTerm, .int .i64 m.commit, .int .i64 m.round, .bool m.ok, .int .i64 m.off, .slice Ad nd cd, .slice Ae ne ce]) rfl (by kernel_rfl) (by kernel_rfl) (by kernel_rfl) (fun _ _ _ h => h) (Or.inl ⟨by rfl, ?_⟩) hHeld ?_
      · intro W hSw
        obtain ⟨z0, z1, z2, z3, z4, z5, z6, z7, z8, z9, z10, z11⟩ := HC0.out _ (HB.out.trans (hSw.mono HB.out.size))
        go_simp
      simp only [Act.put, List.setIfInBounds_toArray, List.set_cons_zero, List.set_cons_succ]
      refine wpAnyH_ready (rs := [9]) (by kernel_rfl) (by simp) ?_
      refine AllReadyH.cons (o := { dst := Option.some 31, op := Op.call { callee := Callee.value (Operand.func 14), args := #[Operand.tmp 30], argTypes := #[25] }, type := 30, pos := "law.go:73", after := #[{ on := 8, ground := Ground.data }, { on := 7, ground := Ground.chain }, { on := 7, ground := Ground.guard }], guard := Option.some (7, true) }) rfl (fun K hK => ?_) AllReadyH.nil
      go_simp
      refine (HG.out v113 (HT.out.trans (HQ.out.mono HT.out.size))).mono ?_
      rintro y v114 ⟨A7, c7, A8, c8, rfl, hi, hb⟩
      have hbS := HX.out.trans (hb.mono HX.out.size)
      refine hK.out _ _ hbS (fun hHeld2 => ?_)
      clear hK K hHeld hHeld2
      have HN5 := Lib.hid (HN5.out.below hbS)
      have HN7 := Lib.hid (hi)
      have HB := Lib.hid (HB.out.trans (hbS.mono HB.out.size))
      have HQ := Lib.hid HB.out
      refine heldStrong (S' := fun W => Below v114.heap.size v114 W) (fun W hW => hbS.trans (hW.mono hbS.size)) _ _ _ _ ?_
      have hHeld : Below v114.heap.size v114 v114 := Below.refl _ _
      have HX := Lib.hid (Below.refl v114.heap.size v114)
      clear hbS hb hi
      refine wpAnyH_ready (rs := [10]) (by kernel_rfl) (by simp) ?_
      refine AllReadyH.cons (o := { dst := Option.some 32, op := Op.call { callee := Callee.value (Operand.func 16), args := #[Operand.tmp 31], argTypes := #[30] }, type := 22, pos := "law.go:73", after := #[{ on := 9, ground := Ground.data }, { on := 9, ground := Ground.chain }, { on := 7, ground := Ground.guard }], guard := Option.some (7, true) }) rfl (fun K hK => ?_) AllReadyH.nil
      go_simp
      refine (CEM.out A7 c7 A8 c8 v114 (HS.out _ (HT.out.trans (HQ.out.mono HT.out.size))) HN7.out).mono ?_
      rintro y v115 ⟨A9, c9, rfl, hi, hb⟩
      have hbS := HX.out.trans (hb.mono HX.out.size)
      refine hK.out _ _ hbS (fun hHeld2 => ?_)
      clear hK K hHeld hHeld2
      have HN5 := Lib.hid (HN5.out.below hbS)
      have HN7 := Lib.hid (HN7.out.below hbS)
      have HE9 := Lib.hid (hi)
      have HB := Lib.hid (HB.out.trans (hbS.mono HB.out.size))
      have HQ := Lib.hid HB.out
      refine heldStrong (S' := fun W => Below v115.heap.size v115 W) (fun W hW => hbS.trans (hW.mono hbS.size)) _ _ _ _ ?_
      have hHeld : Below v115.heap.size v115 v115 := Below.refl _ _
      have HX := Lib.hid (Below.refl v115.heap.size v115)
      clear hbS hb hi
      refine wpAnyH_take (i := 11) (oi := { dst := Option.some 33, op := Op.convert 22 9 (Operand.tmp 32), type := 9, pos := "law.go:73", after := #[{ on := 10, ground := Ground.data }, { on := 7, ground := Ground.guard }], guard := Option.some (7, true) }) (v := .string X) rfl (by kernel_rfl) (by kernel_rfl) (by kernel_rfl) (fun _ _ _ h => h) (Or.inl ⟨by rfl, ?_⟩) hHeld ?_
      · intro W hSw
        have hv := conv_bytes (HE9.out.below hSw).sl_; rw [← HXx.out] at hv
        go_simp
      simp only [Act.put, List.setIfInBounds_toArray, List.set_cons_zero, List.set_cons_succ]
      refine wpAnyH_ready (rs := [13]) (by kernel_rfl) (by simp) ?_
      refine AllReadyH.cons (o := { dst := Option.some 35, op := Op.call { callee := Callee.value (Operand.func 17), args := #[Operand.tmp 34], argTypes := #[25] }, type := 22, pos := "law.go:73", after := #[{ on := 12, ground := Ground.data }, { on := 10, ground := Ground.chain }, { on := 7, ground := Ground.guard }], guard := Option.some (7, true) }) rfl (fun K hK => ?_) AllReadyH.nil
      go_simp
      refine (CX.out v115 (HT.out.trans (HQ.out.mono HT.out.size))).mono ?_
      rintro y v116 ⟨A10, c10, rfl, hi, hb⟩
      have hbS := HX.out.trans (hb.mono HX.out.size)
      refine hK.out _ _ hbS (fun hHeld2 => ?_)
      clear hK K hHeld hHeld2
      have HN5 := Lib.hid (HN5.out.below hbS)
      have HN7 := Lib.hid (HN7.out.below hbS)
      have HE9 := Lib.hid (HE9.out.below hbS)
      have HE10 := Lib.hid (hi)
      have HB := Lib.hid (HB.out.trans (hbS.mono HB.out.size))
      have HQ := Lib.hid HB.out
      refine heldStrong (S' := fun W => Below v116.heap.size v116 W) (fun W hW => hbS.trans (hW.mono hbS.size)) _ _ _ _ ?_
      have hHeld : Below v116.heap.size v116 v116 := Below.refl _ _
      have HX := Lib.hid (Below.refl v116.heap.size v116)
      clear hbS hb hi
      refine wpAnyH_take (i := 14) (oi := { dst := Option.some 36, op := Op.convert 22 9 (Operand.tmp 35), type := 9, pos := "law.go:73", after := #[{ on := 13, ground := Ground.data }, { on := 7, ground := Ground.guard }], guard := Option.some (7, true) }) (v := .string X) rfl (by kernel_rfl) (by kernel_rfl) (by kernel_rfl) (fun _ _ _ h => h) (Or.inl ⟨by rfl, ?_⟩) hHeld ?_
      · intro W hSw
        have hv := conv_bytes (HE10.out.below hSw).sl_; rw [← HXx.out] at hv
        go_simp
      simp only [Act.put, List.setIfInBounds_toArray, List.set_cons_zero, List.set_cons_succ]
      refine wpAnyH_take (i := 15) (oi := { dst := Option.some 37, op := Op.binOp BinOp.eql 9 (Operand.tmp 33) (Operand.tmp 36) 9, type := 4, pos := "law.go:73", after := #[{ on := 11, ground := Ground.data }, { on := 14, ground := Ground.data }, { on := 7, ground := Ground.guard }], guard := Option.some (7, true) }) (v := .bool true) rfl (by kernel_rfl) (by kernel_rfl) (by kernel_rfl) (fun _ _ _ h => h) (Or.inl ⟨by rfl, ?_⟩) hHeld ?_
      · intro W hSw
        go_simp
      simp only [Act.put, List.setIfInBounds_toArray, List.set_cons_zero, List.set_cons_succ]
      refine wpAnyH_take (i := 16) (oi := { dst := Option.some 38, op := Op.pick (Operand.tmp 29) (Operand.tmp 37) (Operand.const (Value.bool false)), type := 4, pos := "law.go:73", after := #[{ on := 7, ground := Ground.data }, { on := 15, ground := Ground.data }], guard := Option.none }) (v := .bool true) rfl (by kernel_rfl) (by kernel_rfl) (by kernel_rfl) (fun _ _ _ h => h) (Or.inl ⟨by rfl, ?_⟩) hHeld ?_
      · intro W hSw
        go_simp
      simp only [Act.put, List.setIfInBounds_toArray, List.set_cons_zero, List.set_cons_succ]
      refine wpAnyH_take (i := 17) (oi := { dst := Option.some 39, op := Op.move (Operand.tmp 38), type := 4, pos := "law.go:73", after := #[{ on := 16, ground := Ground.data }, { on := 13, ground := Ground.chain }], guard := Option.none }) (v := .bool true) rfl (by kernel_rfl) (by kernel_rfl) (by kernel_rfl) (fun _ _ _ h => h) (Or.inl ⟨by rfl, ?_⟩) hHeld ?_
      · intro W hSw
        go_simp
      simp only [Act.put, List.setIfInBounds_toArray, List.set_cons_zero, List.set_cons_succ]
      refine wpAnyH_take (i := 18) (oi := { dst := Option.some 40, op := Op.load 30 (Operand.tmp 5), type := 30, pos := "law.go:73", after := #[{ on := 17, ground := Ground.guard }], guard := Option.some (17, true) }) (v := .agg #[.int .i64 x.kind, .int .i64 x.frm, .int .i64 x.to, .int .i64 x.term, .int .i64 x.index, .int .i64 x.logTerm, .int .i64 x.commit, .int .i64 x.round, .bool x.ok, .int .i64 x.off, .slice Ad1 nx cd1, .slice Ae1 ex ce1]) rfl (by kernel_rfl) (by kernel_rfl) (by kernel_rfl) (fun _ _ _ h => h) (Or.inl ⟨by rfl, ?_⟩) hHeld ?_
      · intro W hSw
        obtain ⟨z0, z1, z2, z3, z4, z5, z6, z7, z8, z9, z10, z11⟩ := HC1.out _ (HB.out.trans (hSw.mono HB.out.size))
        go_simp
      simp only [Act.put, List.setIfInBounds_toArray, List.set_cons_zero, List.set_cons_succ]
      refine wpAnyH_take (i := 21) (oi := { dst := Option.some 43, op := Op.load 25 (Operand.tmp 7), type := 25, pos := "law.go:73", after := #[{ on := 17, ground := Ground.guard }], guard := Option.some (17, true) }) (v := .agg #[.int .i64 x.kind, .int .i64 x.frm, .int .i64 x.to, .int .i64 x.term, .int .i64 x.index, .int .i64 x.logTerm, .int .i64 x.commit, .int .i64 x.round, .bool x.ok, .int .i64 x.off, .slice Ad2 nx cd2, .slice Ae2 ex ce2]) rfl (by kernel_rfl) (by kernel_rfl) (by kernel_rfl) (fun _ _ _ h => h) (Or.inl ⟨by rfl, ?_⟩) hHeld ?_
      · intro W hSw
        obtain ⟨z0, z1, z2, z3, z4, z5, z6, z7, z8, z9, z10, z11⟩ := HC2.out _ (HB.out.trans (hSw.mono HB.out.size))
        go_simp
      simp only [Act.put, List.setIfInBounds_toArray, List.set_cons_zero, List.set_cons_succ]
      refine wpAnyH_ready (rs := [19]) (by kernel_rfl) (by simp) ?_
      refine AllReadyH.cons (o := { dst := Option.some 41, op := Op.call { callee := Callee.value (Operand.func 16), args := #[Operand.tmp 40], argTypes := #[30] }, type := 22, pos := "law.go:73", after := #[{ on := 18, ground := Ground.data }, { on := 17, ground := Ground.chain }, { on := 17, ground := Ground.guard }], guard := Option.some (17, true) }) rfl (fun K hK => ?_) AllReadyH.nil
      go_simp
      refine (CE1.out Ad1 cd1 Ae1 ce1 v116 (HS.out _ (HT.out.trans (HQ.out.mono HT.out.size))) (HI1.out _ HQ.out)).mono ?_
      rintro y v117 ⟨A11, c11, rfl, hi, hb⟩
      have hbS := HX.out.trans (hb.mono HX.out.size)
      refine hK.out _ _ hbS (fun hHeld2 => ?_)
      clear hK K hHeld hHeld2
      have HN5 := Lib.hid (HN5.out.below hbS)
      have HN7 := Lib.hid (HN7.out.below hbS)
      have HE9 := Lib.hid (HE9.out.below hbS)
      have HE10 := Lib.hid (HE10.out.below hbS)
      have HE11 := Lib.hid (hi)
      have HB := Lib.hid (HB.out.trans (hbS.mono HB.out.size))
      have HQ := Lib.hid HB.out
      refine heldStrong (S' := fun W => Below v117.heap.size v117 W) (fun W hW => hbS.trans (hW.mono hbS.size)) _ _ _ _ ?_
      have hHeld : Below v117.heap.size v117 v117 := Below.refl _ _
      have HX := Lib.hid (Below.refl v117.heap.size v117)
      clear hbS hb hi
      refine wpAnyH_take (i := 20) (oi := { dst := Option.some 42, op := Op.convert 22 9 (Operand.tmp 41), type := 9, pos := "law.go:73", after := #[{ on := 19, ground := Ground.data }, { on := 17, ground := Ground.guard }], guard := Option.some (17, true) }) (v := .string Y) rfl (by kernel_rfl) (by kernel_rfl) (by kernel_rfl) (fun _ _ _ h => h) (Or.inl ⟨by rfl, ?_⟩) hHeld ?_
      · intro W hSw
        have hv := conv_bytes (HE11.out.below hSw).sl_; rw [← HYx.out] at hv
        go_simp
      simp only [Act.put, List.setIfInBounds_toArray, List.set_cons_zero, List.set_cons_succ]
      refine wpAnyH_ready (rs := [22]) (by kernel_rfl) (by simp) ?_
      refine AllReadyH.cons (o := { dst := Option.some 44, op := Op.call { callee := Callee.value (Operand.func 17), args := #[Operand.tmp 43], argTypes := #[25] }, type := 22, pos := "law.go:73", after := #[{ on := 21, ground := Ground.data }, { on := 19, ground := Ground.chain }, { on := 17, ground := Ground.guard }], guard := Option.some (17, true) }) rfl (fun K hK => ?_) AllReadyH.nil
      go_simp
      refine (CX1.out Ad2 cd2 Ae2 ce2 v117 (HI2.out _ HQ.out)).mono ?_
      rintro y v118 ⟨A12, c12, rfl, hi, hb⟩
      have hbS := HX.out.trans (hb.mono HX.out.size)
      refine hK.out _ _ hbS (fun hHeld2 => ?_)
      clear hK K hHeld hHeld2
      have HN5 := Lib.hid (HN5.out.below hbS)
      have HN7 := Lib.hid (HN7.out.below hbS)
      have HE9 := Lib.hid (HE9.out.below hbS)
      have HE10 := Lib.hid (HE10.out.below hbS)
      have HE11 := Lib.hid (HE11.out.below hbS)
      have HE12 := Lib.hid (hi)
      have HB := Lib.hid (HB.out.trans (hbS.mono HB.out.size))
      have HQ := Lib.hid HB.out
      refine heldStrong (S' := fun W => Below v118.heap.size v118 W) (fun W hW => hbS.trans (hW.mono hbS.size)) _ _ _ _ ?_
      have hHeld : Below v118.heap.size v118 v118 := Below.refl _ _
      have HX := Lib.hid (Below.refl v118.heap.size v118)
      clear hbS hb hi
      refine wpAnyH_take (i := 23) (oi := { dst := Option.some 45, op := Op.convert 22 9 (Operand.tmp 44), type := 9, pos := "law.go:73", after := #[{ on := 22, ground := Ground.data }, { on := 17, ground := Ground.guard }], guard := Option.some (17, true) }) (v := .string Y) rfl (by kernel_rfl) (by kernel_rfl) (by kernel_rfl) (fun _ _ _ h => h) (Or.inl ⟨by rfl, ?_⟩) hHeld ?_
      · intro W hSw
        have hv := conv_bytes (HE12.out.below hSw).sl_; rw [← HYx.out] at hv
        go_simp
      simp only [Act.put, List.setIfInBounds_toArray, List.set_cons_zero, List.set_cons_succ]
      refine wpAnyH_take (i := 24) (oi := { dst := Option.some 46, op := Op.binOp BinOp.eql 9 (Operand.tmp 42) (Operand.tmp 45) 9, type := 4, pos := "law.go:73", after := #[{ on := 20, ground := Ground.data }, { on := 23, ground := Ground.data }, { on := 17, ground := Ground.guard }], guard := Option.some (17, true) }) (v := .bool true) rfl (by kernel_rfl) (by kernel_rfl) (by kernel_rfl) (fun _ _ _ h => h) (Or.inl ⟨by rfl, ?_⟩) hHeld ?_
      · intro W hSw
        go_simp
      simp only [Act.put, List.setIfInBounds_toArray, List.set_cons_zero, List.set_cons_succ]
      refine wpAnyH_take (i := 25) (oi := { dst := Option.some 47, op := Op.pick (Operand.tmp 39) (Operand.tmp 46) (Operand.const (Value.bool false)), type := 4, pos := "law.go:73", after := #[{ on := 17, ground := Ground.data }, { on := 24, ground := Ground.data }], guard := Option.none }) (v := .bool true) rfl (by kernel_rfl) (by kernel_rfl) (by kernel_rfl) (fun _ _ _ h => h) (Or.inl ⟨by rfl, ?_⟩) hHeld ?_
      · intro W hSw
        go_simp
      simp only [Act.put, List.setIfInBounds_toArray, List.set_cons_zero, List.set_cons_succ]
      refine wpAnyH_take (i := 26) (oi := { dst := Option.some 48, op := Op.move (Operand.tmp 47), type := 4, pos := "law.go:73", after := #[{ on := 25, ground := Ground.data }, { on := 22, ground := Ground.chain }], guard := Option.none }) (v := .bool true) rfl (by kernel_rfl) (by kernel_rfl) (by kernel_rfl) (fun _ _ _ h => h) (Or.inl ⟨by rfl, ?_⟩) hHeld ?_
      · intro W hSw
        go_simp
      simp only [Act.put, List.setIfInBounds_toArray, List.set_cons_zero, List.set_cons_succ]
      refine wpAnyH_take (i := 27) (oi := { dst := Option.some 49, op := Op.move (Operand.tmp 6), type := 32, pos := "law.go:73", after := #[{ on := 26, ground := Ground.guard }], guard := Option.some (26, true) }) (v := er k) rfl (by kernel_rfl) (by kernel_rfl) (by kernel_rfl) (fun _ _ _ h => h) (Or.inl ⟨by rfl, ?_⟩) hHeld ?_
      · intro W hSw
        go_simp
      simp only [Act.put, List.setIfInBounds_toArray, List.set_cons_zero, List.set_cons_succ]
      refine wpAnyH_take (i := 29) (oi := { dst := Option.some 51, op := Op.move (Operand.tmp 8), type := 3, pos := "law.go:73", after := #[{ on := 26, ground := Ground.guard }], guard := Option.some (26, true) }) (v := .int .i64 (k : Int)) rfl (by kernel_rfl) (by kernel_rfl) (by kernel_rfl) (fun _ _ _ h => h) (Or.inl ⟨by rfl, ?_⟩) hHeld ?_
      · intro W hSw
        go_simp
      simp only [Act.put, List.setIfInBounds_toArray, List.set_cons_zero, List.set_cons_succ]
      refine wpAnyH_ready (rs := [28]) (by kernel_rfl) (by simp) ?_
      refine AllReadyH.cons (o := { dst := Option.some 50, op := Op.call { callee := Callee.value (Operand.func 18), args := #[Operand.tmp 49], argTypes := #[32] }, type := 3, pos := "law.go:73", after := #[{ on := 27, ground := Ground.data }, { on := 26, ground := Ground.chain }, { on := 26, ground := Ground.guard }], guard := Option.some (26, true) }) rfl (fun K hK => ?_) AllReadyH.nil
      go_simp
      refine (CN.out v118 (HS.out _ (HT.out.trans (HQ.out.mono HT.out.size))).std_).mono ?_
      rintro y v119 ⟨rfl, hb⟩
      have hbS := HX.out.trans (hb.mono HX.out.size)
      refine hK.out _ _ hbS (fun hHeld2 => ?_)
      clear hK K hHeld hHeld2
      have HN5 := Lib.hid (HN5.out.below hbS)
      have HN7 := Lib.hid (HN7.out.below hbS)
      have HE9 := Lib.hid (HE9.out.below hbS)
      have HE10 := Lib.hid (HE10.out.below hbS)
      have HE11 := Lib.hid (HE11.out.below hbS)
      have HE12 := Lib.hid (HE12.out.below hbS)
      have HB := Lib.hid (HB.out.trans (hbS.mono HB.out.size))
      have HQ := Lib.hid HB.out
      refine heldStrong (S' := fun W => Below v119.heap.size v119 W) (fun W hW => hbS.trans (hW.mono hbS.size)) _ _ _ _ ?_
      have hHeld : Below v119.heap.size v119 v119 := Below.refl _ _
      have HX := Lib.hid (Below.refl v119.heap.size v119)
      clear hbS hb
      refine wpAnyH_take (i := 30) (oi := { dst := Option.some 52, op := Op.binOp BinOp.eql 3 (Operand.tmp 50) (Operand.tmp 51) 3, type := 4, pos := "law.go:73", after := #[{ on := 28, ground := Ground.data }, { on := 29, ground := Ground.data }, { on := 26, ground := Ground.guard }], guard := Option.some (26, true) }) (v := .bool true) rfl (by kernel_rfl) (by kernel_rfl) (by kernel_rfl) (fun _ _ _ h => h) (Or.inl ⟨by rfl, ?_⟩) hHeld ?_
      · intro W hSw
        go_simp
      simp only [Act.put, List.setIfInBounds_toArray, List.set_cons_zero, List.set_cons_succ]
      refine wpAnyH_take (i := 31) (oi := { dst := Option.some 53, op := Op.pick (Operand.tmp 48) (Operand.tmp 52) (Operand.const (Value.bool false)), type := 4, pos := "law.go:73", after := #[{ on := 26, ground := Ground.data }, { on := 30, ground := Ground.data }], guard := Option.none }) (v := .bool true) rfl (by kernel_rfl) (by kernel_rfl) (by kernel_rfl) (fun _ _ _ h => h) (Or.inl ⟨by rfl, ?_⟩) hHeld ?_
      · intro W hSw
        go_simp
      simp only [Act.put, List.setIfInBounds_toArray, List.set_cons_zero, List.set_cons_succ]
      refine wpAnyH_take (i := 32) (oi := { dst := Option.some 54, op := Op.move (Operand.tmp 53), type := 4, pos := "law.go:73", after := #[{ on := 31, ground := Ground.data }, { on := 28, ground := Ground.chain }], guard := Option.none }) (v := .bool true) rfl (by kernel_rfl) (by kernel_rfl) (by kernel_rfl) (fun _ _ _ h => h) (Or.inl ⟨by rfl, ?_⟩) hHeld ?_
      · intro W hSw
        go_simp
      simp only [Act.put, List.setIfInBounds_toArray, List.set_cons_zero, List.set_cons_succ]
      refine wpAnyH_ready (rs := [33]) (by kernel_rfl) (by simp) ?_
      refine AllReadyH.cons (o := { dst := Option.some 55, op := Op.call { callee := Callee.value (Operand.func 10), args := #[], argTypes := #[] }, type := 4, pos := "law.go:73", after := #[{ on := 32, ground := Ground.chain }, { on := 32, ground := Ground.guard }], guard := Option.some (32, true) }) rfl (fun K hK => ?_) AllReadyH.nil
      go_simp
      refine (sureM C v119 (HS.out _ (HT.out.trans (HQ.out.mono HT.out.size)))).mono ?_
      rintro y v120 ⟨rfl, hb⟩
      have hbS := HX.out.trans (hb.mono HX.out.size)
      refine hK.out _ _ hbS (fun hHeld2 => ?_)
      clear hK K hHeld hHeld2
      have HN5 := Lib.hid (HN5.out.below hbS)
      have HN7 := Lib.hid (HN7.out.below hbS)
      have HE9 := Lib.hid (HE9.out.below hbS)
      have HE10 := Lib.hid (HE10.out.below hbS)
      have HE11 := Lib.hid (HE11.out.below hbS)
      have HE12 := Lib.hid (HE12.out.below hbS)
      have HB := Lib.hid (HB.out.trans (hbS.mono HB.out.size))
      have HQ := Lib.hid HB.out
      refine heldStrong (S' := fun W => Below v120.heap.size v120 W) (fun W hW => hbS.trans (hW.mono hbS.size)) _ _ _ _ ?_
      have hHeld : Below v120.heap.size v120 v120 := Below.refl _ _
      have HX := Lib.hid (Below.refl v120.heap.size v120)
      clear hbS hb
      refine wpAnyH_take (i := 34) (oi := { dst := Option.some 56, op := Op.pick (Operand.tmp 54) (Operand.tmp 55) (Operand.const (Value.bool false)), type := 4, pos := "law.go:73", after := #[{ on := 32, ground := Ground.data }, { on := 33, ground := Ground.data }], guard := Option.none }) (v := .bool true) rfl (by kernel_rfl) (by kernel_rfl) (by kernel_rfl) (fun _ _ _ h => h) (Or.inl ⟨by rfl, ?_⟩) hHeld ?_
      · intro W hSw
        go_simp
      simp only [Act.put, List.setIfInBounds_toArray, List.set_cons_zero, List.set_cons_succ]
      refine wpAnyH_take (i := 35) (oi := { dst := Option.some 4, op := Op.assign (Operand.tmp 56), type := 4, pos := "law.go:73", after := #[{ on := 34, ground := Ground.data }, { on := 33, ground := Ground.chain }, { on := 0, ground := Ground.phase }, { on := 1, ground := Ground.phase }, { on := 2, ground := Ground.phase }, { on := 3, ground := Ground.phase }, { on := 4, ground := Ground.phase }, { on := 5, ground := Ground.phase }, { on := 6, ground := Ground.phase }, { on := 7, ground := Ground.phase }, { on := 8, ground := Ground.phase }, { on := 9, ground := Ground.phase }, { on := 10, ground := Ground.phase }, { on := 11, ground := Ground.phase }, { on := 12, ground := Ground.phase }, { on := 13, ground := Ground.phase }, { on := 14, ground := Ground.phase }, { on := 15, ground := Ground.phase }, { on := 16, ground := Ground.phase }, { on := 17, ground := Ground.phase }, { on := 18, ground := Ground.phase }, { on := 19, ground := Ground.phase }, { on := 20, ground := Ground.phase }, { on := 21, ground := Ground.phase }, { on := 22, ground := Ground.phase }, { on := 23, ground := Ground.phase }, { on := 24, ground := Ground.phase }, { on := 25, ground := Ground.phase }, { on := 26, ground := Ground.phase }, { on := 27, ground := Ground.phase }, { on := 28, ground := Ground.phase }, { on := 29, ground := Ground.phase }, { on := 30, ground := Ground.phase }, { on := 31, ground := Ground.phase }, { on := 32, ground := Ground.phase }, { on := 33, ground := Ground.phase }, { on := 34, ground := Ground.phase }], guard := Option.none }) (v := .bool true) rfl (by kernel_rfl) (by kernel_rfl) (by kernel_rfl) (fun _ _ _ h => h) (Or.inl ⟨by rfl, ?_⟩) hHeld ?_
      · intro W hSw
        go_simp
      simp only [Act.put, List.setIfInBounds_toArray, List.set_cons_zero, List.set_cons_succ]
      clear hHeld
      refine wpAnyH_done (by kernel_rfl) ?_ _
      go_wp2_with fail
      go_ret
      exact ⟨rfl, HE.out.1.trans ((HT.out.trans (HQ.out.mono HT.out.size)).mono HE.out.1.size)⟩
    | false =>
      have CC := Lib.hid fun A1 c1 A2 c2 W hS' hI => C.mCheck m A1 nd c1 A2 ne c2 W hS' hI hnd2 s2 1 (by rw [hm]; rfl)
      rw [er_ne (by decide)] at CC
      have CM := Lib.hid fun W hW => May_m m Ad nd cd Ae ne ce W (HI.out W hW) false hm.symm
      clear hW1 hg hb1 hq hsz h hd hs hl s1 s2 s3 hnd hnd2 hq0 hX hbb hn hdx x1 x2 hnx hex hqx hY hm
      go_enter Tryz.func3, Tryz.ntmps3
      go_upto_region 1 with fail
      rw [← HW.out.1, ← HW.out.2]
      obtain ⟨z0, z1, z2, z3, z4, z5, z6, z7, z8, z9, z10, z11⟩ := HC.out W1 (Below.refl _ _)
      go_upto_region 3 with (go_at_call 9; go_must (refine (HL.out W1 (Below.refl _ _)).mono ?_; rintro y w1 ⟨rfl, hb⟩; have HP := Lib.hid hb; clear hb))
      clear z0 z1 z2 z3 z4 z5 z6 z7 z8 z9 z10 z11
      go_upto_region 4 with (go_at_call 11; go_must (refine (CD.out w1 HP.out).mono ?_; rintro y wa ⟨Ad1, cd1, Ae1, ce1, rfl, hi, hb⟩; have H1 := Lib.hid (And.intro hi hb); clear hi hb))
      obtain ⟨W3, g3, hW3, hg3, hb3, hq3, -⟩ := one_box wa (.cells #[.int .i64 x.kind, .int .i64 x.frm, .int .i64 x.to, .int .i64 x.term, .int .i64 x.index, .int .i64 x.logTerm, .int .i64 x.commit, .int .i64 x.round, .bool x.ok, .int .i64 x.off, .slice Ad1 nx cd1, .slice Ae1 ex ce1] 30)
      rw [← hW3, ← hg3]
      have HW3 := Lib.hid (And.intro (HP.out.trans ((H1.out.2.trans (hb3.mono H1.out.2.size)).mono HP.out.size)) (And.intro (H1.out.1.below hb3) hq3))
      clear hW3 hg3 hb3 hq3
      go_upto_region 5 with (go_at_call 12; go_must (refine (CR.out W3 HW3.out.1).mono ?_; rintro y wb ⟨Ad2, cd2, Ae2, ce2, rfl, hi, hb⟩; have H2 := Lib.hid (And.intro (hi.inM fun _ hq => hq.2) hb); clear hi hb))
      obtain ⟨W4, g4, hW4, hg4, hb4, hq4, -⟩ := one_box wb (.cells #[.int .i64 x.kind, .int .i64 x.frm, .int .i64 x.to, .int .i64 x.term, .int .i64 x.index, .int .i64 x.logTerm, .int .i64 x.commit, .int .i64 x.round, .bool x.ok, .int .i64 x.off, .slice Ad2 nx cd2, .slice Ae2 ex ce2] 25)
      rw [← hW4, ← hg4]
      have hxb := H2.out.2.trans (hb4.mono H2.out.2.size)
      have HT := Lib.hid (HW3.out.1.trans (hxb.mono HW3.out.1.size))
      have HC0 := Lib.hid fun W (hW : Below W4.heap.size W4 W) => HC.out W (HT.out.trans (hW.mono HT.out.size))
      have HC1 := Lib.hid fun W (hW : Below W4.heap.size W4 W) => cells12 (((hW.block g3 (Nat.lt_of_lt_of_le (obj_lt HW3.out.2.2) hxb.size)).trans (hxb.block g3 (obj_lt HW3.out.2.2))).trans HW3.out.2.2)
      have HC2 := Lib.hid fun W (hW : Below W4.heap.size W4 W) => cells12 ((hW.block g4 (obj_lt hq4)).trans hq4)
      have HI1 := Lib.hid fun W (hW : Below W4.heap.size W4 W) => (HW3.out.2.1.below hxb).below hW
      have HI2 := Lib.hid fun W (hW : Below W4.heap.size W4 W) => (H2.out.1.below hb4).below hW
      clear hW4 hg4 hb4 hq4 hxb
      have hd0 : Below W4.heap.size W4 W4.drew := (Below.refl _ _).drew
      refine wp_region_held_drew (S := fun W => Below W4.heap.size W4 W) (by kernel_rfl) hd0 (fun hHeld => ?_)
      obtain ⟨v0, hv0⟩ : ∃ V, V = W4.drew := ⟨_, rfl⟩
      rw [← hv0] at hd0 hHeld ⊢
      have HB := Lib.hid (Below.refl W4.heap.size W4)
      have HX := Lib.hid hd0
      have HQ := Lib.hid hd0
      clear hd0 hv0
      refine wpAnyH_take (i := 0) (oi := { dst := Option.some 22, op := Op.load 25 (Operand.tmp 2), type := 25, pos := "law.go:73", after := #[], guard := Option.none }) (v := .agg #[.int .i64 m.kind, .int .i64 m.frm, .int .i64 m.to, .int .i64 m.term, .int .i64 m.index, .int .i64 m.logTerm, .int .i64 m.commit, .int .i64 m.round, .bool m.ok, .int .i64 m.off, .slice Ad nd cd, .slice Ae ne ce]) rfl (by kernel_rfl) (by kernel_rfl) (by kernel_rfl) (fun _ _ _ h => h) (Or.inl ⟨by rfl, ?_⟩) hHeld ?_
      · intro W hSw
        obtain ⟨z0, z1, z2, z3, z4, z5, z6, z7, z8, z9, z10, z11⟩ := HC0.out _ (HB.out.trans (hSw.mono HB.out.size))
        go_simp
      simp only [Act.put, List.setIfInBounds_toArray, List.set_cons_zero, List.set_cons_succ]
      refine wpAnyH_take (i := 4) (oi := { dst := Option.some 26, op := Op.load 25 (Operand.tmp 2), type := 25, pos := "law.go:73", after := #[], guard := Option.none }) (v := .agg #[.int .i64 m.kind, .int .i64 m.frm, .int .i64 m.to, .int .i64 m.term, .int .i64 m.index, .int .i64 m.logTerm, .int .i64 m.commit, .int .i64 m.round, .bool m.ok, .int .i64 m.off, .slice Ad nd cd, .slice Ae ne ce]) rfl (by kernel_rfl) (by kernel_rfl) (by kernel_rfl) (fun _ _ _ h => h) (Or.inl ⟨by rfl, ?_⟩) hHeld ?_
      · intro W hSw
        obtain ⟨z0, z1, z2, z3, z4, z5, z6, z7, z8, z9, z10, z11⟩ := HC0.out _ (HB.out.trans (hSw.mono HB.out.size))
        go_simp
      simp only [Act.put, List.setIfInBounds_toArray, List.set_cons_zero, List.set_cons_succ]
      refine wpAnyH_ready (rs := [1]) (by kernel_rfl) (by simp) ?_
      refine AllReadyH.cons (o := { dst := Option.some 23, op := Op.call { callee := Callee.value (Operand.func 14), args := #[Operand.tmp 22], argTypes := #[25] }, type := 30, pos := "law.go:73", after := #[{ on := 0, ground := Ground.data }], guard := Option.none }) rfl (fun K hK => ?_) AllReadyH.nil
      go_simp
      refine (HG.out v0 (HT.out.trans (HQ.out.mono HT.out.size))).mono ?_
      rintro y v121 ⟨A5, c5, A6, c6, rfl, hi, hb⟩
      have hbS := HX.out.trans (hb.mono HX.out.size)
      refine hK.out _ _ hbS (fun hHeld2 => ?_)
      clear hK K hHeld hHeld2
      have HN5 := Lib.hid (hi)
      have HB := Lib.hid (HB.out.trans (hbS.mono HB.out.size))
      have HQ := Lib.hid HB.out
      refine heldStrong (S' := fun W => Below v121.heap.size v121 W) (fun W hW => hbS.trans (hW.mono hbS.size)) _ _ _ _ ?_
      have hHeld : Below v121.heap.size v121 v121 := Below.refl _ _
      have HX := Lib.hid (Below.refl v121.heap.size v121)
      clear hbS hb hi
      refine wpAnyH_ready (rs := [2]) (by kernel_rfl) (by simp) ?_
      refine AllReadyH.cons (o := { dst := Option.some 24, op := Op.call { callee := Callee.value (Operand.func 13), args := #[Operand.tmp 23], argTypes := #[30] }, type := 32, pos := "law.go:73", after := #[{ on := 1, ground := Ground.data }, { on := 1, ground := Ground.chain }], guard := Option.none }) rfl (fun K hK => ?_) AllReadyH.nil
      go_simp
      refine (CC.out A5 c5 A6 c6 v121 (HS.out _ (HT.out.trans (HQ.out.mono HT.out.size))) HN5.out).mono ?_
      rintro y v122 ⟨rfl, hb⟩
      have hbS := HX.out.trans (hb.mono HX.out.size)
      refine hK.out _ _ hbS (fun hHeld2 => ?_)
      clear hK K hHeld hHeld2
      have HN5 := Lib.hid (HN5.out.below hbS)
      have HB := Lib.hid (HB.out.trans (hbS.mono HB.out.size))
      have HQ := Lib.hid HB.out
      refine heldStrong (S' := fun W => Below v122.heap.size v122 W) (fun W hW => hbS.trans (hW.mono hbS.size)) _ _ _ _ ?_
      have hHeld : Below v122.heap.size v122 v122 := Below.refl _ _
      have HX := Lib.hid (Below.refl v122.heap.size v122)
      clear hbS hb
      refine wpAnyH_take (i := 3) (oi := { dst := Option.some 25, op := Op.binOp BinOp.eql 32 (Operand.tmp 24) (Operand.const Value.nilIface) 32, type := 4, pos := "law.go:73", after := #[{ on := 2, ground := Ground.data }], guard := Option.none }) (v := .bool false) rfl (by kernel_rfl) (by kernel_rfl) (by kernel_rfl) (fun _ _ _ h => h) (Or.inl ⟨by rfl, ?_⟩) hHeld ?_
      · intro W hSw
        go_simp
      simp only [Act.put, List.setIfInBounds_toArray, List.set_cons_zero, List.set_cons_succ]
      refine wpAnyH_ready (rs := [5]) (by kernel_rfl) (by simp) ?_
      refine AllReadyH.cons (o := { dst := Option.some 27, op := Op.call { callee := Callee.value (Operand.func 15), args := #[Operand.tmp 26], argTypes := #[25] }, type := 4, pos := "law.go:73", after := #[{ on := 4, ground := Ground.data }, { on := 2, ground := Ground.chain }], guard := Option.none }) rfl (fun K hK => ?_) AllReadyH.nil
      go_simp
      refine (CM.out v122 (HT.out.trans (HQ.out.mono HT.out.size))).mono ?_
      rintro y v123 ⟨rfl, hb⟩
      have hbS := HX.out.trans (hb.mono HX.out.size)
      refine hK.out _ _ hbS (fun hHeld2 => ?_)
      clear hK K hHeld hHeld2
      have HN5 := Lib.hid (HN5.out.below hbS)
      have HB := Lib.hid (HB.out.trans (hbS.mono HB.out.size))
      have HQ := Lib.hid HB.out
      refine heldStrong (S' := fun W => Below v123.heap.size v123 W) (fun W hW => hbS.trans (hW.mono hbS.size)) _ _ _ _ ?_
      have hHeld : Below v123.heap.size v123 v123 := Below.refl _ _
      have HX := Lib.hid (Below.refl v123.heap.size v123)
      clear hbS hb
      refine wpAnyH_take (i := 6) (oi := { dst := Option.some 28, op := Op.binOp BinOp.eql 4 (Operand.tmp 25) (Operand.tmp 27) 4, type := 4, pos := "law.go:73", after := #[{ on := 3, ground := Ground.data }, { on := 5, ground := Ground.data }], guard := Option.none }) (v := .bool true) rfl (by kernel_rfl) (by kernel_rfl) (by kernel_rfl) (fun _ _ _ h => h) (Or.inl ⟨by rfl, ?_⟩) hHeld ?_
      · intro W hSw
        go_simp
      simp only [Act.put, List.setIfInBounds_toArray, List.set_cons_zero, List.set_cons_succ]
      refine wpAnyH_take (i := 7) (oi := { dst := Option.some 29, op := Op.move (Operand.tmp 28), type := 4, pos := "law.go:73", after := #[{ on := 6, ground := Ground.data }, { on := 5, ground := Ground.chain }], guard := Option.none }) (v := .bool true) rfl (by kernel_rfl) (by kernel_rfl) (by kernel_rfl) (fun _ _ _ h => h) (Or.inl ⟨by rfl, ?_⟩) hHeld ?_
      · intro W hSw
        go_simp
      simp only [Act.put, List.setIfInBounds_toArray, List.set_cons_zero, List.set_cons_succ]
      refine wpAnyH_take (i := 8) (oi := { dst := Option.some 30, op := Op.load 25 (Operand.tmp 2), type := 25, pos := "law.go:73", after := #[{ on := 7, ground := Ground.guard }], guard := Option.some (7, true) }) (v := .agg #[.int .i64 m.kind, .int .i64 m.frm, .int .i64 m.to, .int .i64 m.term, .int .i64 m.index, .int .i64 m.logTerm, .int .i64 m.commit, .int .i64 m.round, .bool m.ok, .int .i64 m.off, .slice Ad nd cd, .slice Ae ne ce]) rfl (by kernel_rfl) (by kernel_rfl) (by kernel_rfl) (fun _ _ _ h => h) (Or.inl ⟨by rfl, ?_⟩) hHeld ?_
      · intro W hSw
        obtain ⟨z0, z1, z2, z3, z4, z5, z6, z7, z8, z9, z10, z11⟩ := HC0.out _ (HB.out.trans (hSw.mono HB.out.size))
        go_simp
      simp only [Act.put, List.setIfInBounds_toArray, List.set_cons_zero, List.set_cons_succ]
      refine wpAnyH_take (i := 12) (oi := { dst := Option.some 34, op := Op.load 25 (Operand.tmp 2), type := 25, pos := "law.go:73", after := #[{ on := 7, ground := Ground.guard }], guard := Option.some (7, true) }) (v := .agg #[.int .i64 m.kind, .int .i64 m.frm, .int .i64 m.to, .int .i64 m.term, .int .i64 m.index, .int .i64 m.logTerm, .int .i64 m.commit, .int .i64 m.round, .bool m.ok, .int .i64 m.off, .slice Ad nd cd, .slice Ae ne ce]) rfl (by kernel_rfl) (by kernel_rfl) (by kernel_rfl) (fun _ _ _ h => h) (Or.inl ⟨by rfl, ?_⟩) hHeld ?_
      · intro W hSw
        obtain ⟨z0, z1, z2, z3, z4, z5, z6, z7, z8, z9, z10, z11⟩ := HC0.out _ (HB.out.trans (hSw.mono HB.out.size))
        go_simp
      simp only [Act.put, List.setIfInBounds_toArray, List.set_cons_zero, List.set_cons_succ]
      refine wpAnyH_ready (rs := [9]) (by kernel_rfl) (by simp) ?_
      refine AllReadyH.cons (o := { dst := Option.some 31, op := Op.call { callee := Callee.value (Operand.func 14), args := #[Operand.tmp 30], argTypes := #[25] }, type := 30, pos := "law.go:73", after := #[{ on := 8, ground := Ground.data }, { on := 7, ground := Ground.chain }, { on := 7, ground := Ground.guard }], guard := Option.some (7, true) }) rfl (fun K hK => ?_) AllReadyH.nil
      go_simp
      refine (HG.out v123 (HT.out.trans (HQ.out.mono HT.out.size))).mono ?_
      rintro y v124 ⟨A7, c7, A8, c8, rfl, hi, hb⟩
      have hbS := HX.out.trans (hb.mono HX.out.size)
      refine hK.out _ _ hbS (fun hHeld2 => ?_)
      clear hK K hHeld hHeld2
      have HN5 := Lib.hid (HN5.out.below hbS)
      have HN7 := Lib.hid (hi)
      have HB := Lib.hid (HB.out.trans (hbS.mono HB.out.size))
      have HQ := Lib.hid HB.out
      refine heldStrong (S' := fun W => Below v124.heap.size v124 W) (fun W hW => hbS.trans (hW.mono hbS.size)) _ _ _ _ ?_
      have hHeld : Below v124.heap.size v124 v124 := Below.refl _ _
      have HX := Lib.hid (Below.refl v124.heap.size v124)
      clear hbS hb hi
      refine wpAnyH_ready (rs := [10]) (by kernel_rfl) (by simp) ?_
      refine AllReadyH.cons (o := { dst := Option.some 32, op := Op.call { callee := Callee.value (Operand.func 16), args := #[Operand.tmp 31], argTypes := #[30] }, type := 22, pos := "law.go:73", after := #[{ on := 9, ground := Ground.data }, { on := 9, ground := Ground.chain }, { on := 7, ground := Ground.guard }], guard := Option.some (7, true) }) rfl (fun K hK => ?_) AllReadyH.nil
      go_simp
      refine (CEM.out A7 c7 A8 c8 v124 (HS.out _ (HT.out.trans (HQ.out.mono HT.out.size))) HN7.out).mono ?_
      rintro y v125 ⟨A9, c9, rfl, hi, hb⟩
      have hbS := HX.out.trans (hb.mono HX.out.size)
      refine hK.out _ _ hbS (fun hHeld2 => ?_)
      clear hK K hHeld hHeld2
      have HN5 := Lib.hid (HN5.out.below hbS)
      have HN7 := Lib.hid (HN7.out.below hbS)
      have HE9 := Lib.hid (hi)
      have HB := Lib.hid (HB.out.trans (hbS.mono HB.out.size))
      have HQ := Lib.hid HB.out
      refine heldStrong (S' := fun W => Below v125.heap.size v125 W) (fun W hW => hbS.trans (hW.mono hbS.size)) _ _ _ _ ?_
      have hHeld : Below v125.heap.size v125 v125 := Below.refl _ _
      have HX := Lib.hid (Below.refl v125.heap.size v125)
      clear hbS hb hi
      refine wpAnyH_take (i := 11) (oi := { dst := Option.some 33, op := Op.convert 22 9 (Operand.tmp 32), type := 9, pos := "law.go:73", after := #[{ on := 10, ground := Ground.data }, { on := 7, ground := Ground.guard }], guard := Option.some (7, true) }) (v := .string X) rfl (by kernel_rfl) (by kernel_rfl) (by kernel_rfl) (fun _ _ _ h => h) (Or.inl ⟨by rfl, ?_⟩) hHeld ?_
      · intro W hSw
        have hv := conv_bytes (HE9.out.below hSw).sl_; rw [← HXx.out] at hv
        go_simp
      simp only [Act.put, List.setIfInBounds_toArray, List.set_cons_zero, List.set_cons_succ]
      refine wpAnyH_ready (rs := [13]) (by kernel_rfl) (by simp) ?_
      refine AllReadyH.cons (o := { dst := Option.some 35, op := Op.call { callee := Callee.value (Operand.func 17), args := #[Operand.tmp 34], argTypes := #[25] }, type := 22, pos := "law.go:73", after := #[{ on := 12, ground := Ground.data }, { on := 10, ground := Ground.chain }, { on := 7, ground := Ground.guard }], guard := Option.some (7, true) }) rfl (fun K hK => ?_) AllReadyH.nil
      go_simp
      refine (CX.out v125 (HT.out.trans (HQ.out.mono HT.out.size))).mono ?_
      rintro y v126 ⟨A10, c10, rfl, hi, hb⟩
      have hbS := HX.out.trans (hb.mono HX.out.size)
      refine hK.out _ _ hbS (fun hHeld2 => ?_)
      clear hK K hHeld hHeld2
      have HN5 := Lib.hid (HN5.out.below hbS)
      have HN7 := Lib.hid (HN7.out.below hbS)
      have HE9 := Lib.hid (HE9.out.below hbS)
      have HE10 := Lib.hid (hi)
      have HB := Lib.hid (HB.out.trans (hbS.mono HB.out.size))
      have HQ := Lib.hid HB.out
      refine heldStrong (S' := fun W => Below v126.heap.size v126 W) (fun W hW => hbS.trans (hW.mono hbS.size)) _ _ _ _ ?_
      have hHeld : Below v126.heap.size v126 v126 := Below.refl _ _
      have HX := Lib.hid (Below.refl v126.heap.size v126)
      clear hbS hb hi
      refine wpAnyH_take (i := 14) (oi := { dst := Option.some 36, op := Op.convert 22 9 (Operand.tmp 35), type := 9, pos := "law.go:73", after := #[{ on := 13, ground := Ground.data }, { on := 7, ground := Ground.guard }], guard := Option.some (7, true) }) (v := .string X) rfl (by kernel_rfl) (by kernel_rfl) (by kernel_rfl) (fun _ _ _ h => h) (Or.inl ⟨by rfl, ?_⟩) hHeld ?_
      · intro W hSw
        have hv := conv_bytes (HE10.out.below hSw).sl_; rw [← HXx.out] at hv
        go_simp
      simp only [Act.put, List.setIfInBounds_toArray, List.set_cons_zero, List.set_cons_succ]
      refine wpAnyH_take (i := 15) (oi := { dst := Option.some 37, op := Op.binOp BinOp.eql 9 (Operand.tmp 33) (Operand.tmp 36) 9, type := 4, pos := "law.go:73", after := #[{ on := 11, ground := Ground.data }, { on := 14, ground := Ground.data }, { on := 7, ground := Ground.guard }], guard := Option.some (7, true) }) (v := .bool true) rfl (by kernel_rfl) (by kernel_rfl) (by kernel_rfl) (fun _ _ _ h => h) (Or.inl ⟨by rfl, ?_⟩) hHeld ?_
      · intro W hSw
        go_simp
      simp only [Act.put, List.setIfInBounds_toArray, List.set_cons_zero, List.set_cons_succ]
      refine wpAnyH_take (i := 16) (oi := { dst := Option.some 38, op := Op.pick (Operand.tmp 29) (Operand.tmp 37) (Operand.const (Value.bool false)), type := 4, pos := "law.go:73", after := #[{ on := 7, ground := Ground.data }, { on := 15, ground := Ground.data }], guard := Option.none }) (v := .bool true) rfl (by kernel_rfl) (by kernel_rfl) (by kernel_rfl) (fun _ _ _ h => h) (Or.inl ⟨by rfl, ?_⟩) hHeld ?_
      · intro W hSw
        go_simp
      simp only [Act.put, List.setIfInBounds_toArray, List.set_cons_zero, List.set_cons_succ]
      refine wpAnyH_take (i := 17) (oi := { dst := Option.some 39, op := Op.move (Operand.tmp 38), type := 4, pos := "law.go:73", after := #[{ on := 16, ground := Ground.data }, { on := 13, ground := Ground.chain }], guard := Option.none }) (v := .bool true) rfl (by kernel_rfl) (by kernel_rfl) (by kernel_rfl) (fun _ _ _ h => h) (Or.inl ⟨by rfl, ?_⟩) hHeld ?_
      · intro W hSw
        go_simp
      simp only [Act.put, List.setIfInBounds_toArray, List.set_cons_zero, List.set_cons_succ]
      refine wpAnyH_take (i := 18) (oi := { dst := Option.some 40, op := Op.load 30 (Operand.tmp 5), type := 30, pos := "law.go:73", after := #[{ on := 17, ground := Ground.guard }], guard := Option.some (17, true) }) (v := .agg #[.int .i64 x.kind, .int .i64 x.frm, .int .i64 x.to, .int .i64 x.term, .int .i64 x.index, .int .i64 x.logTerm, .int .i64 x.commit, .int .i64 x.round, .bool x.ok, .int .i64 x.off, .slice Ad1 nx cd1, .slice Ae1 ex ce1]) rfl (by kernel_rfl) (by kernel_rfl) (by kernel_rfl) (fun _ _ _ h => h) (Or.inl ⟨by rfl, ?_⟩) hHeld ?_
      · intro W hSw
        obtain ⟨z0, z1, z2, z3, z4, z5, z6, z7, z8, z9, z10, z11⟩ := HC1.out _ (HB.out.trans (hSw.mono HB.out.size))
        go_simp
      simp only [Act.put, List.setIfInBounds_toArray, List.set_cons_zero, List.set_cons_succ]
      refine wpAnyH_take (i := 21) (oi := { dst := Option.some 43, op := Op.load 25 (Operand.tmp 7), type := 25, pos := "law.go:73", after := #[{ on := 17, ground := Ground.guard }], guard := Option.some (17, true) }) (v := .agg #[.int .i64 x.kind, .int .i64 x.frm, .int .i64 x.to, .int .i64 x.term, .int .i64 x.index, .int .i64 x.logTerm, .int .i64 x.commit, .int .i64 x.round, .bool x.ok, .int .i64 x.off, .slice Ad2 nx cd2, .slice Ae2 ex ce2]) rfl (by kernel_rfl) (by kernel_rfl) (by kernel_rfl) (fun _ _ _ h => h) (Or.inl ⟨by rfl, ?_⟩) hHeld ?_
      · intro W hSw
        obtain ⟨z0, z1, z2, z3, z4, z5, z6, z7, z8, z9, z10, z11⟩ := HC2.out _ (HB.out.trans (hSw.mono HB.out.size))
        go_simp
      simp only [Act.put, List.setIfInBounds_toArray, List.set_cons_zero, List.set_cons_succ]
      refine wpAnyH_ready (rs := [19]) (by kernel_rfl) (by simp) ?_
      refine AllReadyH.cons (o := { dst := Option.some 41, op := Op.call { callee := Callee.value (Operand.func 16), args := #[Operand.tmp 40], argTypes := #[30] }, type := 22, pos := "law.go:73", after := #[{ on := 18, ground := Ground.data }, { on := 17, ground := Ground.chain }, { on := 17, ground := Ground.guard }], guard := Option.some (17, true) }) rfl (fun K hK => ?_) AllReadyH.nil
      go_simp
      refine (CE1.out Ad1 cd1 Ae1 ce1 v126 (HS.out _ (HT.out.trans (HQ.out.mono HT.out.size))) (HI1.out _ HQ.out)).mono ?_
      rintro y v127 ⟨A11, c11, rfl, hi, hb⟩
      have hbS := HX.out.trans (hb.mono HX.out.size)
      refine hK.out _ _ hbS (fun hHeld2 => ?_)
      clear hK K hHeld hHeld2
      have HN5 := Lib.hid (HN5.out.below hbS)
      have HN7 := Lib.hid (HN7.out.below hbS)
      have HE9 := Lib.hid (HE9.out.below hbS)
      have HE10 := Lib.hid (HE10.out.below hbS)
      have HE11 := Lib.hid (hi)
      have HB := Lib.hid (HB.out.trans (hbS.mono HB.out.size))
      have HQ := Lib.hid HB.out
      refine heldStrong (S' := fun W => Below v127.heap.size v127 W) (fun W hW => hbS.trans (hW.mono hbS.size)) _ _ _ _ ?_
      have hHeld : Below v127.heap.size v127 v127 := Below.refl _ _
      have HX := Lib.hid (Below.refl v127.heap.size v127)
      clear hbS hb hi
      refine wpAnyH_take (i := 20) (oi := { dst := Option.some 42, op := Op.convert 22 9 (Operand.tmp 41), type := 9, pos := "law.go:73", after := #[{ on := 19, ground := Ground.data }, { on := 17, ground := Ground.guard }], guard := Option.some (17, true) }) (v := .string Y) rfl (by kernel_rfl) (by kernel_rfl) (by kernel_rfl) (fun _ _ _ h => h) (Or.inl ⟨by rfl, ?_⟩) hHeld ?_
      · intro W hSw
        have hv := conv_bytes (HE11.out.below hSw).sl_; rw [← HYx.out] at hv
        go_simp
      simp only [Act.put, List.setIfInBounds_toArray, List.set_cons_zero, List.set_cons_succ]
      refine wpAnyH_ready (rs := [22]) (by kernel_rfl) (by simp) ?_
      refine AllReadyH.cons (o := { dst := Option.some 44, op := Op.call { callee := Callee.value (Operand.func 17), args := #[Operand.tmp 43], argTypes := #[25] }, type := 22, pos := "law.go:73", after := #[{ on := 21, ground := Ground.data }, { on := 19, ground := Ground.chain }, { on := 17, ground := Ground.guard }], guard := Option.some (17, true) }) rfl (fun K hK => ?_) AllReadyH.nil
      go_simp
      refine (CX1.out Ad2 cd2 Ae2 ce2 v127 (HI2.out _ HQ.out)).mono ?_
      rintro y v128 ⟨A12, c12, rfl, hi, hb⟩
      have hbS := HX.out.trans (hb.mono HX.out.size)
      refine hK.out _ _ hbS (fun hHeld2 => ?_)
      clear hK K hHeld hHeld2
      have HN5 := Lib.hid (HN5.out.below hbS)
      have HN7 := Lib.hid (HN7.out.below hbS)
      have HE9 := Lib.hid (HE9.out.below hbS)
      have HE10 := Lib.hid (HE10.out.below hbS)
      have HE11 := Lib.hid (HE11.out.below hbS)
      have HE12 := Lib.hid (hi)
      have HB := Lib.hid (HB.out.trans (hbS.mono HB.out.size))
      have HQ := Lib.hid HB.out
      refine heldStrong (S' := fun W => Below v128.heap.size v128 W) (fun W hW => hbS.trans (hW.mono hbS.size)) _ _ _ _ ?_
      have hHeld : Below v128.heap.size v128 v128 := Below.refl _ _
      have HX := Lib.hid (Below.refl v128.heap.size v128)
      clear hbS hb hi
      refine wpAnyH_take (i := 23) (oi := { dst := Option.some 45, op := Op.convert 22 9 (Operand.tmp 44), type := 9, pos := "law.go:73", after := #[{ on := 22, ground := Ground.data }, { on := 17, ground := Ground.guard }], guard := Option.some (17, true) }) (v := .string Y) rfl (by kernel_rfl) (by kernel_rfl) (by kernel_rfl) (fun _ _ _ h => h) (Or.inl ⟨by rfl, ?_⟩) hHeld ?_
      · intro W hSw
        have hv := conv_bytes (HE12.out.below hSw).sl_; rw [← HYx.out] at hv
        go_simp
      simp only [Act.put, List.setIfInBounds_toArray, List.set_cons_zero, List.set_cons_succ]
      refine wpAnyH_take (i := 24) (oi := { dst := Option.some 46, op := Op.binOp BinOp.eql 9 (Operand.tmp 42) (Operand.tmp 45) 9, type := 4, pos := "law.go:73", after := #[{ on := 20, ground := Ground.data }, { on := 23, ground := Ground.data }, { on := 17, ground := Ground.guard }], guard := Option.some (17, true) }) (v := .bool true) rfl (by kernel_rfl) (by kernel_rfl) (by kernel_rfl) (fun _ _ _ h => h) (Or.inl ⟨by rfl, ?_⟩) hHeld ?_
      · intro W hSw
        go_simp
      simp only [Act.put, List.setIfInBounds_toArray, List.set_cons_zero, List.set_cons_succ]
      refine wpAnyH_take (i := 25) (oi := { dst := Option.some 47, op := Op.pick (Operand.tmp 39) (Operand.tmp 46) (Operand.const (Value.bool false)), type := 4, pos := "law.go:73", after := #[{ on := 17, ground := Ground.data }, { on := 24, ground := Ground.data }], guard := Option.none }) (v := .bool true) rfl (by kernel_rfl) (by kernel_rfl) (by kernel_rfl) (fun _ _ _ h => h) (Or.inl ⟨by rfl, ?_⟩) hHeld ?_
      · intro W hSw
        go_simp
      simp only [Act.put, List.setIfInBounds_toArray, List.set_cons_zero, List.set_cons_succ]
      refine wpAnyH_take (i := 26) (oi := { dst := Option.some 48, op := Op.move (Operand.tmp 47), type := 4, pos := "law.go:73", after := #[{ on := 25, ground := Ground.data }, { on := 22, ground := Ground.chain }], guard := Option.none }) (v := .bool true) rfl (by kernel_rfl) (by kernel_rfl) (by kernel_rfl) (fun _ _ _ h => h) (Or.inl ⟨by rfl, ?_⟩) hHeld ?_
      · intro W hSw
        go_simp
      simp only [Act.put, List.setIfInBounds_toArray, List.set_cons_zero, List.set_cons_succ]
      refine wpAnyH_take (i := 27) (oi := { dst := Option.some 49, op := Op.move (Operand.tmp 6), type := 32, pos := "law.go:73", after := #[{ on := 26, ground := Ground.guard }], guard := Option.some (26, true) }) (v := er k) rfl (by kernel_rfl) (by kernel_rfl) (by kernel_rfl) (fun _ _ _ h => h) (Or.inl ⟨by rfl, ?_⟩) hHeld ?_
      · intro W hSw
        go_simp
      simp only [Act.put, List.setIfInBounds_toArray, List.set_cons_zero, List.set_cons_succ]
      refine wpAnyH_take (i := 29) (oi := { dst := Option.some 51, op := Op.move (Operand.tmp 8), type := 3, pos := "law.go:73", after := #[{ on := 26, ground := Ground.guard }], guard := Option.some (26, true) }) (v := .int .i64 (k : Int)) rfl (by kernel_rfl) (by kernel_rfl) (by kernel_rfl) (fun _ _ _ h => h) (Or.inl ⟨by rfl, ?_⟩) hHeld ?_
      · intro W hSw
        go_simp
      simp only [Act.put, List.setIfInBounds_toArray, List.set_cons_zero, List.set_cons_succ]
      refine wpAnyH_ready (rs := [28]) (by kernel_rfl) (by simp) ?_
      refine AllReadyH.cons (o := { dst := Option.some 50, op := Op.call { callee := Callee.value (Operand.func 18), args := #[Operand.tmp 49], argTypes := #[32] }, type := 3, pos := "law.go:73", after := #[{ on := 27, ground := Ground.data }, { on := 26, ground := Ground.chain }, { on := 26, ground := Ground.guard }], guard := Option.some (26, true) }) rfl (fun K hK => ?_) AllReadyH.nil
      go_simp
      refine (CN.out v128 (HS.out _ (HT.out.trans (HQ.out.mono HT.out.size))).std_).mono ?_
      rintro y v129 ⟨rfl, hb⟩
      have hbS := HX.out.trans (hb.mono HX.out.size)
      refine hK.out _ _ hbS (fun hHeld2 => ?_)
      clear hK K hHeld hHeld2
      have HN5 := Lib.hid (HN5.out.below hbS)
      have HN7 := Lib.hid (HN7.out.below hbS)
      have HE9 := Lib.hid (HE9.out.below hbS)
      have HE10 := Lib.hid (HE10.out.below hbS)
      have HE11 := Lib.hid (HE11.out.below hbS)
      have HE12 := Lib.hid (HE12.out.below hbS)
      have HB := Lib.hid (HB.out.trans (hbS.mono HB.out.size))
      have HQ := Lib.hid HB.out
      refine heldStrong (S' := fun W => Below v129.heap.size v129 W) (fun W hW => hbS.trans (hW.mono hbS.size)) _ _ _ _ ?_
      have hHeld : Below v129.heap.size v129 v129 := Below.refl _ _
      have HX := Lib.hid (Below.refl v129.heap.size v129)
      clear hbS hb
      refine wpAnyH_take (i := 30) (oi := { dst := Option.some 52, op := Op.binOp BinOp.eql 3 (Operand.tmp 50) (Operand.tmp 51) 3, type := 4, pos := "law.go:73", after := #[{ on := 28, ground := Ground.data }, { on := 29, ground := Ground.data }, { on := 26, ground := Ground.guard }], guard := Option.some (26, true) }) (v := .bool true) rfl (by kernel_rfl) (by kernel_rfl) (by kernel_rfl) (fun _ _ _ h => h) (Or.inl ⟨by rfl, ?_⟩) hHeld ?_
      · intro W hSw
        go_simp
      simp only [Act.put, List.setIfInBounds_toArray, List.set_cons_zero, List.set_cons_succ]
      refine wpAnyH_take (i := 31) (oi := { dst := Option.some 53, op := Op.pick (Operand.tmp 48) (Operand.tmp 52) (Operand.const (Value.bool false)), type := 4, pos := "law.go:73", after := #[{ on := 26, ground := Ground.data }, { on := 30, ground := Ground.data }], guard := Option.none }) (v := .bool true) rfl (by kernel_rfl) (by kernel_rfl) (by kernel_rfl) (fun _ _ _ h => h) (Or.inl ⟨by rfl, ?_⟩) hHeld ?_
      · intro W hSw
        go_simp
      simp only [Act.put, List.setIfInBounds_toArray, List.set_cons_zero, List.set_cons_succ]
      refine wpAnyH_take (i := 32) (oi := { dst := Option.some 54, op := Op.move (Operand.tmp 53), type := 4, pos := "law.go:73", after := #[{ on := 31, ground := Ground.data }, { on := 28, ground := Ground.chain }], guard := Option.none }) (v := .bool true) rfl (by kernel_rfl) (by kernel_rfl) (by kernel_rfl) (fun _ _ _ h => h) (Or.inl ⟨by rfl, ?_⟩) hHeld ?_
      · intro W hSw
        go_simp
      simp only [Act.put, List.setIfInBounds_toArray, List.set_cons_zero, List.set_cons_succ]
      refine wpAnyH_ready (rs := [33]) (by kernel_rfl) (by simp) ?_
      refine AllReadyH.cons (o := { dst := Option.some 55, op := Op.call { callee := Callee.value (Operand.func 10), args := #[], argTypes := #[] }, type := 4, pos := "law.go:73", after := #[{ on := 32, ground := Ground.chain }, { on := 32, ground := Ground.guard }], guard := Option.some (32, true) }) rfl (fun K hK => ?_) AllReadyH.nil
      go_simp
      refine (sureM C v129 (HS.out _ (HT.out.trans (HQ.out.mono HT.out.size)))).mono ?_
      rintro y v130 ⟨rfl, hb⟩
      have hbS := HX.out.trans (hb.mono HX.out.size)
      refine hK.out _ _ hbS (fun hHeld2 => ?_)
      clear hK K hHeld hHeld2
      have HN5 := Lib.hid (HN5.out.below hbS)
      have HN7 := Lib.hid (HN7.out.below hbS)
      have HE9 := Lib.hid (HE9.out.below hbS)
      have HE10 := Lib.hid (HE10.out.below hbS)
      have HE11 := Lib.hid (HE11.out.below hbS)
      have HE12 := Lib.hid (HE12.out.below hbS)
      have HB := Lib.hid (HB.out.trans (hbS.mono HB.out.size))
      have HQ := Lib.hid HB.out
      refine heldStrong (S' := fun W => Below v130.heap.size v130 W) (fun W hW => hbS.trans (hW.mono hbS.size)) _ _ _ _ ?_
      have hHeld : Below v130.heap.size v130 v130 := Below.refl _ _
      have HX := Lib.hid (Below.refl v130.heap.size v130)
      clear hbS hb
      refine wpAnyH_take (i := 34) (oi := { dst := Option.some 56, op := Op.pick (Operand.tmp 54) (Operand.tmp 55) (Operand.const (Value.bool false)), type := 4, pos := "law.go:73", after := #[{ on := 32, ground := Ground.data }, { on := 33, ground := Ground.data }], guard := Option.none }) (v := .bool true) rfl (by kernel_rfl) (by kernel_rfl) (by kernel_rfl) (fun _ _ _ h => h) (Or.inl ⟨by rfl, ?_⟩) hHeld ?_
      · intro W hSw
        go_simp
      simp only [Act.put, List.setIfInBounds_toArray, List.set_cons_zero, List.set_cons_succ]
      refine wpAnyH_take (i := 35) (oi := { dst := Option.some 4, op := Op.assign (Operand.tmp 56), type := 4, pos := "law.go:73", after := #[{ on := 34, ground := Ground.data }, { on := 33, ground := Ground.chain }, { on := 0, ground := Ground.phase }, { on := 1, ground := Ground.phase }, { on := 2, ground := Ground.phase }, { on := 3, ground := Ground.phase }, { on := 4, ground := Ground.phase }, { on := 5, ground := Ground.phase }, { on := 6, ground := Ground.phase }, { on := 7, ground := Ground.phase }, { on := 8, ground := Ground.phase }, { on := 9, ground := Ground.phase }, { on := 10, ground := Ground.phase }, { on := 11, ground := Ground.phase }, { on := 12, ground := Ground.phase }, { on := 13, ground := Ground.phase }, { on := 14, ground := Ground.phase }, { on := 15, ground := Ground.phase }, { on := 16, ground := Ground.phase }, { on := 17, ground := Ground.phase }, { on := 18, ground := Ground.phase }, { on := 19, ground := Ground.phase }, { on := 20, ground := Ground.phase }, { on := 21, ground := Ground.phase }, { on := 22, ground := Ground.phase }, { on := 23, ground := Ground.phase }, { on := 24, ground := Ground.phase }, { on := 25, ground := Ground.phase }, { on := 26, ground := Ground.phase }, { on := 27, ground := Ground.phase }, { on := 28, ground := Ground.phase }, { on := 29, ground := Ground.phase }, { on := 30, ground := Ground.phase }, { on := 31, ground := Ground.phase }, { on := 32, ground := Ground.phase }, { on := 33, ground := Ground.phase }, { on := 34, ground := Ground.phase }], guard := Option.none }) (v := .bool true) rfl (by kernel_rfl) (by kernel_rfl) (by kernel_rfl) (fun _ _ _ h => h) (Or.inl ⟨by rfl, ?_⟩) hHeld ?_
      · intro W hSw
        go_simp
      simp only [Act.put, List.setIfInBounds_toArray, List.set_cons_zero, List.set_cons_succ]
      clear hHeld
      refine wpAnyH_done (by kernel_rfl) ?_ _
      go_wp2_with fail
      go_ret
      exact ⟨rfl, HE.out.1.trans ((HT.out.trans (HQ.out.mono HT.out.size)).mono HE.out.1.size)⟩

end Go.Proofs.YtfblgkcipnkhaaaGreatDoor.pk
