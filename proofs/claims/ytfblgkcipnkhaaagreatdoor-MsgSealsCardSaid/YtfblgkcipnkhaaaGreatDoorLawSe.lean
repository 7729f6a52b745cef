/-
  The law MsgSeals: walked.
-/
import Derived.Test.YtfblgkcipnkhaaaGreatDoorJk
import Derived.Test.YtfblgkcipnkhaaaGreatDoorJl
namespace Go.Proofs.YtfblgkcipnkhaaaGreatDoor.pk
open Go Go.RowKit
set_option maxRecDepth 100000

set_option maxHeartbeats 16000000 in
theorem seals_true (C : ConM) (m : Ms) (Ad : Option Addr) (nd cd : Nat) (Ae : Option Addr) (ne ce : Nat) (w : World) (hs : StdP w) (h : InM m Ad nd cd Ae ne ce w) (hd : ∀ e ∈ m.ents, e.data.length ≤ 140737488355328) :
    Calls Tryz.prog 8 #[.agg #[.int .i64 m.kind, .int .i64 m.frm, .int .i64 m.to, .int .i64 m.term, .int .i64 m.index, .int .i64 m.logTerm, .int .i64 m.commit, .int .i64 m.round, .bool m.ok, .int .i64 m.off, .slice Ad nd cd, .slice Ae ne ce]] w fun y w' => y = .returned (.bool true) ∧ Below w.heap.size w w' := by
  obtain ⟨W1, g, hW1, hg, hb1, hq, hsz⟩ := one_box w (.cells #[.int .i64 m.kind, .int .i64 m.frm, .int .i64 m.to, .int .i64 m.term, .int .i64 m.index, .int .i64 m.logTerm, .int .i64 m.commit, .int .i64 m.round, .bool m.ok, .int .i64 m.off, .slice Ad nd cd, .slice Ae ne ce] 25)
  have HW := Lib.hid (And.intro hW1 hg)
  have HE := Lib.hid (And.intro hb1 (obj_lt hq))
  have HS := Lib.hid fun W (hW : Below W1.heap.size W1 W) => (hs.more hb1).more hW
  have HC := Lib.hid fun W (hW : Below W1.heap.size W1 W) => cells12 ((hW.block g (obj_lt hq)).trans hq)
  have HI := Lib.hid fun W (hW : Below W1.heap.size W1 W) => (h.below hb1).below hW
  cases hl : longM m with
  | true =>
    have HL := Lib.hid fun W hW => longMsg_any m Ad nd cd Ae ne ce W (HI.out W hW) hd true hl.symm
    clear hW1 hg hb1 hq hsz h hd hs hl
    go_enter Tryz.func8, Tryz.ntmps8
    go_upto_region 1 with fail
    rw [← HW.out.1, ← HW.out.2]
    obtain ⟨z0, z1, z2, z3, z4, z5, z6, z7, z8, z9, z10, z11⟩ := HC.out W1 (Below.refl _ _)
    go_wp2_with (first
      | (go_at_call 9; go_must (refine (HL.out W1 (Below.refl _ _)).mono ?_; rintro y w1 ⟨rfl, hb⟩; have H1 := Lib.hid hb; clear hb))
      | (go_at_call 10; go_must (refine (sureM C w1 (HS.out w1 H1.out)).mono ?_; rintro y w2 ⟨rfl, hb⟩; have H2 := Lib.hid (H1.out.trans (hb.mono H1.out.size)); clear hb)))
    go_ret
    exact ⟨rfl, HE.out.1.trans (H2.out.mono HE.out.1.size)⟩
  | false =>
    have HL := Lib.hid fun W hW => longMsg_any m Ad nd cd Ae ne ce W (HI.out W hW) hd false hl.symm
    obtain ⟨s1, s2⟩ := longM_small hl
    have hnd := h.data.len_
    have hnd2 : nd ≤ 10000 := by omega
    have s3 : SmallE 1000000 100000000 m.ents := ⟨by have := s2.1; omega, fun e he => by have := s2.2 e he; omega⟩
    have HG := Lib.hid fun W hW => giveMsg_any m Ad nd cd Ae ne ce W (HI.out W hW) (by omega) s3
    obtain ⟨k, hk⟩ : ∃ k, k = (encM m).length := ⟨_, rfl⟩
    have CEN := Lib.hid fun W hW => RefEncM_any m Ad nd cd Ae ne ce W (HI.out W hW) hnd2 s2 k hk
    have CSE := Lib.hid fun A c W (hB : Bys W (.slice A k c) (encM m)) => RefSeal_any 109 A k c (encM m) W W.heap.size (Nat.le_refl _) hB.sl_
    have e109 : (((109 : UInt8).toNat : Nat) : Int) = 109 := rfl
    simp only [e109] at CSE
    obtain ⟨n, hn⟩ : ∃ n, n = (sealM m).length := ⟨_, rfl⟩
    have CS := Lib.hid fun A1 c1 A2 c2 W hS' hI => C.mSeal m A1 nd c1 A2 ne c2 W hS' hI hnd2 s2 n hn
    have HN := Lib.hid hn
    clear hW1 hg hb1 hq hsz h hd hs hl s1 s2 s3 hnd hnd2 hk hn e109
    go_enter Tryz.func8, Tryz.ntmps8
    go_upto_region 1 with fail
    rw [← HW.out.1, ← HW.out.2]
    obtain ⟨z0, z1, z2, z3, z4, z5, z6, z7, z8, z9, z10, z11⟩ := HC.out W1 (Below.refl _ _)
    go_upto_region 4 with (first
      | (go_at_call 9; go_must (refine (HL.out W1 (Below.refl _ _)).mono ?_; rintro y w1 ⟨rfl, hb⟩; obtain ⟨z0, z1, z2, z3, z4, z5, z6, z7, z8, z9, z10, z11⟩ := HC.out w1 hb; have H1 := Lib.hid hb; clear hb))
      | (go_at_call 17; go_must (refine (CEN.out w1 H1.out).mono ?_; rintro y w2 ⟨A2, c2, rfl, hi, hb⟩; have H2 := Lib.hid (And.intro (H1.out.trans (hb.mono H1.out.size)) hi); clear hb hi))
      | (go_at_call 19; go_must (refine (CSE.out A2 c2 w2 H2.out.2).mono ?_; rintro y w3 ⟨v, rfl, hi, hb⟩; obtain ⟨A3, c3, hv, -⟩ := id hi; subst hv; have H3 := Lib.hid (And.intro (H2.out.1.trans (hb.mono H2.out.1.size)) (show Bys w3 (.slice A3 (sealB 109 (encM m)).length c3) (sealM m) from Bys.of_sl hi)); clear hb hi)))
    clear z0 z1 z2 z3 z4 z5 z6 z7 z8 z9 z10 z11
    have hsl : (sealB 109 (encM m)).length = n := HN.out.symm
    rw [hsl]
    rw [hsl] at H3
    clear hsl
    obtain ⟨X, hX⟩ : ∃ X : ByteArray, X = ⟨(sealM m).toArray⟩ := ⟨_, rfl⟩
    have HX := Lib.hid hX
    clear hX
    have hd0 : Below w3.heap.size w3 w3.drew := (Below.refl _ _).drew
    refine wp_region_held_drew (S := fun W => Below w3.heap.size w3 W) (by kernel_rfl) hd0 (fun hHeld => ?_)
    refine wpAnyH_take (i := 0) (oi := { dst := Option.some 14, op := Op.load 25 (Operand.tmp 1), type := 25, pos := "law.go:131", after := #[], guard := Option.none }) (v := .agg #[.int .i64 m.kind, .int .i64 m.frm, .int .i64 m.to, .int .i64 m.term, .int .i64 m.index, .int .i64 m.logTerm, .int .i64 m.commit, .int .i64 m.round, .bool m.ok, .int .i64 m.off, .slice Ad nd cd, .slice Ae ne ce]) rfl (by kernel_rfl) (by kernel_rfl) (by kernel_rfl) (fun _ _ _ h => h) (Or.inl ⟨by rfl, ?_⟩) hHeld ?_
    · intro W hSw
      obtain ⟨z0, z1, z2, z3, z4, z5, z6, z7, z8, z9, z10, z11⟩ := HC.out _ (H3.out.1.trans (hSw.mono H3.out.1.size))
      go_simp
    simp only [Act.put, List.setIfInBounds_toArray, List.set_cons_zero, List.set_cons_succ]
    refine wpAnyH_take (i := 4) (oi := { dst := Option.some 18, op := Op.move (Operand.tmp 3), type := 22, pos := "law.go:131", after := #[], guard := Option.none }) (v := .slice A3 n c3) rfl (by kernel_rfl) (by kernel_rfl) (by kernel_rfl) (fun _ _ _ h => h) (Or.inl ⟨by rfl, ?_⟩) hHeld ?_
    · intro W hSw
      go_simp
    simp only [Act.put, List.setIfInBounds_toArray, List.set_cons_zero, List.set_cons_succ]
    refine wpAnyH_take (i := 5) (oi := { dst := Option.some 19, op := Op.convert 22 9 (Operand.tmp 18), type := 9, pos := "law.go:131", after := #[{ on := 4, ground := Ground.data }], guard := Option.none }) (v := .string X) rfl (by kernel_rfl) (by kernel_rfl) (by kernel_rfl) (fun _ _ _ h => h) (Or.inl ⟨by rfl, ?_⟩) hHeld ?_
    · intro W hSw
      have hv := conv_bytes (H3.out.2.below hSw).sl_; rw [← HX.out] at hv
      go_simp
    simp only [Act.put, List.setIfInBounds_toArray, List.set_cons_zero, List.set_cons_succ]
    refine wpAnyH_ready (rs := [1]) (by kernel_rfl) (by simp) ?_
    refine AllReadyH.cons (o := { dst := Option.some 15, op := Op.call { callee := Callee.value (Operand.func 14), args := #[Operand.tmp 14], argTypes := #[25] }, type := 30, pos := "law.go:131", after := #[{ on := 0, ground := Ground.data }], guard := Option.none }) rfl (fun K hK => ?_) AllReadyH.nil
    go_simp
    refine (HG.out w3.drew (H3.out.1.trans (hd0.mono H3.out.1.size))).mono ?_
    rintro y w4 ⟨A4, c4, A5, c5, rfl, hi, hb⟩
    have hb' : Below w3.heap.size w3 w4 := hd0.trans hb
    have H4 := Lib.hid (And.intro hb' hi)
    refine hK.out _ _ hb' (fun hHeld2 => ?_)
    clear hK K hHeld hi hb hb'
    have hHeld := hHeld2
    clear hHeld2
    refine wpAnyH_ready (rs := [2]) (by kernel_rfl) (by simp) ?_
    refine AllReadyH.cons (o := { dst := Option.some 16, op := Op.call { callee := Callee.value (Operand.func 22), args := #[Operand.tmp 15], argTypes := #[30] }, type := 22, pos := "law.go:131", after := #[{ on := 1, ground := Ground.data }, { on := 1, ground := Ground.chain }], guard := Option.none }) rfl (fun K hK => ?_) AllReadyH.nil
    go_simp
    refine (CS.out A4 c4 A5 c5 w4 (HS.out _ (H3.out.1.trans (H4.out.1.mono H3.out.1.size))) H4.out.2).mono ?_
    rintro y w5 ⟨A6, c6, rfl, hi, hb⟩
    have hb' : Below w3.heap.size w3 w5 := H4.out.1.trans (hb.mono H4.out.1.size)
    refine hK.out _ _ hb' (fun hHeld2 => ?_)
    clear hK K hHeld hHeld2
    have H5 := Lib.hid (And.intro hb' hi)
    refine heldStrong (S' := fun W => Below w5.heap.size w5 W) (fun W hW => H5.out.1.trans (hW.mono H5.out.1.size)) _ _ _ _ ?_
    have hHeld : Below w5.heap.size w5 w5 := Below.refl _ _
    clear hi hb hb' hd0
    refine wpAnyH_take (i := 3) (oi := { dst := Option.some 17, op := Op.convert 22 9 (Operand.tmp 16), type := 9, pos := "law.go:131", after := #[{ on := 2, ground := Ground.data }], guard := Option.none }) (v := .string X) rfl (by kernel_rfl) (by kernel_rfl) (by kernel_rfl) (fun _ _ _ h => h) (Or.inl ⟨by rfl, ?_⟩) hHeld ?_
    · intro W hSw
      have hv := conv_bytes (H5.out.2.below hSw).sl_; rw [← HX.out] at hv
      go_simp
    simp only [Act.put, List.setIfInBounds_toArray, List.set_cons_zero, List.set_cons_succ]
    refine wpAnyH_take (i := 6) (oi := { dst := Option.some 20, op := Op.binOp BinOp.eql 9 (Operand.tmp 17) (Operand.tmp 19) 9, type := 4, pos := "law.go:131", after := #[{ on := 3, ground := Ground.data }, { on := 5, ground := Ground.data }], guard := Option.none }) (v := .bool true) rfl (by kernel_rfl) (by kernel_rfl) (by kernel_rfl) (fun _ _ _ h => h) (Or.inl ⟨by rfl, ?_⟩) hHeld ?_
    · intro W hSw
      go_simp
    simp only [Act.put, List.setIfInBounds_toArray, List.set_cons_zero, List.set_cons_succ]
    refine wpAnyH_take (i := 7) (oi := { dst := Option.some 21, op := Op.move (Operand.tmp 20), type := 4, pos := "law.go:131", after := #[{ on := 6, ground := Ground.data }, { on := 2, ground := Ground.chain }], guard := Option.none }) (v := .bool true) rfl (by kernel_rfl) (by kernel_rfl) (by kernel_rfl) (fun _ _ _ h => h) (Or.inl ⟨by rfl, ?_⟩) hHeld ?_
    · intro W hSw
      go_simp
    simp only [Act.put, List.setIfInBounds_toArray, List.set_cons_zero, List.set_cons_succ]
    refine wpAnyH_ready (rs := [8]) (by kernel_rfl) (by simp) ?_
    refine AllReadyH.cons (o := { dst := Option.some 22, op := Op.call { callee := Callee.value (Operand.func 10), args := #[], argTypes := #[] }, type := 4, pos := "law.go:131", after := #[{ on := 7, ground := Ground.chain }, { on := 7, ground := Ground.guard }], guard := Option.some (7, true) }) rfl (fun K hK => ?_) AllReadyH.nil
    go_simp
    refine (sureM C w5 (HS.out _ (H3.out.1.trans (H5.out.1.mono H3.out.1.size)))).mono ?_
    rintro y w6 ⟨rfl, hb⟩
    refine hK.out _ _ hb (fun hHeld2 => ?_)
    clear hK K hHeld
    have hHeld := hHeld2
    clear hHeld2
    have H6 := Lib.hid (H5.out.1.trans (hb.mono H5.out.1.size))
    clear hb
    refine wpAnyH_take (i := 9) (oi := { dst := Option.some 23, op := Op.pick (Operand.tmp 21) (Operand.tmp 22) (Operand.const (Value.bool false)), type := 4, pos := "law.go:131", after := #[{ on := 7, ground := Ground.data }, { on := 8, ground := Ground.data }], guard := Option.none }) (v := .bool true) rfl (by kernel_rfl) (by kernel_rfl) (by kernel_rfl) (fun _ _ _ h => h) (Or.inl ⟨by rfl, ?_⟩) hHeld ?_
    · intro W hSw
      go_simp
    simp only [Act.put, List.setIfInBounds_toArray, List.set_cons_zero, List.set_cons_succ]
    refine wpAnyH_take (i := 10) (oi := { dst := Option.some 2, op := Op.assign (Operand.tmp 23), type := 4, pos := "law.go:131", after := #[{ on := 9, ground := Ground.data }, { on := 8, ground := Ground.chain }, { on := 0, ground := Ground.phase }, { on := 1, ground := Ground.phase }, { on := 2, ground := Ground.phase }, { on := 3, ground := Ground.phase }, { on := 4, ground := Ground.phase }, { on := 5, ground := Ground.phase }, { on := 6, ground := Ground.phase }, { on := 7, ground := Ground.phase }, { on := 8, ground := Ground.phase }, { on := 9, ground := Ground.phase }], guard := Option.none }) (v := .bool true) rfl (by kernel_rfl) (by kernel_rfl) (by kernel_rfl) (fun _ _ _ h => h) (Or.inl ⟨by rfl, ?_⟩) hHeld ?_
    · intro W hSw
      go_simp
    simp only [Act.put, List.setIfInBounds_toArray, List.set_cons_zero, List.set_cons_succ]
    clear hHeld
    refine wpAnyH_done (by kernel_rfl) ?_ _
    go_wp2_with fail
    go_ret
    exact ⟨rfl, (HE.out.1.trans (H3.out.1.mono HE.out.1.size)).trans (H6.out.mono (HE.out.1.trans (H3.out.1.mono HE.out.1.size)).size)⟩

end Go.Proofs.YtfblgkcipnkhaaaGreatDoor.pk
