/-
  Texts of the proof, joined: ConM, LawMay, LawSp, EncM.
-/
import Derived.Test.YtfblgkcipnkhaaaGreatDoorJh
import Derived.Test.YtfblgkcipnkhaaaGreatDoorPureO
import Derived.Test.YtfblgkcipnkhaaaGreatDoorStdP
import Derived.Test.YtfblgkcipnkhaaaGreatDoorJj

/-
  What the program's messages promise, as the laws' walks ask it; what must come whatever the input is.
-/
namespace Go.Proofs.YtfblgkcipnkhaaaGreatDoor.pk
open Go Go.RowKit
set_option maxRecDepth 100000

structure ConM : Prop where
  mCheck : ∀ (m : Ms) (Ad : Option Addr) (nd cd : Nat) (Ae : Option Addr) (ne ce : Nat) (w : World), StdP w → InM m Ad nd cd Ae ne ce w → nd ≤ 10000 → SmallE 200 25663 m.ents → ∀ k, k = (if mayM m = true then 0 else 1) →
    Calls Tryz.prog 13 #[.agg #[.int .i64 m.kind, .int .i64 m.frm, .int .i64 m.to, .int .i64 m.term, .int .i64 m.index, .int .i64 m.logTerm, .int .i64 m.commit, .int .i64 m.round, .bool m.ok, .int .i64 m.off, .slice Ad nd cd, .slice Ae ne ce]] w fun y w' => y = .returned (er k) ∧ Below w.heap.size w w'
  mEncode : ∀ (m : Ms) (Ad : Option Addr) (nd cd : Nat) (Ae : Option Addr) (ne ce : Nat) (w : World), StdP w → InM m Ad nd cd Ae ne ce w → nd ≤ 10000 → SmallE 200 25663 m.ents → ∀ n, n = (encM m).length →
    Calls Tryz.prog 16 #[.agg #[.int .i64 m.kind, .int .i64 m.frm, .int .i64 m.to, .int .i64 m.term, .int .i64 m.index, .int .i64 m.logTerm, .int .i64 m.commit, .int .i64 m.round, .bool m.ok, .int .i64 m.off, .slice Ad nd cd, .slice Ae ne ce]] w fun y w' => ∃ A1 c1, y = .returned (.slice A1 n c1) ∧ Bys w' (.slice A1 n c1) (encM m) ∧ Below w.heap.size w w'
  mSeal : ∀ (m : Ms) (Ad : Option Addr) (nd cd : Nat) (Ae : Option Addr) (ne ce : Nat) (w : World), StdP w → InM m Ad nd cd Ae ne ce w → nd ≤ 10000 → SmallE 200 25663 m.ents → ∀ n, n = (sealM m).length →
    Calls Tryz.prog 22 #[.agg #[.int .i64 m.kind, .int .i64 m.frm, .int .i64 m.to, .int .i64 m.term, .int .i64 m.index, .int .i64 m.logTerm, .int .i64 m.commit, .int .i64 m.round, .bool m.ok, .int .i64 m.off, .slice Ad nd cd, .slice Ae ne ce]] w fun y w' => ∃ A1 c1, y = .returned (.slice A1 n c1) ∧ Bys w' (.slice A1 n c1) (sealM m) ∧ Below w.heap.size w w'
  mDecode : ∀ (A : Option Addr) (n c : Nat) (b : List UInt8) (w : World), StdP w → Bys w (.slice A n c) b → n ≤ 140737488355328 → ∀ (m : Ms) (k : Nat), (m, k) = decM b → ∀ nd ne, nd = m.data.length → ne = m.ents.length →
    Calls Tryz.prog 11 #[.slice A n c] w fun y w' => ∃ Ad cd Ae ce, y = .returned (.tuple #[.agg #[.int .i64 m.kind, .int .i64 m.frm, .int .i64 m.to, .int .i64 m.term, .int .i64 m.index, .int .i64 m.logTerm, .int .i64 m.commit, .int .i64 m.round, .bool m.ok, .int .i64 m.off, .slice Ad nd cd, .slice Ae ne ce], er k]) ∧ InM m Ad nd cd Ae ne ce w' ∧ Below w.heap.size w w'
  mOpen : ∀ (A : Option Addr) (n c : Nat) (b : List UInt8) (w : World), StdP w → Bys w (.slice A n c) b → n ≤ 140737488355328 → ∀ (m : Ms) (k : Nat), (m, k) = openM b → ∀ nd ne, nd = m.data.length → ne = m.ents.length →
    Calls Tryz.prog 20 #[.slice A n c] w fun y w' => ∃ Ad cd Ae ce, y = .returned (.tuple #[.agg #[.int .i64 m.kind, .int .i64 m.frm, .int .i64 m.to, .int .i64 m.term, .int .i64 m.index, .int .i64 m.logTerm, .int .i64 m.commit, .int .i64 m.round, .bool m.ok, .int .i64 m.off, .slice Ad nd cd, .slice Ae ne ce], er k]) ∧ InM m Ad nd cd Ae ne ce w' ∧ Below w.heap.size w w'

/-- Is a message longer than is gone through here? -/
def longM (m : Ms) : Bool := decide (10000 < m.data.length) || longE m.ents
theorem longM_small {m : Ms} (h : longM m = false) : m.data.length ≤ 10000 ∧ SmallE 200 25663 m.ents := by
  unfold longM at h
  rw [Bool.or_eq_false_iff] at h
  have h1 := of_decide_eq_false h.1
  exact ⟨by omega, longE_small h.2⟩

set_option maxHeartbeats 2000000 in
theorem longMsg_any (m : Ms) (Ad : Option Addr) (nd cd : Nat) (Ae : Option Addr) (ne ce : Nat) (w : World) (h : InM m Ad nd cd Ae ne ce w) (hs : ∀ e ∈ m.ents, e.data.length ≤ 140737488355328) (b : Bool) (hb : b = longM m) :
    Calls Tryz.prog 9 #[.agg #[.int .i64 m.kind, .int .i64 m.frm, .int .i64 m.to, .int .i64 m.term, .int .i64 m.index, .int .i64 m.logTerm, .int .i64 m.commit, .int .i64 m.round, .bool m.ok, .int .i64 m.off, .slice Ad nd cd, .slice Ae ne ce]] w fun y w' => y = .returned (.bool b) ∧ Below w.heap.size w w' := by
  have hnd := h.data.len_
  have in1 : (nd : Int) ≤ 9223372036854775807 := by obtain ⟨A', c', hv, h1, h2⟩ := h.data.form; injection hv with _ e2 e3; omega
  obtain ⟨W1, g, hW1, hg, hb1, hq, hsz⟩ := one_box w (.cells #[.int .i64 m.kind, .int .i64 m.frm, .int .i64 m.to, .int .i64 m.term, .int .i64 m.index, .int .i64 m.logTerm, .int .i64 m.commit, .int .i64 m.round, .bool m.ok, .int .i64 m.off, .slice Ad nd cd, .slice Ae ne ce] 25)
  have HW := Lib.hid (And.intro hW1 hg)
  have HE := Lib.hid hb1
  obtain ⟨z0, z1, z2, z3, z4, z5, z6, z7, z8, z9, z10, z11⟩ := cells12 hq
  have HL := Lib.hid (long_any Ae ne ce m.ents W1 (h.ents.below hb1) hs _ rfl)
  unfold longM at hb
  by_cases h0 : 10000 < nd
  · have hbt : b = true := by rw [hb, decide_eq_true (by omega)]; rfl
    subst hbt
    have i1 : (10000 : Int) < (nd : Int) := by omega
    clear hW1 hg hb1 hq hsz h hs hb hnd h0
    go_enter Tryz.func9, Tryz.ntmps9
    go_upto_region 1 with fail
    rw [← HW.out.1, ← HW.out.2]
    go_wp2_with fail
    go_ret
    exact ⟨rfl, HE.out⟩
  · have hbt : b = longE m.ents := by rw [hb, decide_eq_false (by omega)]; rfl
    rw [← hbt] at HL
    have i1 : ¬ (10000 : Int) < (nd : Int) := by omega
    clear hW1 hg hb1 hq hsz h hs hb hnd h0 hbt
    go_enter Tryz.func9, Tryz.ntmps9
    go_upto_region 1 with fail
    rw [← HW.out.1, ← HW.out.2]
    go_wp2_with (go_at_call 23; go_must (refine HL.out.mono ?_; rintro y w1 ⟨rfl, rfl⟩))
    go_ret
    exact ⟨rfl, HE.out⟩

def m1 : Ms := ⟨1, 1, 2, 3, 0, 0, 0, 0, false, 0, [], []⟩
theorem m1_may : mayM m1 = true := by decide
theorem inM_m1 (w : World) : InM m1 none 0 0 none 0 0 w := ⟨Bys.nil_ _, Ents.nil_ _, by unfold m1 inI; decide⟩
theorem inM_zm (w : World) : InM zm none 0 0 none 0 0 w := ⟨Bys.nil_ _, Ents.nil_ _, by unfold zm inI; decide⟩
theorem zm_not : mayM zm = false := by decide
theorem StdP.std_ {w : World} (h : StdP w) : Std w := h.std

set_option maxHeartbeats 8000000 in
theorem sureM (C : ConM) (w : World) (hs : StdP w) : Calls Tryz.prog 10 #[] w fun y w' => y = .returned (.bool true) ∧ Below w.heap.size w w' := by
  obtain ⟨W1, g, hW1, hg, hb1, hq, hsz⟩ := one_box w (.cells #[.int .i64 1, .int .i64 1, .int .i64 2, .int .i64 3, .int .i64 0, .int .i64 0, .int .i64 0, .int .i64 0, .bool false, .int .i64 0, .slice none 0 0, .slice none 0 0] 30)
  have HW := Lib.hid (And.intro hW1 hg)
  have HE := Lib.hid (And.intro hb1 (And.intro hs hsz))
  obtain ⟨z0, z1, z2, z3, z4, z5, z6, z7, z8, z9, z10, z11⟩ := cells12 hq
  have hl1 : (sealM m1).length = (encM m1).length + 5 := sealM_len m1_may
  have hl2 : (encM m1).length ≤ 300 := encM_len (m := m1) (by decide) (by decide)
  obtain ⟨n, hn⟩ : ∃ n, n = (sealM m1).length := ⟨_, rfl⟩
  have CS := Lib.hid (C.mSeal m1 none 0 0 none 0 0 W1 (hs.more hb1) (inM_m1 _) (by decide) ⟨by decide, fun e he => by cases he⟩ n hn)
  have CO := Lib.hid fun A c W hS hB => C.mOpen A n c (sealM m1) W hS hB (by omega) m1 0 (openM_seal m1_may).symm 0 0 rfl rfl
  have CC := Lib.hid fun W hS => C.mCheck zm none 0 0 none 0 0 W hS (inM_zm _) (by decide) ⟨by decide, fun e he => by cases he⟩ 1 (by rw [zm_not]; rfl)
  have CN := Lib.hid fun W hS => num_some 1 W hS
  rw [er_ne (by decide)] at CC
  rw [er_zero] at CO
  clear hW1 hg hb1 hq hsz hl1 hl2 hn hs
  go_enter Tryz.func10, Tryz.ntmps10
  go_upto_region 2 with fail
  rw [← HW.out.1, ← HW.out.2]
  go_upto_region 3 with (first
    | (go_at_call 22; go_must (refine CS.out.mono ?_; rintro y w1 ⟨A1, c1, rfl, hi1, hb1⟩; have H1 := Lib.hid (And.intro hi1 hb1); clear hi1 hb1))
    | (go_at_call 20; go_must (refine (CO.out A1 c1 _ ((HE.out.2.1.more HE.out.1).more H1.out.2) H1.out.1).mono ?_; rintro y w2 ⟨Ad, cd, Ae, ce, rfl, -, hb2⟩; have H2 := Lib.hid hb2; clear hb2)))
  obtain ⟨W3, g3, hW3, hg3, hb3, hq3, -⟩ := one_box w2 (.cells #[.int .i64 1, .int .i64 1, .int .i64 2, .int .i64 3, .int .i64 0, .int .i64 0, .int .i64 0, .int .i64 0, .bool false, .int .i64 0, .slice Ad 0 cd, .slice Ae 0 ce] 30)
  try simp only [m1]
  rw [← hW3, ← hg3]
  obtain ⟨y0, y1, y2, y3, y4, y5, y6, y7, y8, y9, y10, y11⟩ := cells12 hq3
  have H3 := Lib.hid (And.intro hb3 (((HE.out.2.1.more HE.out.1).more H1.out.2).more H2.out))
  clear hW3 hg3 hb3 hq3 z0 z1 z2 z3 z4 z5 z6 z7 z8 z9 z10 z11
  go_wp2_with (first
    | (go_at_call 13; go_must (refine (CC.out W3 (H3.out.2.more H3.out.1)).mono ?_; rintro y w4 ⟨rfl, hb4⟩; have H4 := Lib.hid hb4; clear hb4))
    | (go_at_call 18; go_must (refine (CN.out w4 (((H3.out.2.more H3.out.1).more H4.out).std_)).mono ?_; rintro y w5 ⟨rfl, hb5⟩; have H5 := Lib.hid hb5; clear hb5)))
  go_ret
  have b1 := HE.out.1.trans (H1.out.2.mono HE.out.1.size)
  have b2 := b1.trans (H2.out.mono b1.size)
  have b3 := b2.trans (H3.out.1.mono b2.size)
  have b4 := b3.trans (H4.out.mono b3.size)
  exact ⟨rfl, b4.trans (H5.out.mono b4.size)⟩

end Go.Proofs.YtfblgkcipnkhaaaGreatDoor.pk

/-
  The law MsgMay: walked.
-/
namespace Go.Proofs.YtfblgkcipnkhaaaGreatDoor.pk
open Go Go.RowKit
set_option maxRecDepth 100000

set_option maxHeartbeats 16000000 in
theorem may_true (C : ConM) (m : Ms) (Ad : Option Addr) (nd cd : Nat) (Ae : Option Addr) (ne ce : Nat) (w : World) (hs : StdP w) (h : InM m Ad nd cd Ae ne ce w) (hd : ∀ e ∈ m.ents, e.data.length ≤ 140737488355328) :
    Calls Tryz.prog 6 #[.agg #[.int .i64 m.kind, .int .i64 m.frm, .int .i64 m.to, .int .i64 m.term, .int .i64 m.index, .int .i64 m.logTerm, .int .i64 m.commit, .int .i64 m.round, .bool m.ok, .int .i64 m.off, .slice Ad nd cd, .slice Ae ne ce]] w fun y w' => y = .returned (.bool true) ∧ Below w.heap.size w w' := by
  have hnd := h.data.len_
  obtain ⟨W1, g, hW1, hg, hb1, hq, hsz⟩ := one_box w (.cells #[.int .i64 m.kind, .int .i64 m.frm, .int .i64 m.to, .int .i64 m.term, .int .i64 m.index, .int .i64 m.logTerm, .int .i64 m.commit, .int .i64 m.round, .bool m.ok, .int .i64 m.off, .slice Ad nd cd, .slice Ae ne ce] 25)
  have HW := Lib.hid (And.intro hW1 hg)
  have HE := Lib.hid (And.intro hb1 hq)
  have HCL := Lib.hid fun W (hW : Below W1.heap.size W1 W) => cells12 ((hW.block g (obj_lt hq)).trans hq)
  have HS := Lib.hid (hs.more hb1)
  have hd0 : Below W1.heap.size W1 W1.drew := (Below.refl _ _).drew
  cases hlong : longM m with
  | true =>
    have HL := Lib.hid (longMsg_any m Ad nd cd Ae ne ce W1.drew ((h.below hb1).below hd0) hd true hlong.symm)
    clear h hd hlong hW1 hg hb1 hq hsz hnd hs
    go_enter Tryz.func6, Tryz.ntmps6
    go_upto_region 1 with fail
    rw [← HW.out.1, ← HW.out.2]
    refine wp_region_held_drew (S := fun W => Below W1.heap.size W1 W) (by kernel_rfl) hd0 (fun hHeld => ?_)
    refine wpAnyH_take (i := 0) (oi := { dst := Option.some 3, op := Op.load 25 (Operand.tmp 1), type := 25, pos := "law.go:115", after := #[], guard := Option.none }) (v := .agg #[.int .i64 m.kind, .int .i64 m.frm, .int .i64 m.to, .int .i64 m.term, .int .i64 m.index, .int .i64 m.logTerm, .int .i64 m.commit, .int .i64 m.round, .bool m.ok, .int .i64 m.off, .slice Ad nd cd, .slice Ae ne ce]) rfl (by kernel_rfl) (by kernel_rfl) (by kernel_rfl) (fun _ _ _ h => h) (Or.inl ⟨by rfl, ?_⟩) hHeld ?_
    · intro W hSw
      obtain ⟨z0, z1, z2, z3, z4, z5, z6, z7, z8, z9, z10, z11⟩ := HCL.out _ hSw
      go_simp
    simp only [Act.put, List.setIfInBounds_toArray, List.set_cons_zero, List.set_cons_succ]
    refine wpAnyH_ready (rs := [1]) (by kernel_rfl) (by simp) ?_
    refine AllReadyH.cons (o := { dst := Option.some 4, op := Op.call { callee := Callee.value (Operand.func 9), args := #[Operand.tmp 3], argTypes := #[25] }, type := 4, pos := "law.go:115", after := #[{ on := 0, ground := Ground.data }], guard := Option.none }) rfl (fun K hK => ?_) AllReadyH.nil
    go_simp
    refine (HL.out).mono ?_
    rintro y w1 ⟨rfl, hb⟩
    have hB1 : Below W1.heap.size W1 w1 := hd0.trans hb
    have HB1 := Lib.hid (show Below W1.heap.size W1 w1 from hd0.trans hb)
    refine hK.out _ _ hB1 (fun hHeld2 => ?_)
    clear hK K hHeld hB1
    have hHeld := hHeld2
    clear hHeld2
    clear hb
    refine wpAnyH_take (i := 2) (oi := { dst := Option.some 5, op := Op.move (Operand.tmp 4), type := 4, pos := "law.go:115", after := #[{ on := 1, ground := Ground.data }, { on := 1, ground := Ground.chain }], guard := Option.none }) (v := .bool true) rfl (by kernel_rfl) (by kernel_rfl) (by kernel_rfl) (fun _ _ _ h => h) (Or.inl ⟨by rfl, ?_⟩) hHeld ?_
    · intro W hSw
      go_simp
    simp only [Act.put, List.setIfInBounds_toArray, List.set_cons_zero, List.set_cons_succ]
    refine wpAnyH_ready (rs := [3]) (by kernel_rfl) (by simp) ?_
    refine AllReadyH.cons (o := { dst := Option.some 6, op := Op.call { callee := Callee.value (Operand.func 10), args := #[], argTypes := #[] }, type := 4, pos := "law.go:115", after := #[{ on := 2, ground := Ground.chain }, { on := 2, ground := Ground.guard }], guard := Option.some (2, true) }) rfl (fun K hK => ?_) AllReadyH.nil
    go_simp
    refine (sureM C w1 (HS.out.more HB1.out)).mono ?_
    rintro y w3 ⟨rfl, hb⟩
    have hB3 : Below W1.heap.size W1 w3 := HB1.out.trans (hb.mono HB1.out.size)
    have HB3 := Lib.hid (show Below W1.heap.size W1 w3 from HB1.out.trans (hb.mono HB1.out.size))
    refine hK.out _ _ hB3 (fun hHeld2 => ?_)
    clear hK K hHeld hB3
    have hHeld := hHeld2
    clear hHeld2
    clear hb
    refine wpAnyH_take (i := 4) (oi := { dst := Option.some 7, op := Op.pick (Operand.tmp 5) (Operand.tmp 6) (Operand.const (Value.bool false)), type := 4, pos := "law.go:115", after := #[{ on := 2, ground := Ground.data }, { on := 3, ground := Ground.data }], guard := Option.none }) (v := .bool true) rfl (by kernel_rfl) (by kernel_rfl) (by kernel_rfl) (fun _ _ _ h => h) (Or.inl ⟨by rfl, ?_⟩) hHeld ?_
    · intro W hSw
      go_simp
    simp only [Act.put, List.setIfInBounds_toArray, List.set_cons_zero, List.set_cons_succ]
    refine wpAnyH_take (i := 5) (oi := { dst := Option.some 8, op := Op.move (Operand.tmp 7), type := 4, pos := "law.go:115", after := #[{ on := 4, ground := Ground.data }, { on := 3, ground := Ground.chain }], guard := Option.none }) (v := .bool true) rfl (by kernel_rfl) (by kernel_rfl) (by kernel_rfl) (fun _ _ _ h => h) (Or.inl ⟨by rfl, ?_⟩) hHeld ?_
    · intro W hSw
      go_simp
    simp only [Act.put, List.setIfInBounds_toArray, List.set_cons_zero, List.set_cons_succ]
    refine wpAnyH_take (i := 6) (oi := { dst := Option.some 9, op := Op.load 25 (Operand.tmp 1), type := 25, pos := "law.go:115", after := #[{ on := 5, ground := Ground.guard }], guard := Option.some (5, false) }) (v := undef) rfl (by kernel_rfl) (by kernel_rfl) (by kernel_rfl) (fun _ _ _ h => h) (Or.inr ⟨by rfl, rfl⟩) hHeld ?_
    simp only [Act.put, List.setIfInBounds_toArray, List.set_cons_zero, List.set_cons_succ]
    refine wpAnyH_take (i := 7) (oi := { dst := Option.some 10, op := Op.call { callee := Callee.value (Operand.func 14), args := #[Operand.tmp 9], argTypes := #[25] }, type := 30, pos := "law.go:115", after := #[{ on := 6, ground := Ground.data }, { on := 5, ground := Ground.chain }, { on := 5, ground := Ground.guard }], guard := Option.some (5, false) }) (v := undef) rfl (by kernel_rfl) (by kernel_rfl) (by kernel_rfl) (fun _ _ _ h => h) (Or.inr ⟨by rfl, rfl⟩) hHeld ?_
    simp only [Act.put, List.setIfInBounds_toArray, List.set_cons_zero, List.set_cons_succ]
    refine wpAnyH_take (i := 8) (oi := { dst := Option.some 11, op := Op.call { callee := Callee.value (Operand.func 13), args := #[Operand.tmp 10], argTypes := #[30] }, type := 32, pos := "law.go:115", after := #[{ on := 7, ground := Ground.data }, { on := 7, ground := Ground.chain }, { on := 5, ground := Ground.guard }], guard := Option.some (5, false) }) (v := undef) rfl (by kernel_rfl) (by kernel_rfl) (by kernel_rfl) (fun _ _ _ h => h) (Or.inr ⟨by rfl, rfl⟩) hHeld ?_
    simp only [Act.put, List.setIfInBounds_toArray, List.set_cons_zero, List.set_cons_succ]
    refine wpAnyH_take (i := 9) (oi := { dst := Option.some 12, op := Op.binOp BinOp.eql 32 (Operand.tmp 11) (Operand.const Value.nilIface) 32, type := 4, pos := "law.go:115", after := #[{ on := 8, ground := Ground.data }, { on := 5, ground := Ground.guard }], guard := Option.some (5, false) }) (v := undef) rfl (by kernel_rfl) (by kernel_rfl) (by kernel_rfl) (fun _ _ _ h => h) (Or.inr ⟨by rfl, rfl⟩) hHeld ?_
    simp only [Act.put, List.setIfInBounds_toArray, List.set_cons_zero, List.set_cons_succ]
    refine wpAnyH_take (i := 10) (oi := { dst := Option.some 13, op := Op.load 25 (Operand.tmp 1), type := 25, pos := "law.go:115", after := #[{ on := 5, ground := Ground.guard }], guard := Option.some (5, false) }) (v := undef) rfl (by kernel_rfl) (by kernel_rfl) (by kernel_rfl) (fun _ _ _ h => h) (Or.inr ⟨by rfl, rfl⟩) hHeld ?_
    simp only [Act.put, List.setIfInBounds_toArray, List.set_cons_zero, List.set_cons_succ]
    refine wpAnyH_take (i := 11) (oi := { dst := Option.some 14, op := Op.call { callee := Callee.value (Operand.func 15), args := #[Operand.tmp 13], argTypes := #[25] }, type := 4, pos := "law.go:115", after := #[{ on := 10, ground := Ground.data }, { on := 8, ground := Ground.chain }, { on := 5, ground := Ground.guard }], guard := Option.some (5, false) }) (v := undef) rfl (by kernel_rfl) (by kernel_rfl) (by kernel_rfl) (fun _ _ _ h => h) (Or.inr ⟨by rfl, rfl⟩) hHeld ?_
    simp only [Act.put, List.setIfInBounds_toArray, List.set_cons_zero, List.set_cons_succ]
    refine wpAnyH_take (i := 12) (oi := { dst := Option.some 15, op := Op.binOp BinOp.eql 4 (Operand.tmp 12) (Operand.tmp 14) 4, type := 4, pos := "law.go:115", after := #[{ on := 9, ground := Ground.data }, { on := 11, ground := Ground.data }, { on := 5, ground := Ground.guard }], guard := Option.some (5, false) }) (v := undef) rfl (by kernel_rfl) (by kernel_rfl) (by kernel_rfl) (fun _ _ _ h => h) (Or.inr ⟨by rfl, rfl⟩) hHeld ?_
    simp only [Act.put, List.setIfInBounds_toArray, List.set_cons_zero, List.set_cons_succ]
    refine wpAnyH_take (i := 13) (oi := { dst := Option.some 16, op := Op.move (Operand.tmp 15), type := 4, pos := "law.go:115", after := #[{ on := 12, ground := Ground.data }, { on := 11, ground := Ground.chain }, { on := 5, ground := Ground.guard }], guard := Option.some (5, false) }) (v := undef) rfl (by kernel_rfl) (by kernel_rfl) (by kernel_rfl) (fun _ _ _ h => h) (Or.inr ⟨by rfl, rfl⟩) hHeld ?_
    simp only [Act.put, List.setIfInBounds_toArray, List.set_cons_zero, List.set_cons_succ]
    refine wpAnyH_take (i := 14) (oi := { dst := Option.some 17, op := Op.call { callee := Callee.value (Operand.func 10), args := #[], argTypes := #[] }, type := 4, pos := "law.go:115", after := #[{ on := 13, ground := Ground.chain }, { on := 13, ground := Ground.guard }], guard := Option.some (13, true) }) (v := undef) rfl (by kernel_rfl) (by kernel_rfl) (by kernel_rfl) (fun _ _ _ h => h) (Or.inr ⟨by rfl, rfl⟩) hHeld ?_
    simp only [Act.put, List.setIfInBounds_toArray, List.set_cons_zero, List.set_cons_succ]
    refine wpAnyH_take (i := 15) (oi := { dst := Option.some 18, op := Op.pick (Operand.tmp 16) (Operand.tmp 17) (Operand.const (Value.bool false)), type := 4, pos := "law.go:115", after := #[{ on := 13, ground := Ground.data }, { on := 14, ground := Ground.data }, { on := 5, ground := Ground.guard }], guard := Option.some (5, false) }) (v := undef) rfl (by kernel_rfl) (by kernel_rfl) (by kernel_rfl) (fun _ _ _ h => h) (Or.inr ⟨by rfl, rfl⟩) hHeld ?_
    simp only [Act.put, List.setIfInBounds_toArray, List.set_cons_zero, List.set_cons_succ]
    refine wpAnyH_take (i := 16) (oi := { dst := Option.some 19, op := Op.pick (Operand.tmp 8) (Operand.const (Value.bool true)) (Operand.tmp 18), type := 4, pos := "law.go:115", after := #[{ on := 5, ground := Ground.data }, { on := 15, ground := Ground.data }], guard := Option.none }) (v := .bool true) rfl (by kernel_rfl) (by kernel_rfl) (by kernel_rfl) (fun _ _ _ h => h) (Or.inl ⟨by rfl, ?_⟩) hHeld ?_
    · intro W hSw
      go_simp
    simp only [Act.put, List.setIfInBounds_toArray, List.set_cons_zero, List.set_cons_succ]
    refine wpAnyH_take (i := 17) (oi := { dst := Option.some 2, op := Op.assign (Operand.tmp 19), type := 4, pos := "law.go:115", after := #[{ on := 16, ground := Ground.data }, { on := 14, ground := Ground.chain }, { on := 0, ground := Ground.phase }, { on := 1, ground := Ground.phase }, { on := 2, ground := Ground.phase }, { on := 3, ground := Ground.phase }, { on := 4, ground := Ground.phase }, { on := 5, ground := Ground.phase }, { on := 6, ground := Ground.phase }, { on := 7, ground := Ground.phase }, { on := 8, ground := Ground.phase }, { on := 9, ground := Ground.phase }, { on := 10, ground := Ground.phase }, { on := 11, ground := Ground.phase }, { on := 12, ground := Ground.phase }, { on := 13, ground := Ground.phase }, { on := 14, ground := Ground.phase }, { on := 15, ground := Ground.phase }, { on := 16, ground := Ground.phase }], guard := Option.none }) (v := .bool true) rfl (by kernel_rfl) (by kernel_rfl) (by kernel_rfl) (fun _ _ _ h => h) (Or.inl ⟨by rfl, ?_⟩) hHeld ?_
    · intro W hSw
      go_simp
    simp only [Act.put, List.setIfInBounds_toArray, List.set_cons_zero, List.set_cons_succ]
    clear hHeld
    refine wpAnyH_done (by kernel_rfl) ?_ _
    go_wp2_with fail
    go_ret
    exact ⟨rfl, HE.out.1.trans (HB3.out.mono HE.out.1.size)⟩

  | false =>
    have HL := Lib.hid (longMsg_any m Ad nd cd Ae ne ce W1.drew ((h.below hb1).below hd0) hd false hlong.symm)
    obtain ⟨hs1, hs2⟩ := longM_small hlong
    have HN := Lib.hid (And.intro h (And.intro hs1 (And.intro hs2 hnd)))
    cases hm : mayM m with
    | true =>
      have CC := Lib.hid fun A1 c1 A2 c2 W hS hI => C.mCheck m A1 nd c1 A2 ne c2 W hS hI (by have := HN.out.2.1; have := HN.out.2.2.2; omega) HN.out.2.2.1 0 (by rw [hm]; rfl)
      rw [er_zero] at CC
      clear h hd hlong hW1 hg hb1 hq hsz hnd hs hs1 hs2
      go_enter Tryz.func6, Tryz.ntmps6
      go_upto_region 1 with fail
      rw [← HW.out.1, ← HW.out.2]
      refine wp_region_held_drew (S := fun W => Below W1.heap.size W1 W) (by kernel_rfl) hd0 (fun hHeld => ?_)
      refine wpAnyH_take (i := 0) (oi := { dst := Option.some 3, op := Op.load 25 (Operand.tmp 1), type := 25, pos := "law.go:115", after := #[], guard := Option.none }) (v := .agg #[.int .i64 m.kind, .int .i64 m.frm, .int .i64 m.to, .int .i64 m.term, .int .i64 m.index, .int .i64 m.logTerm, .int .i64 m.commit, .int .i64 m.round, .bool m.ok, .int .i64 m.off, .slice Ad nd cd, .slice Ae ne ce]) rfl (by kernel_rfl) (by kernel_rfl) (by kernel_rfl) (fun _ _ _ h => h) (Or.inl ⟨by rfl, ?_⟩) hHeld ?_
      · intro W hSw
        obtain ⟨z0, z1, z2, z3, z4, z5, z6, z7, z8, z9, z10, z11⟩ := HCL.out _ hSw
        go_simp
      simp only [Act.put, List.setIfInBounds_toArray, List.set_cons_zero, List.set_cons_succ]
      refine wpAnyH_ready (rs := [1]) (by kernel_rfl) (by simp) ?_
      refine AllReadyH.cons (o := { dst := Option.some 4, op := Op.call { callee := Callee.value (Operand.func 9), args := #[Operand.tmp 3], argTypes := #[25] }, type := 4, pos := "law.go:115", after := #[{ on := 0, ground := Ground.data }], guard := Option.none }) rfl (fun K hK => ?_) AllReadyH.nil
      go_simp
      refine (HL.out).mono ?_
      rintro y w1 ⟨rfl, hb⟩
      have hB1 : Below W1.heap.size W1 w1 := hd0.trans hb
      have HB1 := Lib.hid (show Below W1.heap.size W1 w1 from hd0.trans hb)
      refine hK.out _ _ hB1 (fun hHeld2 => ?_)
      clear hK K hHeld hB1
      have hHeld := hHeld2
      clear hHeld2
      clear hb
      refine wpAnyH_take (i := 2) (oi := { dst := Option.some 5, op := Op.move (Operand.tmp 4), type := 4, pos := "law.go:115", after := #[{ on := 1, ground := Ground.data }, { on := 1, ground := Ground.chain }], guard := Option.none }) (v := .bool false) rfl (by kernel_rfl) (by kernel_rfl) (by kernel_rfl) (fun _ _ _ h => h) (Or.inl ⟨by rfl, ?_⟩) hHeld ?_
      · intro W hSw
        go_simp
      simp only [Act.put, List.setIfInBounds_toArray, List.set_cons_zero, List.set_cons_succ]
      refine wpAnyH_take (i := 3) (oi := { dst := Option.some 6, op := Op.call { callee := Callee.value (Operand.func 10), args := #[], argTypes := #[] }, type := 4, pos := "law.go:115", after := #[{ on := 2, ground := Ground.chain }, { on := 2, ground := Ground.guard }], guard := Option.some (2, true) }) (v := undef) rfl (by kernel_rfl) (by kernel_rfl) (by kernel_rfl) (fun _ _ _ h => h) (Or.inr ⟨by rfl, rfl⟩) hHeld ?_
      simp only [Act.put, List.setIfInBounds_toArray, List.set_cons_zero, List.set_cons_succ]
      refine wpAnyH_take (i := 4) (oi := { dst := Option.some 7, op := Op.pick (Operand.tmp 5) (Operand.tmp 6) (Operand.const (Value.bool false)), type := 4, pos := "law.go:115", after := #[{ on := 2, ground := Ground.data }, { on := 3, ground := Ground.data }], guard := Option.none }) (v := .bool false) rfl (by kernel_rfl) (by kernel_rfl) (by kernel_rfl) (fun _ _ _ h => h) (Or.inl ⟨by rfl, ?_⟩) hHeld ?_
      · intro W hSw
        go_simp
      simp only [Act.put, List.setIfInBounds_toArray, List.set_cons_zero, List.set_cons_succ]
      refine wpAnyH_take (i := 5) (oi := { dst := Option.some 8, op := Op.move (Operand.tmp 7), type := 4, pos := "law.go:115", after := #[{ on := 4, ground := Ground.data }, { on := 3, ground := Ground.chain }], guard := Option.none }) (v := .bool false) rfl (by kernel_rfl) (by kernel_rfl) (by kernel_rfl) (fun _ _ _ h => h) (Or.inl ⟨by rfl, ?_⟩) hHeld ?_
      · intro W hSw
        go_simp
      simp only [Act.put, List.setIfInBounds_toArray, List.set_cons_zero, List.set_cons_succ]
      refine wpAnyH_take (i := 6) (oi := { dst := Option.some 9, op := Op.load 25 (Operand.tmp 1), type := 25, pos := "law.go:115", after := #[{ on := 5, ground := Ground.guard }], guard := Option.some (5, false) }) (v := .agg #[.int .i64 m.kind, .int .i64 m.frm, .int .i64 m.to, .int .i64 m.term, .int .i64 m.index, .int .i64 m.logTerm, .int .i64 m.commit, .int .i64 m.round, .bool m.ok, .int .i64 m.off, .slice Ad nd cd, .slice Ae ne ce]) rfl (by kernel_rfl) (by kernel_rfl) (by kernel_rfl) (fun _ _ _ h => h) (Or.inl ⟨by rfl, ?_⟩) hHeld ?_
      · intro W hSw
        obtain ⟨z0, z1, z2, z3, z4, z5, z6, z7, z8, z9, z10, z11⟩ := HCL.out _ hSw
        go_simp
      simp only [Act.put, List.setIfInBounds_toArray, List.set_cons_zero, List.set_cons_succ]
      refine wpAnyH_take (i := 10) (oi := { dst := Option.some 13, op := Op.load 25 (Operand.tmp 1), type := 25, pos := "law.go:115", after := #[{ on := 5, ground := Ground.guard }], guard := Option.some (5, false) }) (v := .agg #[.int .i64 m.kind, .int .i64 m.frm, .int .i64 m.to, .int .i64 m.term, .int .i64 m.index, .int .i64 m.logTerm, .int .i64 m.commit, .int .i64 m.round, .bool m.ok, .int .i64 m.off, .slice Ad nd cd, .slice Ae ne ce]) rfl (by kernel_rfl) (by kernel_rfl) (by kernel_rfl) (fun _ _ _ h => h) (Or.inl ⟨by rfl, ?_⟩) hHeld ?_
      · intro W hSw
        obtain ⟨z0, z1, z2, z3, z4, z5, z6, z7, z8, z9, z10, z11⟩ := HCL.out _ hSw
        go_simp
      simp only [Act.put, List.setIfInBounds_toArray, List.set_cons_zero, List.set_cons_succ]
      refine wpAnyH_ready (rs := [7]) (by kernel_rfl) (by simp) ?_
      refine AllReadyH.cons (o := { dst := Option.some 10, op := Op.call { callee := Callee.value (Operand.func 14), args := #[Operand.tmp 9], argTypes := #[25] }, type := 30, pos := "law.go:115", after := #[{ on := 6, ground := Ground.data }, { on := 5, ground := Ground.chain }, { on := 5, ground := Ground.guard }], guard := Option.some (5, false) }) rfl (fun K hK => ?_) AllReadyH.nil
      go_simp
      refine (giveMsg_any m Ad nd cd Ae ne ce w1 ((HN.out.1.below HE.out.1).below HB1.out) (by have := HN.out.2.1; have := HN.out.2.2.2; omega) ⟨by have := HN.out.2.2.1.1; omega, fun e he => by have := HN.out.2.2.1.2 e he; omega⟩).mono ?_
      rintro y w7 ⟨A1, c1, A2, c2, rfl, hin, hb⟩
      have hB7 : Below W1.heap.size W1 w7 := HB1.out.trans (hb.mono HB1.out.size)
      have HB7 := Lib.hid (And.intro (show Below W1.heap.size W1 w7 from HB1.out.trans (hb.mono HB1.out.size)) hin)
      refine hK.out _ _ hB7 (fun hHeld2 => ?_)
      clear hK K hHeld hB7
      have hHeld := hHeld2
      clear hHeld2
      clear hb hin
      refine wpAnyH_ready (rs := [8]) (by kernel_rfl) (by simp) ?_
      refine AllReadyH.cons (o := { dst := Option.some 11, op := Op.call { callee := Callee.value (Operand.func 13), args := #[Operand.tmp 10], argTypes := #[30] }, type := 32, pos := "law.go:115", after := #[{ on := 7, ground := Ground.data }, { on := 7, ground := Ground.chain }, { on := 5, ground := Ground.guard }], guard := Option.some (5, false) }) rfl (fun K hK => ?_) AllReadyH.nil
      go_simp
      refine (CC.out A1 c1 A2 c2 w7 (HS.out.more HB7.out.1) HB7.out.2).mono ?_
      rintro y w8 ⟨rfl, hb⟩
      have hB8 : Below W1.heap.size W1 w8 := HB7.out.1.trans (hb.mono HB7.out.1.size)
      have HB8 := Lib.hid (show Below W1.heap.size W1 w8 from HB7.out.1.trans (hb.mono HB7.out.1.size))
      refine hK.out _ _ hB8 (fun hHeld2 => ?_)
      clear hK K hHeld hB8
      have hHeld := hHeld2
      clear hHeld2
      clear hb
      refine wpAnyH_take (i := 9) (oi := { dst := Option.some 12, op := Op.binOp BinOp.eql 32 (Operand.tmp 11) (Operand.const Value.nilIface) 32, type := 4, pos := "law.go:115", after := #[{ on := 8, ground := Ground.data }, { on := 5, ground := Ground.guard }], guard := Option.some (5, false) }) (v := .bool true) rfl (by kernel_rfl) (by kernel_rfl) (by kernel_rfl) (fun _ _ _ h => h) (Or.inl ⟨by rfl, ?_⟩) hHeld ?_
      · intro W hSw
        go_simp
      simp only [Act.put, List.setIfInBounds_toArray, List.set_cons_zero, List.set_cons_succ]
      refine wpAnyH_ready (rs := [11]) (by kernel_rfl) (by simp) ?_
      refine AllReadyH.cons (o := { dst := Option.some 14, op := Op.call { callee := Callee.value (Operand.func 15), args := #[Operand.tmp 13], argTypes := #[25] }, type := 4, pos := "law.go:115", after := #[{ on := 10, ground := Ground.data }, { on := 8, ground := Ground.chain }, { on := 5, ground := Ground.guard }], guard := Option.some (5, false) }) rfl (fun K hK => ?_) AllReadyH.nil
      go_simp
      refine (May_m m Ad nd cd Ae ne ce w8 ((HN.out.1.below HE.out.1).below HB8.out) true hm.symm).mono ?_
      rintro y w11 ⟨rfl, hb⟩
      have hB11 : Below W1.heap.size W1 w11 := HB8.out.trans (hb.mono HB8.out.size)
      have HB11 := Lib.hid (show Below W1.heap.size W1 w11 from HB8.out.trans (hb.mono HB8.out.size))
      refine hK.out _ _ hB11 (fun hHeld2 => ?_)
      clear hK K hHeld hB11
      have hHeld := hHeld2
      clear hHeld2
      clear hb
      refine wpAnyH_take (i := 12) (oi := { dst := Option.some 15, op := Op.binOp BinOp.eql 4 (Operand.tmp 12) (Operand.tmp 14) 4, type := 4, pos := "law.go:115", after := #[{ on := 9, ground := Ground.data }, { on := 11, ground := Ground.data }, { on := 5, ground := Ground.guard }], guard := Option.some (5, false) }) (v := .bool true) rfl (by kernel_rfl) (by kernel_rfl) (by kernel_rfl) (fun _ _ _ h => h) (Or.inl ⟨by rfl, ?_⟩) hHeld ?_
      · intro W hSw
        go_simp
      simp only [Act.put, List.setIfInBounds_toArray, List.set_cons_zero, List.set_cons_succ]
      refine wpAnyH_take (i := 13) (oi := { dst := Option.some 16, op := Op.move (Operand.tmp 15), type := 4, pos := "law.go:115", after := #[{ on := 12, ground := Ground.data }, { on := 11, ground := Ground.chain }, { on := 5, ground := Ground.guard }], guard := Option.some (5, false) }) (v := .bool true) rfl (by kernel_rfl) (by kernel_rfl) (by kernel_rfl) (fun _ _ _ h => h) (Or.inl ⟨by rfl, ?_⟩) hHeld ?_
      · intro W hSw
        go_simp
      simp only [Act.put, List.setIfInBounds_toArray, List.set_cons_zero, List.set_cons_succ]
      refine wpAnyH_ready (rs := [14]) (by kernel_rfl) (by simp) ?_
      refine AllReadyH.cons (o := { dst := Option.some 17, op := Op.call { callee := Callee.value (Operand.func 10), args := #[], argTypes := #[] }, type := 4, pos := "law.go:115", after := #[{ on := 13, ground := Ground.chain }, { on := 13, ground := Ground.guard }], guard := Option.some (13, true) }) rfl (fun K hK => ?_) AllReadyH.nil
      go_simp
      refine (sureM C w11 (HS.out.more HB11.out)).mono ?_
      rintro y w14 ⟨rfl, hb⟩
      have hB14 : Below W1.heap.size W1 w14 := HB11.out.trans (hb.mono HB11.out.size)
      have HB14 := Lib.hid (show Below W1.heap.size W1 w14 from HB11.out.trans (hb.mono HB11.out.size))
      refine hK.out _ _ hB14 (fun hHeld2 => ?_)
      clear hK K hHeld hB14
      have hHeld := hHeld2
      clear hHeld2
      clear hb
      refine wpAnyH_take (i := 15) (oi := { dst := Option.some 18, op := Op.pick (Operand.tmp 16) (Operand.tmp 17) (Operand.const (Value.bool false)), type := 4, pos := "law.go:115", after := #[{ on := 13, ground := Ground.data }, { on := 14, ground := Ground.data }, { on := 5, ground := Ground.guard }], guard := Option.some (5, false) }) (v := .bool true) rfl (by kernel_rfl) (by kernel_rfl) (by kernel_rfl) (fun _ _ _ h => h) (Or.inl ⟨by rfl, ?_⟩) hHeld ?_
      · intro W hSw
        go_simp
      simp only [Act.put, List.setIfInBounds_toArray, List.set_cons_zero, List.set_cons_succ]
      refine wpAnyH_take (i := 16) (oi := { dst := Option.some 19, op := Op.pick (Operand.tmp 8) (Operand.const (Value.bool true)) (Operand.tmp 18), type := 4, pos := "law.go:115", after := #[{ on := 5, ground := Ground.data }, { on := 15, ground := Ground.data }], guard := Option.none }) (v := .bool true) rfl (by kernel_rfl) (by kernel_rfl) (by kernel_rfl) (fun _ _ _ h => h) (Or.inl ⟨by rfl, ?_⟩) hHeld ?_
      · intro W hSw
        go_simp
      simp only [Act.put, List.setIfInBounds_toArray, List.set_cons_zero, List.set_cons_succ]
      refine wpAnyH_take (i := 17) (oi := { dst := Option.some 2, op := Op.assign (Operand.tmp 19), type := 4, pos := "law.go:115", after := #[{ on := 16, ground := Ground.data }, { on := 14, ground := Ground.chain }, { on := 0, ground := Ground.phase }, { on := 1, ground := Ground.phase }, { on := 2, ground := Ground.phase }, { on := 3, ground := Ground.phase }, { on := 4, ground := Ground.phase }, { on := 5, ground := Ground.phase }, { on := 6, ground := Ground.phase }, { on := 7, ground := Ground.phase }, { on := 8, ground := Ground.phase }, { on := 9, ground := Ground.phase }, { on := 10, ground := Ground.phase }, { on := 11, ground := Ground.phase }, { on := 12, ground := Ground.phase }, { on := 13, ground := Ground.phase }, { on := 14, ground := Ground.phase }, { on := 15, ground := Ground.phase }, { on := 16, ground := Ground.phase }], guard := Option.none }) (v := .bool true) rfl (by kernel_rfl) (by kernel_rfl) (by kernel_rfl) (fun _ _ _ h => h) (Or.inl ⟨by rfl, ?_⟩) hHeld ?_
      · intro W hSw
        go_simp
      simp only [Act.put, List.setIfInBounds_toArray, List.set_cons_zero, List.set_cons_succ]
      clear hHeld
      refine wpAnyH_done (by kernel_rfl) ?_ _
      go_wp2_with fail
      go_ret
      exact ⟨rfl, HE.out.1.trans (HB14.out.mono HE.out.1.size)⟩

    | false =>
      have CC := Lib.hid fun A1 c1 A2 c2 W hS hI => C.mCheck m A1 nd c1 A2 ne c2 W hS hI (by have := HN.out.2.1; have := HN.out.2.2.2; omega) HN.out.2.2.1 1 (by rw [hm]; rfl)
      rw [er_ne (by decide)] at CC
      clear h hd hlong hW1 hg hb1 hq hsz hnd hs hs1 hs2
      go_enter Tryz.func6, Tryz.ntmps6
      go_upto_region 1 with fail
      rw [← HW.out.1, ← HW.out.2]
      refine wp_region_held_drew (S := fun W => Below W1.heap.size W1 W) (by kernel_rfl) hd0 (fun hHeld => ?_)
      refine wpAnyH_take (i := 0) (oi := { dst := Option.some 3, op := Op.load 25 (Operand.tmp 1), type := 25, pos := "law.go:115", after := #[], guard := Option.none }) (v := .agg #[.int .i64 m.kind, .int .i64 m.frm, .int .i64 m.to, .int .i64 m.term, .int .i64 m.index, .int .i64 m.logTerm, .int .i64 m.commit, .int .i64 m.round, .bool m.ok, .int .i64 m.off, .slice Ad nd cd, .slice Ae ne ce]) rfl (by kernel_rfl) (by kernel_rfl) (by kernel_rfl) (fun _ _ _ h => h) (Or.inl ⟨by rfl, ?_⟩) hHeld ?_
      · intro W hSw
        obtain ⟨z0, z1, z2, z3, z4, z5, z6, z7, z8, z9, z10, z11⟩ := HCL.out _ hSw
        go_simp
      simp only [Act.put, List.setIfInBounds_toArray, List.set_cons_zero, List.set_cons_succ]
      refine wpAnyH_ready (rs := [1]) (by kernel_rfl) (by simp) ?_
      refine AllReadyH.cons (o := { dst := Option.some 4, op := Op.call { callee := Callee.value (Operand.func 9), args := #[Operand.tmp 3], argTypes := #[25] }, type := 4, pos := "law.go:115", after := #[{ on := 0, ground := Ground.data }], guard := Option.none }) rfl (fun K hK => ?_) AllReadyH.nil
      go_simp
      refine (HL.out).mono ?_
      rintro y w1 ⟨rfl, hb⟩
      have hB1 : Below W1.heap.size W1 w1 := hd0.trans hb
      have HB1 := Lib.hid (show Below W1.heap.size W1 w1 from hd0.trans hb)
      refine hK.out _ _ hB1 (fun hHeld2 => ?_)
      clear hK K hHeld hB1
      have hHeld := hHeld2
      clear hHeld2
      clear hb
      refine wpAnyH_take (i := 2) (oi := { dst := Option.some 5, op := Op.move (Operand.tmp 4), type := 4, pos := "law.go:115", after := #[{ on := 1, ground := Ground.data }, { on := 1, ground := Ground.chain }], guard := Option.none }) (v := .bool false) rfl (by kernel_rfl) (by kernel_rfl) (by kernel_rfl) (fun _ _ _ h => h) (Or.inl ⟨by rfl, ?_⟩) hHeld ?_
      · intro W hSw
        go_simp
      simp only [Act.put, List.setIfInBounds_toArray, List.set_cons_zero, List.set_cons_succ]
      refine wpAnyH_take (i := 3) (oi := { dst := Option.some 6, op := Op.call { callee := Callee.value (Operand.func 10), args := #[], argTypes := #[] }, type := 4, pos := "law.go:115", after := #[{ on := 2, ground := Ground.chain }, { on := 2, ground := Ground.guard }], guard := Option.some (2, true) }) (v := undef) rfl (by kernel_rfl) (by kernel_rfl) (by kernel_rfl) (fun _ _ _ h => h) (Or.inr ⟨by rfl, rfl⟩) hHeld ?_
      simp only [Act.put, List.setIfInBounds_toArray, List.set_cons_zero, List.set_cons_succ]
      refine wpAnyH_take (i := 4) (oi := { dst := Option.some 7, op := Op.pick (Operand.tmp 5) (Operand.tmp 6) (Operand.const (Value.bool false)), type := 4, pos := "law.go:115", after := #[{ on := 2, ground := Ground.data }, { on := 3, ground := Ground.data }], guard := Option.none }) (v := .bool false) rfl (by kernel_rfl) (by kernel_rfl) (by kernel_rfl) (fun _ _ _ h => h) (Or.inl ⟨by rfl, ?_⟩) hHeld ?_
      · intro W hSw
        go_simp
      simp only [Act.put, List.setIfInBounds_toArray, List.set_cons_zero, List.set_cons_succ]
      refine wpAnyH_take (i := 5) (oi := { dst := Option.some 8, op := Op.move (Operand.tmp 7), type := 4, pos := "law.go:115", after := #[{ on := 4, ground := Ground.data }, { on := 3, ground := Ground.chain }], guard := Option.none }) (v := .bool false) rfl (by kernel_rfl) (by kernel_rfl) (by kernel_rfl) (fun _ _ _ h => h) (Or.inl ⟨by rfl, ?_⟩) hHeld ?_
      · intro W hSw
        go_simp
      simp only [Act.put, List.setIfInBounds_toArray, List.set_cons_zero, List.set_cons_succ]
      refine wpAnyH_take (i := 6) (oi := { dst := Option.some 9, op := Op.load 25 (Operand.tmp 1), type := 25, pos := "law.go:115", after := #[{ on := 5, ground := Ground.guard }], guard := Option.some (5, false) }) (v := .agg #[.int .i64 m.kind, .int .i64 m.frm, .int .i64 m.to, .int .i64 m.term, .int .i64 m.index, .int .i64 m.logTerm, .int .i64 m.commit, .int .i64 m.round, .bool m.ok, .int .i64 m.off, .slice Ad nd cd, .slice Ae ne ce]) rfl (by kernel_rfl) (by kernel_rfl) (by kernel_rfl) (fun _ _ _ h => h) (Or.inl ⟨by rfl, ?_⟩) hHeld ?_
      · intro W hSw
        obtain ⟨z0, z1, z2, z3, z4, z5, z6, z7, z8, z9, z10, z11⟩ := HCL.out _ hSw
        go_simp
      simp only [Act.put, List.setIfInBounds_toArray, List.set_cons_zero, List.set_cons_succ]
      refine wpAnyH_take (i := 10) (oi := { dst := Option.some 13, op := Op.load 25 (Operand.tmp 1), type := 25, pos := "law.go:115", after := #[{ on := 5, ground := Ground.guard }], guard := Option.some (5, false) }) (v := .agg #[.int .i64 m.kind, .int .i64 m.frm, .int .i64 m.to, .int .i64 m.term, .int .i64 m.index, .int .i64 m.logTerm, .int .i64 m.commit, .int .i64 m.round, .bool m.ok, .int .i64 m.off, .slice Ad nd cd, .slice Ae ne ce]) rfl (by kernel_rfl) (by kernel_rfl) (by kernel_rfl) (fun _ _ _ h => h) (Or.inl ⟨by rfl, ?_⟩) hHeld ?_
      · intro W hSw
        obtain ⟨z0, z1, z2, z3, z4, z5, z6, z7, z8, z9, z10, z11⟩ := HCL.out _ hSw
        go_simp
      simp only [Act.put, List.setIfInBounds_toArray, List.set_cons_zero, List.set_cons_succ]
      refine wpAnyH_ready (rs := [7]) (by kernel_rfl) (by simp) ?_
      refine AllReadyH.cons (o := { dst := Option.some 10, op := Op.call { callee := Callee.value (Operand.func 14), args := #[Operand.tmp 9], argTypes := #[25] }, type := 30, pos := "law.go:115", after := #[{ on := 6, ground := Ground.data }, { on := 5, ground := Ground.chain }, { on := 5, ground := Ground.guard }], guard := Option.some (5, false) }) rfl (fun K hK => ?_) AllReadyH.nil
      go_simp
      refine (giveMsg_any m Ad nd cd Ae ne ce w1 ((HN.out.1.below HE.out.1).below HB1.out) (by have := HN.out.2.1; have := HN.out.2.2.2; omega) ⟨by have := HN.out.2.2.1.1; omega, fun e he => by have := HN.out.2.2.1.2 e he; omega⟩).mono ?_
      rintro y w7 ⟨A1, c1, A2, c2, rfl, hin, hb⟩
      have hB7 : Below W1.heap.size W1 w7 := HB1.out.trans (hb.mono HB1.out.size)
      have HB7 := Lib.hid (And.intro (show Below W1.heap.size W1 w7 from HB1.out.trans (hb.mono HB1.out.size)) hin)
      refine hK.out _ _ hB7 (fun hHeld2 => ?_)
      clear hK K hHeld hB7
      have hHeld := hHeld2
      clear hHeld2
      clear hb hin
      refine wpAnyH_ready (rs := [8]) (by kernel_rfl) (by simp) ?_
      refine AllReadyH.cons (o := { dst := Option.some 11, op := Op.call { callee := Callee.value (Operand.func 13), args := #[Operand.tmp 10], argTypes := #[30] }, type := 32, pos := "law.go:115", after := #[{ on := 7, ground := Ground.data }, { on := 7, ground := Ground.chain }, { on := 5, ground := Ground.guard }], guard := Option.some (5, false) }) rfl (fun K hK => ?_) AllReadyH.nil
      go_simp
      refine (CC.out A1 c1 A2 c2 w7 (HS.out.more HB7.out.1) HB7.out.2).mono ?_
      rintro y w8 ⟨rfl, hb⟩
      have hB8 : Below W1.heap.size W1 w8 := HB7.out.1.trans (hb.mono HB7.out.1.size)
      have HB8 := Lib.hid (show Below W1.heap.size W1 w8 from HB7.out.1.trans (hb.mono HB7.out.1.size))
      refine hK.out _ _ hB8 (fun hHeld2 => ?_)
      clear hK K hHeld hB8
      have hHeld := hHeld2
      clear hHeld2
      clear hb
      refine wpAnyH_take (i := 9) (oi := { dst := Option.some 12, op := Op.binOp BinOp.eql 32 (Operand.tmp 11) (Operand.const Value.nilIface) 32, type := 4, pos := "law.go:115", after := #[{ on := 8, ground := Ground.data }, { on := 5, ground := Ground.guard }], guard := Option.some (5, false) }) (v := .bool false) rfl (by kernel_rfl) (by kernel_rfl) (by kernel_rfl) (fun _ _ _ h => h) (Or.inl ⟨by rfl, ?_⟩) hHeld ?_
      · intro W hSw
        go_simp
      simp only [Act.put, List.setIfInBounds_toArray, List.set_cons_zero, List.set_cons_succ]
      refine wpAnyH_ready (rs := [11]) (by kernel_rfl) (by simp) ?_
      refine AllReadyH.cons (o := { dst := Option.some 14, op := Op.call { callee := Callee.value (Operand.func 15), args := #[Operand.tmp 13], argTypes := #[25] }, type := 4, pos := "law.go:115", after := #[{ on := 10, ground := Ground.data }, { on := 8, ground := Ground.chain }, { on := 5, ground := Ground.guard }], guard := Option.some (5, false) }) rfl (fun K hK => ?_) AllReadyH.nil
      go_simp
      refine (May_m m Ad nd cd Ae ne ce w8 ((HN.out.1.below HE.out.1).below HB8.out) false hm.symm).mono ?_
      rintro y w11 ⟨rfl, hb⟩
      have hB11 : Below W1.heap.size W1 w11 := HB8.out.trans (hb.mono HB8.out.size)
      have HB11 := Lib.hid (show Below W1.heap.size W1 w11 from HB8.out.trans (hb.mono HB8.out.size))
      refine hK.out _ _ hB11 (fun hHeld2 => ?_)
      clear hK K hHeld hB11
      have hHeld := hHeld2
      clear hHeld2
      clear hb
      refine wpAnyH_take (i := 12) (oi := { dst := Option.some 15, op := Op.binOp BinOp.eql 4 (Operand.tmp 12) (Operand.tmp 14) 4, type := 4, pos := "law.go:115", after := #[{ on := 9, ground := Ground.data }, { on := 11, ground := Ground.data }, { on := 5, ground := Ground.guard }], guard := Option.some (5, false) }) (v := .bool true) rfl (by kernel_rfl) (by kernel_rfl) (by kernel_rfl) (fun _ _ _ h => h) (Or.inl ⟨by rfl, ?_⟩) hHeld ?_
      · intro W hSw
        go_simp
      simp only [Act.put, List.setIfInBounds_toArray, List.set_cons_zero, List.set_cons_succ]
      refine wpAnyH_take (i := 13) (oi := { dst := Option.some 16, op := Op.move (Operand.tmp 15), type := 4, pos := "law.go:115", after := #[{ on := 12, ground := Ground.data }, { on := 11, ground := Ground.chain }, { on := 5, ground := Ground.guard }], guard := Option.some (5, false) }) (v := .bool true) rfl (by kernel_rfl) (by kernel_rfl) (by kernel_rfl) (fun _ _ _ h => h) (Or.inl ⟨by rfl, ?_⟩) hHeld ?_
      · intro W hSw
        go_simp
      simp only [Act.put, List.setIfInBounds_toArray, List.set_cons_zero, List.set_cons_succ]
      refine wpAnyH_ready (rs := [14]) (by kernel_rfl) (by simp) ?_
      refine AllReadyH.cons (o := { dst := Option.some 17, op := Op.call { callee := Callee.value (Operand.func 10), args := #[], argTypes := #[] }, type := 4, pos := "law.go:115", after := #[{ on := 13, ground := Ground.chain }, { on := 13, ground := Ground.guard }], guard := Option.some (13, true) }) rfl (fun K hK => ?_) AllReadyH.nil
      go_simp
      refine (sureM C w11 (HS.out.more HB11.out)).mono ?_
      rintro y w14 ⟨rfl, hb⟩
      have hB14 : Below W1.heap.size W1 w14 := HB11.out.trans (hb.mono HB11.out.size)
      have HB14 := Lib.hid (show Below W1.heap.size W1 w14 from HB11.out.trans (hb.mono HB11.out.size))
      refine hK.out _ _ hB14 (fun hHeld2 => ?_)
      clear hK K hHeld hB14
      have hHeld := hHeld2
      clear hHeld2
      clear hb
      refine wpAnyH_take (i := 15) (oi := { dst := Option.some 18, op := Op.pick (Operand.tmp 16) (Operand.tmp 17) (Operand.const (Value.bool false)), type := 4, pos := "law.go:115", after := #[{ on := 13, ground := Ground.data }, { on := 14, ground := Ground.data }, { on := 5, ground := Ground.guard }], guard := Option.some (5, false) }) (v := .bool true) rfl (by kernel_rfl) (by kernel_rfl) (by kernel_rfl) (fun _ _ _ h => h) (Or.inl ⟨by rfl, ?_⟩) hHeld ?_
      · intro W hSw
        go_simp
      simp only [Act.put, List.setIfInBounds_toArray, List.set_cons_zero, List.set_cons_succ]
      refine wpAnyH_take (i := 16) (oi := { dst := Option.some 19, op := Op.pick (Operand.tmp 8) (Operand.const (Value.bool true)) (Operand.tmp 18), type := 4, pos := "law.go:115", after := #[{ on := 5, ground := Ground.data }, { on := 15, ground := Ground.data }], guard := Option.none }) (v := .bool true) rfl (by kernel_rfl) (by kernel_rfl) (by kernel_rfl) (fun _ _ _ h => h) (Or.inl ⟨by rfl, ?_⟩) hHeld ?_
      · intro W hSw
        go_simp
      simp only [Act.put, List.setIfInBounds_toArray, List.set_cons_zero, List.set_cons_succ]
      refine wpAnyH_take (i := 17) (oi := { dst := Option.some 2, op := Op.assign (Operand.tmp 19), type := 4, pos := "law.go:115", after := #[{ on := 16, ground := Ground.data }, { on := 14, ground := Ground.chain }, { on := 0, ground := Ground.phase }, { on := 1, ground := Ground.phase }, { on := 2, ground := Ground.phase }, { on := 3, ground := Ground.phase }, { on := 4, ground := Ground.phase }, { on := 5, ground := Ground.phase }, { on := 6, ground := Ground.phase }, { on := 7, ground := Ground.phase }, { on := 8, ground := Ground.phase }, { on := 9, ground := Ground.phase }, { on := 10, ground := Ground.phase }, { on := 11, ground := Ground.phase }, { on := 12, ground := Ground.phase }, { on := 13, ground := Ground.phase }, { on := 14, ground := Ground.phase }, { on := 15, ground := Ground.phase }, { on := 16, ground := Ground.phase }], guard := Option.none }) (v := .bool true) rfl (by kernel_rfl) (by kernel_rfl) (by kernel_rfl) (fun _ _ _ h => h) (Or.inl ⟨by rfl, ?_⟩) hHeld ?_
      · intro W hSw
        go_simp
      simp only [Act.put, List.setIfInBounds_toArray, List.set_cons_zero, List.set_cons_succ]
      clear hHeld
      refine wpAnyH_done (by kernel_rfl) ?_ _
      go_wp2_with fail
      go_ret
      exact ⟨rfl, HE.out.1.trans (HB14.out.mono HE.out.1.size)⟩


end Go.Proofs.YtfblgkcipnkhaaaGreatDoor.pk

/-
  The law MsgSpoilt: walked, to its first half.
-/
namespace Go.Proofs.YtfblgkcipnkhaaaGreatDoor.pk
open Go Go.RowKit
set_option maxRecDepth 100000

/-- The condition that is held can be made stronger in the midst. -/
theorem heldStrong {P : Program} {md : Region.Mode} {ops : Array Oper} {Q : Exit → Act → World → Prop} {S S' : World → Prop} (hSS : ∀ w, S' w → S w) :
    ∀ (fuel : Nat) (listed : Array Bool) (a : Act) (w : World), wpAnyH P md ops Q S' fuel listed a w → wpAnyH P md ops Q S fuel listed a w
  | 0, _, _, _, h => h
  | fuel + 1, _, _, _, h => ⟨h.1, fun i hi => wpOp_mono (fun a' w' h' => ⟨hSS _ h'.1, heldStrong hSS fuel _ a' w' h'.2⟩) (h.2 i hi)⟩

set_option maxHeartbeats 8000000 in
theorem spoilt_no (C : ConM) (m : Ms) (Ad : Option Addr) (nd cd : Nat) (Ae : Option Addr) (ne ce : Nat) (at_ : Int) (by_ : UInt8) (w : World) (hs : StdP w) (h : InM m Ad nd cd Ae ne ce w) (hd : ∀ e ∈ m.ents, e.data.length ≤ 140737488355328)
    (hno : longM m = true ∨ (longM m = false ∧ mayM m = false)) :
    Calls Tryz.prog 5 #[.agg #[.int .i64 m.kind, .int .i64 m.frm, .int .i64 m.to, .int .i64 m.term, .int .i64 m.index, .int .i64 m.logTerm, .int .i64 m.commit, .int .i64 m.round, .bool m.ok, .int .i64 m.off, .slice Ad nd cd, .slice Ae ne ce], .int .i64 at_, .int .u8 (by_.toNat : Int)] w fun y w' => y = .returned (.bool true) ∧ Below w.heap.size w w' := by
  obtain ⟨W1, g, hW1, hg, hb1, hq, hsz⟩ := one_box w (.cells #[.int .i64 m.kind, .int .i64 m.frm, .int .i64 m.to, .int .i64 m.term, .int .i64 m.index, .int .i64 m.logTerm, .int .i64 m.commit, .int .i64 m.round, .bool m.ok, .int .i64 m.off, .slice Ad nd cd, .slice Ae ne ce] 25)
  have HW := Lib.hid (And.intro hW1 hg)
  have HE := Lib.hid hb1
  have HS := Lib.hid (hs.more hb1)
  have HC := Lib.hid fun W (hW : Below W1.heap.size W1 W) => cells12 ((hW.block g (obj_lt hq)).trans hq)
  have HI := Lib.hid (h.below hb1)
  rcases hno with hl | ⟨hl, hm⟩
  · have HL := Lib.hid fun W hW => longMsg_any m Ad nd cd Ae ne ce W (HI.out.below hW) hd true hl.symm
    clear hW1 hg hb1 hq hsz h hd hs hl
    go_enter Tryz.func5, Tryz.ntmps5
    go_upto_region 1 with fail
    rw [← HW.out.1, ← HW.out.2]
    obtain ⟨z0, z1, z2, z3, z4, z5, z6, z7, z8, z9, z10, z11⟩ := HC.out W1 (Below.refl _ _)
    go_wp2_with (first
      | (go_at_call 9; go_must (refine (HL.out W1 (Below.refl _ _)).mono ?_; rintro y w1 ⟨rfl, hb⟩; have H1 := Lib.hid hb; clear hb))
      | (go_at_call 10; go_must (refine (sureM C w1 (HS.out.more H1.out)).mono ?_; rintro y w2 ⟨rfl, hb⟩; have H2 := Lib.hid hb; clear hb)))
    go_ret
    exact ⟨rfl, (HE.out.trans (H1.out.mono HE.out.size)).trans (H2.out.mono (HE.out.trans (H1.out.mono HE.out.size)).size)⟩
  · have HL := Lib.hid fun W hW => longMsg_any m Ad nd cd Ae ne ce W (HI.out.below hW) hd false hl.symm
    have HM := Lib.hid fun W hW => May_m m Ad nd cd Ae ne ce W (HI.out.below hW) false hm.symm
    clear hW1 hg hb1 hq hsz h hd hs hl hm
    go_enter Tryz.func5, Tryz.ntmps5
    go_upto_region 1 with fail
    rw [← HW.out.1, ← HW.out.2]
    obtain ⟨z0, z1, z2, z3, z4, z5, z6, z7, z8, z9, z10, z11⟩ := HC.out W1 (Below.refl _ _)
    go_wp2_with (first
      | (go_at_call 15; go_must (refine (HM.out w1 H1.out).mono ?_; rintro y w2 ⟨rfl, hb⟩; have H2 := Lib.hid (H1.out.trans (hb.mono H1.out.size)); clear hb))
      | (go_at_call 9; go_must (refine (HL.out W1 (Below.refl _ _)).mono ?_; rintro y w1 ⟨rfl, hb⟩; obtain ⟨z0, z1, z2, z3, z4, z5, z6, z7, z8, z9, z10, z11⟩ := HC.out w1 hb; have H1 := Lib.hid hb; clear hb))
      | (go_at_call 10; go_must (refine (sureM C w2 (HS.out.more H2.out)).mono ?_; rintro y w3 ⟨rfl, hb⟩; have H3 := Lib.hid (H2.out.trans (hb.mono H2.out.size)); clear hb)))
    go_ret
    exact ⟨rfl, HE.out.trans (H3.out.mono HE.out.size)⟩

theorem own_cut {w : World} {B e g n c k : Nat} {xs : List Value} (h : w.ownsRow B e 1 (.slice (some ⟨g, 0, none⟩) n c) n xs) (hk : k ≤ n) : w.ownsRow B e 1 (.slice (some ⟨g, 0, none⟩) k c) k (xs.take k) := by
  refine ⟨by rw [List.length_take, h.1]; omega, ?_⟩
  rcases h.2 with ⟨hv, _⟩ | ⟨g', cap, cur, hv, h1, h2, h3, h4, h5, h6⟩
  · cases hv
  · injection hv with e1 e2 e3
    injection e1 with e1
    injection e1 with e1
    subst e1; subst e3
    refine Or.inr ⟨g, c, cur, rfl, h1, h2, by omega, h4, h5, ?_⟩
    rw [← h6, List.take_take, Nat.mul_one, Nat.mul_one, Nat.min_eq_left (by omega)]

set_option maxHeartbeats 16000000 in
theorem spoilt_yes (C : ConM) (m : Ms) (Ad : Option Addr) (nd cd : Nat) (Ae : Option Addr) (ne ce : Nat) (at_ : Int) (by_ : UInt8) (w : World) (hs : StdP w) (h : InM m Ad nd cd Ae ne ce w) (hd : ∀ e ∈ m.ents, e.data.length ≤ 140737488355328)
    (hl : longM m = false) (hm : mayM m = true) :
    Calls Tryz.prog 5 #[.agg #[.int .i64 m.kind, .int .i64 m.frm, .int .i64 m.to, .int .i64 m.term, .int .i64 m.index, .int .i64 m.logTerm, .int .i64 m.commit, .int .i64 m.round, .bool m.ok, .int .i64 m.off, .slice Ad nd cd, .slice Ae ne ce], .int .i64 at_, .int .u8 (by_.toNat : Int)] w fun y w' => y = .returned (.bool true) ∧ Below w.heap.size w w' := by
  obtain ⟨W1, g, hW1, hg, hb1, hq, hsz⟩ := one_box w (.cells #[.int .i64 m.kind, .int .i64 m.frm, .int .i64 m.to, .int .i64 m.term, .int .i64 m.index, .int .i64 m.logTerm, .int .i64 m.commit, .int .i64 m.round, .bool m.ok, .int .i64 m.off, .slice Ad nd cd, .slice Ae ne ce] 25)
  have HW := Lib.hid (And.intro hW1 hg)
  have HE := Lib.hid (And.intro hb1 (obj_lt hq))
  have HS := Lib.hid fun W (hW : Below W1.heap.size W1 W) => (hs.more hb1).more hW
  have HC := Lib.hid fun W (hW : Below W1.heap.size W1 W) => cells12 ((hW.block g (obj_lt hq)).trans hq)
  have HI := Lib.hid fun W (hW : Below W1.heap.size W1 W) => (h.below hb1).below hW
  obtain ⟨s1, s2⟩ := longM_small hl
  have hnd := h.data.len_
  have hnd2 : nd ≤ 10000 := by omega
  have s3 : SmallE 1000000 100000000 m.ents := ⟨by have := s2.1; omega, fun e he => by have := s2.2 e he; omega⟩
  have HL := Lib.hid fun W hW => longMsg_any m Ad nd cd Ae ne ce W (HI.out W hW) hd false hl.symm
  have HM := Lib.hid fun W hW => May_m m Ad nd cd Ae ne ce W (HI.out W hW) true hm.symm
  have HG := Lib.hid fun W hW => giveMsg_any m Ad nd cd Ae ne ce W (HI.out W hW) (by omega) s3
  obtain ⟨S, hS⟩ : ∃ S, S = sealM m := ⟨_, rfl⟩
  obtain ⟨n, hn⟩ : ∃ n, n = S.length := ⟨_, rfl⟩
  have hsl := sealM_len hm
  have hel := encM_len (m := m) (by omega) (by have := s2.1; omega)
  have hes := encEs_len (l := m.ents) (d := 25663) s2.2 (by omega)
  have hen : m.ents.length * (25663 + 110) ≤ 200 * 25773 := Nat.mul_le_mul s2.1 (by omega)
  have n5 : 5 ≤ n := by rw [hn, hS, hsl]; omega
  have nb : n ≤ 10000000 := by rw [hn, hS, hsl]; omega
  have CS := Lib.hid fun A1 c1 A2 c2 W hS' hI => C.mSeal m A1 nd c1 A2 ne c2 W hS' hI hnd2 s2 n (by rw [hn, hS])
  rw [← hS] at CS
  have C1 := Lib.hid fun A c W hS' hB => C.mOpen A n c S W hS' hB (by omega) m 0 (by rw [hS]; exact (openM_seal hm).symm) nd ne hnd (h.ents.len_.1)
  rw [er_zero] at C1
  obtain ⟨k, hk⟩ : ∃ k, k = (encM m).length := ⟨_, rfl⟩
  have CE := Lib.hid fun A1 c1 A2 c2 W hS' hI => C.mEncode m A1 nd c1 A2 ne c2 W hS' hI hnd2 s2 k hk
  have HN := Lib.hid (And.intro hS (And.intro hn (And.intro n5 (And.intro nb hm))))
  have hz5 : ((n : Int) == 0) = false := by rw [beq_eq_false_iff_ne]; omega
  clear hW1 hg hb1 hq hsz h hd hs hl hm hS hn hsl hel hes hen s1 s2 s3 hnd hnd2 n5 nb hk
  go_enter Tryz.func5, Tryz.ntmps5
  go_upto_region 1 with fail
  rw [← HW.out.1, ← HW.out.2]
  obtain ⟨z0, z1, z2, z3, z4, z5, z6, z7, z8, z9, z10, z11⟩ := HC.out W1 (Below.refl _ _)
  go_upto_region 5 with (first
    | (go_at_call 15; go_must (refine (HM.out w1 H1.out).mono ?_; rintro y w2 ⟨rfl, hb⟩; have H2 := Lib.hid (H1.out.trans (hb.mono H1.out.size)); clear hb; obtain ⟨z0, z1, z2, z3, z4, z5, z6, z7, z8, z9, z10, z11⟩ := HC.out w2 H2.out))
    | (go_at_call 9; go_must (refine (HL.out W1 (Below.refl _ _)).mono ?_; rintro y w1 ⟨rfl, hb⟩; obtain ⟨z0, z1, z2, z3, z4, z5, z6, z7, z8, z9, z10, z11⟩ := HC.out w1 hb; have H1 := Lib.hid hb; clear hb))
    | (go_at_call 14; go_must (refine (HG.out w2 H2.out).mono ?_; rintro y w3 ⟨A1, c1, A2, c2, rfl, hi, hb⟩; have H3 := Lib.hid (And.intro (H2.out.trans (hb.mono H2.out.size)) hi); clear hb hi))
    | (go_at_call 22; go_must (refine (CS.out A1 c1 A2 c2 w3 (HS.out w3 H3.out.1) H3.out.2).mono ?_; rintro y w4 ⟨A, c, rfl, hi, hb⟩; have H4 := Lib.hid (And.intro (H3.out.1.trans (hb.mono H3.out.1.size)) hi); clear hb hi))
    | (go_at_call 20; go_must (refine (C1.out A c w4 (HS.out w4 H4.out.1) H4.out.2).mono ?_; rintro y w5 ⟨A6, c6, A7, c7, rfl, hi, hb⟩; have H5 := Lib.hid (And.intro (H4.out.1.trans (hb.mono H4.out.1.size)) (And.intro hi (H4.out.2.below hb))); clear hb hi)))
  obtain ⟨W6, g6, hW6, hg6, hb6, hq6, -⟩ := one_box w5 (.cells #[.int .i64 m.kind, .int .i64 m.frm, .int .i64 m.to, .int .i64 m.term, .int .i64 m.index, .int .i64 m.logTerm, .int .i64 m.commit, .int .i64 m.round, .bool m.ok, .int .i64 m.off, .slice A6 nd c6, .slice A7 ne c7] 30)
  rw [← hW6, ← hg6]
  have H6 := Lib.hid (And.intro (H5.out.1.trans (hb6.mono H5.out.1.size)) (And.intro (H5.out.2.2.below hb6) (H5.out.2.1.below hb6)))
  have HC6 := Lib.hid fun W (hW : Below W6.heap.size W6 W) => cells12 ((hW.block g6 (obj_lt hq6)).trans hq6)
  clear hW6 hg6 hb6 hq6 z0 z1 z2 z3 z4 z5 z6 z7 z8 z9 z10 z11
  obtain ⟨X, hX⟩ : ∃ X : ByteArray, X = ⟨(encM m).toArray⟩ := ⟨_, rfl⟩
  have HX := Lib.hid hX
  clear hX
  have hd0 : Below W6.heap.size W6 W6.drew := (Below.refl _ _).drew
  refine wp_region_held_drew (S := fun W => Below W6.heap.size W6 W) (by kernel_rfl) hd0 (fun hHeld => ?_)
  refine wpAnyH_take (i := 0) (oi := { dst := Option.some 34, op := Op.move (Operand.tmp 9), type := 32, pos := "law.go:94", after := #[], guard := Option.none }) (v := .nilIface) rfl (by kernel_rfl) (by kernel_rfl) (by kernel_rfl) (fun _ _ _ h => h) (Or.inl ⟨by rfl, ?_⟩) hHeld ?_
  · intro W hSw
    go_simp
  simp only [Act.put, List.setIfInBounds_toArray, List.set_cons_zero, List.set_cons_succ]
  refine wpAnyH_take (i := 1) (oi := { dst := Option.some 35, op := Op.binOp BinOp.neq 32 (Operand.tmp 34) (Operand.const Value.nilIface) 32, type := 4, pos := "law.go:94", after := #[{ on := 0, ground := Ground.data }], guard := Option.none }) (v := .bool false) rfl (by kernel_rfl) (by kernel_rfl) (by kernel_rfl) (fun _ _ _ h => h) (Or.inl ⟨by rfl, ?_⟩) hHeld ?_
  · intro W hSw
    go_simp
  simp only [Act.put, List.setIfInBounds_toArray, List.set_cons_zero, List.set_cons_succ]
  refine wpAnyH_take (i := 2) (oi := { dst := Option.some 36, op := Op.move (Operand.tmp 35), type := 4, pos := "law.go:94", after := #[{ on := 1, ground := Ground.data }], guard := Option.none }) (v := .bool false) rfl (by kernel_rfl) (by kernel_rfl) (by kernel_rfl) (fun _ _ _ h => h) (Or.inl ⟨by rfl, ?_⟩) hHeld ?_
  · intro W hSw
    go_simp
  simp only [Act.put, List.setIfInBounds_toArray, List.set_cons_zero, List.set_cons_succ]
  refine wpAnyH_take (i := 3) (oi := { dst := Option.some 37, op := Op.move (Operand.tmp 7), type := 22, pos := "law.go:94", after := #[{ on := 2, ground := Ground.guard }], guard := Option.some (2, false) }) (v := .slice A n c) rfl (by kernel_rfl) (by kernel_rfl) (by kernel_rfl) (fun _ _ _ h => h) (Or.inl ⟨by rfl, ?_⟩) hHeld ?_
  · intro W hSw
    go_simp
  simp only [Act.put, List.setIfInBounds_toArray, List.set_cons_zero, List.set_cons_succ]
  refine wpAnyH_take (i := 4) (oi := { dst := Option.some 38, op := Op.call { callee := Callee.builtin Builtin.len, args := #[Operand.tmp 37], argTypes := #[22] }, type := 3, pos := "law.go:94", after := #[{ on := 3, ground := Ground.data }, { on := 2, ground := Ground.guard }], guard := Option.some (2, false) }) (v := .int .i64 (n : Int)) rfl (by kernel_rfl) (by kernel_rfl) (by kernel_rfl) (fun _ _ _ h => h) (Or.inl ⟨by rfl, ?_⟩) hHeld ?_
  · intro W hSw
    go_simp
  simp only [Act.put, List.setIfInBounds_toArray, List.set_cons_zero, List.set_cons_succ]
  refine wpAnyH_take (i := 5) (oi := { dst := Option.some 39, op := Op.binOp BinOp.eql 3 (Operand.tmp 38) (Operand.const (Value.int IntKind.i64 0)) 3, type := 4, pos := "law.go:94", after := #[{ on := 4, ground := Ground.data }, { on := 2, ground := Ground.guard }], guard := Option.some (2, false) }) (v := .bool false) rfl (by kernel_rfl) (by kernel_rfl) (by kernel_rfl) (fun _ _ _ h => h) (Or.inl ⟨by rfl, ?_⟩) hHeld ?_
  · intro W hSw
    go_simp
  simp only [Act.put, List.setIfInBounds_toArray, List.set_cons_zero, List.set_cons_succ]
  refine wpAnyH_take (i := 6) (oi := { dst := Option.some 40, op := Op.pick (Operand.tmp 36) (Operand.const (Value.bool true)) (Operand.tmp 39), type := 4, pos := "law.go:94", after := #[{ on := 2, ground := Ground.data }, { on := 5, ground := Ground.data }], guard := Option.none }) (v := .bool false) rfl (by kernel_rfl) (by kernel_rfl) (by kernel_rfl) (fun _ _ _ h => h) (Or.inl ⟨by rfl, ?_⟩) hHeld ?_
  · intro W hSw
    go_simp
  simp only [Act.put, List.setIfInBounds_toArray, List.set_cons_zero, List.set_cons_succ]
  refine wpAnyH_take (i := 7) (oi := { dst := Option.some 41, op := Op.move (Operand.tmp 40), type := 4, pos := "law.go:94", after := #[{ on := 6, ground := Ground.data }, { on := 2, ground := Ground.chain }], guard := Option.none }) (v := .bool false) rfl (by kernel_rfl) (by kernel_rfl) (by kernel_rfl) (fun _ _ _ h => h) (Or.inl ⟨by rfl, ?_⟩) hHeld ?_
  · intro W hSw
    go_simp
  simp only [Act.put, List.setIfInBounds_toArray, List.set_cons_zero, List.set_cons_succ]
  refine wpAnyH_take (i := 8) (oi := { dst := Option.some 42, op := Op.load 30 (Operand.tmp 8), type := 30, pos := "law.go:94", after := #[{ on := 7, ground := Ground.guard }], guard := Option.some (7, false) }) (v := .agg #[.int .i64 m.kind, .int .i64 m.frm, .int .i64 m.to, .int .i64 m.term, .int .i64 m.index, .int .i64 m.logTerm, .int .i64 m.commit, .int .i64 m.round, .bool m.ok, .int .i64 m.off, .slice A6 nd c6, .slice A7 ne c7]) rfl (by kernel_rfl) (by kernel_rfl) (by kernel_rfl) (fun _ _ _ h => h) (Or.inl ⟨by rfl, ?_⟩) hHeld ?_
  · intro W hSw
    obtain ⟨z0, z1, z2, z3, z4, z5, z6, z7, z8, z9, z10, z11⟩ := HC6.out _ hSw
    go_simp
  simp only [Act.put, List.setIfInBounds_toArray, List.set_cons_zero, List.set_cons_succ]
  refine wpAnyH_take (i := 11) (oi := { dst := Option.some 45, op := Op.load 25 (Operand.tmp 3), type := 25, pos := "law.go:94", after := #[{ on := 7, ground := Ground.guard }], guard := Option.some (7, false) }) (v := .agg #[.int .i64 m.kind, .int .i64 m.frm, .int .i64 m.to, .int .i64 m.term, .int .i64 m.index, .int .i64 m.logTerm, .int .i64 m.commit, .int .i64 m.round, .bool m.ok, .int .i64 m.off, .slice Ad nd cd, .slice Ae ne ce]) rfl (by kernel_rfl) (by kernel_rfl) (by kernel_rfl) (fun _ _ _ h => h) (Or.inl ⟨by rfl, ?_⟩) hHeld ?_
  · intro W hSw
    obtain ⟨z0, z1, z2, z3, z4, z5, z6, z7, z8, z9, z10, z11⟩ := HC.out _ (H6.out.1.trans (hSw.mono H6.out.1.size))
    go_simp
  simp only [Act.put, List.setIfInBounds_toArray, List.set_cons_zero, List.set_cons_succ]
  refine wpAnyH_ready (rs := [9]) (by kernel_rfl) (by simp) ?_
  refine AllReadyH.cons (o := { dst := Option.some 43, op := Op.call { callee := Callee.value (Operand.func 16), args := #[Operand.tmp 42], argTypes := #[30] }, type := 22, pos := "law.go:94", after := #[{ on := 8, ground := Ground.data }, { on := 7, ground := Ground.chain }, { on := 7, ground := Ground.guard }], guard := Option.some (7, false) }) rfl (fun K hK => ?_) AllReadyH.nil
  go_simp
  refine (CE.out A6 c6 A7 c7 W6.drew (HS.out _ (H6.out.1.trans (hd0.mono H6.out.1.size))) (H6.out.2.2.below hd0)).mono ?_
  rintro y w9 ⟨A9, c9, rfl, hi9, hb9⟩
  have hb9 : Below W6.heap.size W6 w9 := hd0.trans hb9
  refine hK.out _ _ hb9 (fun hHeld2 => ?_)
  clear hK K hHeld hHeld2
  have H9 := Lib.hid (And.intro hi9 hb9)
  refine heldStrong (S' := fun W => Below w9.heap.size w9 W) (fun W hW => H9.out.2.trans (hW.mono H9.out.2.size)) _ _ _ _ ?_
  have hHeld : Below w9.heap.size w9 w9 := Below.refl _ _
  clear hi9 hb9 hd0
  refine wpAnyH_take (i := 10) (oi := { dst := Option.some 44, op := Op.convert 22 9 (Operand.tmp 43), type := 9, pos := "law.go:94", after := #[{ on := 9, ground := Ground.data }, { on := 7, ground := Ground.guard }], guard := Option.some (7, false) }) (v := .string X) rfl (by kernel_rfl) (by kernel_rfl) (by kernel_rfl) (fun _ _ _ h => h) (Or.inl ⟨by rfl, ?_⟩) hHeld ?_
  · intro W hSw
    have hv := conv_bytes (H9.out.1.below hSw).sl_; rw [← HX.out] at hv
    go_simp
  simp only [Act.put, List.setIfInBounds_toArray, List.set_cons_zero, List.set_cons_succ]
  refine wpAnyH_ready (rs := [12]) (by kernel_rfl) (by simp) ?_
  refine AllReadyH.cons (o := { dst := Option.some 46, op := Op.call { callee := Callee.value (Operand.func 14), args := #[Operand.tmp 45], argTypes := #[25] }, type := 30, pos := "law.go:94", after := #[{ on := 11, ground := Ground.data }, { on := 9, ground := Ground.chain }, { on := 7, ground := Ground.guard }], guard := Option.some (7, false) }) rfl (fun K hK => ?_) AllReadyH.nil
  go_simp
  refine (HG.out w9 (H6.out.1.trans (H9.out.2.mono H6.out.1.size))).mono ?_
  rintro y w12 ⟨A3, c3, A4, c4, rfl, hi12, hb12⟩
  refine hK.out _ _ hb12 (fun hHeld2 => ?_)
  clear hK K hHeld
  have hHeld := hHeld2
  clear hHeld2
  have H12 := Lib.hid (And.intro hi12 (H9.out.2.trans (hb12.mono H9.out.2.size)))
  have H12b := Lib.hid hb12
  clear hi12 hb12
  refine wpAnyH_ready (rs := [13]) (by kernel_rfl) (by simp) ?_
  refine AllReadyH.cons (o := { dst := Option.some 47, op := Op.call { callee := Callee.value (Operand.func 16), args := #[Operand.tmp 46], argTypes := #[30] }, type := 22, pos := "law.go:94", after := #[{ on := 12, ground := Ground.data }, { on := 12, ground := Ground.chain }, { on := 7, ground := Ground.guard }], guard := Option.some (7, false) }) rfl (fun K hK => ?_) AllReadyH.nil
  go_simp
  refine (CE.out A3 c3 A4 c4 w12 (HS.out _ (H6.out.1.trans (H12.out.2.mono H6.out.1.size))) H12.out.1).mono ?_
  rintro y w13 ⟨A13, c13, rfl, hi13, hb13⟩
  refine hK.out _ _ (H12b.out.trans (hb13.mono H12b.out.size)) (fun hHeld2 => ?_)
  clear hK K hHeld hHeld2
  have H13 := Lib.hid (And.intro hi13 (H12.out.2.trans (hb13.mono H12.out.2.size)))
  refine heldStrong (S' := fun W => Below w13.heap.size w13 W) (fun W hW => H12b.out.trans (Below.mono (hb13.trans (hW.mono hb13.size)) H12b.out.size)) _ _ _ _ ?_
  have hHeld : Below w13.heap.size w13 w13 := Below.refl _ _
  clear hi13 hb13
  refine wpAnyH_take (i := 14) (oi := { dst := Option.some 48, op := Op.convert 22 9 (Operand.tmp 47), type := 9, pos := "law.go:94", after := #[{ on := 13, ground := Ground.data }, { on := 7, ground := Ground.guard }], guard := Option.some (7, false) }) (v := .string X) rfl (by kernel_rfl) (by kernel_rfl) (by kernel_rfl) (fun _ _ _ h => h) (Or.inl ⟨by rfl, ?_⟩) hHeld ?_
  · intro W hSw
    have hv := conv_bytes (H13.out.1.below hSw).sl_; rw [← HX.out] at hv
    go_simp
  simp only [Act.put, List.setIfInBounds_toArray, List.set_cons_zero, List.set_cons_succ]
  refine wpAnyH_take (i := 15) (oi := { dst := Option.some 49, op := Op.binOp BinOp.neq 9 (Operand.tmp 44) (Operand.tmp 48) 9, type := 4, pos := "law.go:94", after := #[{ on := 10, ground := Ground.data }, { on := 14, ground := Ground.data }, { on := 7, ground := Ground.guard }], guard := Option.some (7, false) }) (v := .bool false) rfl (by kernel_rfl) (by kernel_rfl) (by kernel_rfl) (fun _ _ _ h => h) (Or.inl ⟨by rfl, ?_⟩) hHeld ?_
  · intro W hSw
    go_simp
  simp only [Act.put, List.setIfInBounds_toArray, List.set_cons_zero, List.set_cons_succ]
  refine wpAnyH_take (i := 16) (oi := { dst := Option.some 50, op := Op.pick (Operand.tmp 41) (Operand.const (Value.bool true)) (Operand.tmp 49), type := 4, pos := "law.go:94", after := #[{ on := 7, ground := Ground.data }, { on := 15, ground := Ground.data }], guard := Option.none }) (v := .bool false) rfl (by kernel_rfl) (by kernel_rfl) (by kernel_rfl) (fun _ _ _ h => h) (Or.inl ⟨by rfl, ?_⟩) hHeld ?_
  · intro W hSw
    go_simp
  simp only [Act.put, List.setIfInBounds_toArray, List.set_cons_zero, List.set_cons_succ]
  clear hHeld
  refine wpAnyH_done (by kernel_rfl) ?_ _

  have HQ := Lib.hid (And.intro (H6.out.1.trans (H13.out.2.mono H6.out.1.size)) (H6.out.2.1.below H13.out.2))
  obtain ⟨A', c', hv, hnc, hc63⟩ := HQ.out.2.form
  injection hv with e1 e2 e3
  subst e1
  subst e3
  clear e2
  obtain ⟨ua, hua⟩ : ∃ u, u = u64 at_ := ⟨_, rfl⟩
  obtain ⟨i, hi⟩ : ∃ i, i = ua % n := ⟨_, rfl⟩
  have n5 := HN.out.2.2.1
  have nb := HN.out.2.2.2.1
  have hin : i < n := by rw [hi]; exact Nat.mod_lt _ (by omega)
  have k0 : IntKind.u64.wrap at_ = (ua : Int) := by rw [hua]; exact wrap_u64 at_
  have kn : IntKind.u64.wrap (n : Int) = (n : Int) := by rw [IntKind.wrap_u64]; omega
  have kt : ((ua : Nat) : Int).tmod (n : Int) = (i : Int) := by rw [hi, Int.tmod_eq_emod_of_nonneg (by omega)]; rfl
  have ke : ((ua : Nat) : Int) % (n : Int) = (i : Int) := by rw [hi]; rfl
  have ki : IntKind.i64.wrap (i : Int) = (i : Int) := IntWalk.i64_in _ (by omega)
  have knz : ¬ (n : Int) = 0 := by omega
  have kic : (i : Int) ≤ (c : Int) := by have := HN.out.2.1; omega
  have ki0 : (0 : Int) ≤ (i : Int) := by omega
  have HII := Lib.hid (And.intro hin (And.intro hnc hc63))
  clear hua hi hin hnc hc63 n5 nb
  have C2 : Hid (∀ A c W, StdP W → Bys W (.slice A i c) (S.take i) → Calls Tryz.prog 20 #[.slice A i c] W fun y w' => ∃ Ax cx Ay cy, y = .returned (.tuple #[.agg #[.int .i64 0, .int .i64 0, .int .i64 0, .int .i64 0, .int .i64 0, .int .i64 0, .int .i64 0, .int .i64 0, .bool false, .int .i64 0, .slice Ax 0 cx, .slice Ay 0 cy], .iface 60 (.int .i64 3)]) ∧ Below W.heap.size W w') := Lib.hid fun A c W hS' hB => by
    have h0 := C.mOpen A i c (S.take i) W hS' hB (by have := HII.out.1; have := HN.out.2.2.2.1; omega) zm 3 (by rw [HN.out.1]; exact (openM_cut HN.out.2.2.2.2 (by rw [← HN.out.1, ← HN.out.2.1]; exact HII.out.1)).symm) 0 0 rfl rfl
    refine h0.mono ?_
    rintro y w' ⟨Ax, cx, Ay, cy, e, -, hb⟩
    exact ⟨Ax, cx, Ay, cy, e, hb⟩
  have C3 : Hid (∀ A c W, StdP W → Bys W (.slice A (n + 1) c) (S ++ [by_]) → Calls Tryz.prog 20 #[.slice A (n + 1) c] W fun y w' => ∃ Ax cx Ay cy, y = .returned (.tuple #[.agg #[.int .i64 0, .int .i64 0, .int .i64 0, .int .i64 0, .int .i64 0, .int .i64 0, .int .i64 0, .int .i64 0, .bool false, .int .i64 0, .slice Ax 0 cx, .slice Ay 0 cy], .iface 60 (.int .i64 3)]) ∧ Below W.heap.size W w') := Lib.hid fun A c W hS' hB => by
    have h0 := C.mOpen A (n + 1) c (S ++ [by_]) W hS' hB (by have := HN.out.2.2.2.1; omega) zm 3 (by rw [HN.out.1]; exact (openM_more HN.out.2.2.2.2 by_).symm) 0 0 rfl rfl
    refine h0.mono ?_
    rintro y w' ⟨Ax, cx, Ay, cy, e, -, hb⟩
    exact ⟨Ax, cx, Ay, cy, e, hb⟩
  have kin : i < S.length := by rw [← HN.out.2.1]; exact HII.out.1
  have C4 : by_ ≠ 0 → Hid (∀ A c W, StdP W → Bys W (.slice A n c) (S.set i (S[i] ^^^ by_)) → Calls Tryz.prog 20 #[.slice A n c] W fun y w' => ∃ Ax cx Ay cy, y = .returned (.tuple #[.agg #[.int .i64 0, .int .i64 0, .int .i64 0, .int .i64 0, .int .i64 0, .int .i64 0, .int .i64 0, .int .i64 0, .bool false, .int .i64 0, .slice Ax 0 cx, .slice Ay 0 cy], .iface 60 (.int .i64 3)]) ∧ Below W.heap.size W w') := fun hy => Lib.hid fun A c W hS' hB => by
    have hx : openM (S.set i (S[i] ^^^ by_)) = (zm, 3) := by
      have h1 := HN.out.1
      subst h1
      exact openM_turn HN.out.2.2.2.2 kin hy
    have h0 := C.mOpen A n c (S.set i (S[i] ^^^ by_)) W hS' hB (by have := HN.out.2.2.2.1; omega) zm 3 hx.symm 0 0 rfl rfl
    refine h0.mono ?_
    rintro y w' ⟨Ax, cx, Ay, cy, e, -, hb⟩
    exact ⟨Ax, cx, Ay, cy, e, hb⟩
  go_upto_region 8 with fail
  go_upto_region 9 with (go_at_call 20; go_must (refine (C2.out A c w13 (HS.out _ HQ.out.1) (show Bys w13 (.slice A i c) (S.take i) from SlT.front HQ.out.2 (Nat.le_of_lt kin))).mono ?_; rintro y w14 ⟨Ax, cx, Ay, cy, rfl, hb⟩; have H14 := Lib.hid hb; clear hb))
  obtain ⟨W9, hW9⟩ : ∃ W, W = w14.alloc (.cells #[.int .i64 0, .int .i64 0, .int .i64 0, .int .i64 0, .int .i64 0, .int .i64 0, .int .i64 0, .int .i64 0, .bool false, .int .i64 0, .slice Ax 0 cx, .slice Ay 0 cy] 30) := ⟨_, rfl⟩
  have hb9' : Below w13.heap.size w13 W9 := by rw [hW9]; exact H14.out.trans ((below_alloc w14 _).mono H14.out.size)
  rw [← hW9]
  have H9' := Lib.hid (And.intro (HQ.out.1.trans (hb9'.mono HQ.out.1.size)) (HQ.out.2.below hb9'))
  clear hW9 hb9'
  have HBY : Hid (∀ W : World, Bys (W.alloc (.cells #[.int .u8 (by_.toNat : Int)] 5)) (.slice (some ⟨W.heap.size, 0, none⟩) 1 1) [by_]) := Lib.hid fun W => Bys.of_sl (Sl.lit W 5 [by_] (W.alloc (.cells #[.int .u8 (by_.toNat : Int)] 5)).heap.size (by rw [World.size_alloc]; omega) (by simp))
  go_upto_region 11 with (at_builtin; go_must (first
    | (refine wpList_joinB (B := W9.heap.size) (xs := S) (HO10.out.1.alloc _) rfl _ _ rfl rfl (some ⟨w10.heap.size, 0, none⟩) 1 1 rfl [by_] (HBY.out w10) (by have := HN.out.2.1; have := HN.out.2.2.2.1; omega) (by rw [World.size_alloc]; have := HO10.out.2.size; omega) ?_; intro v2 w11 ho hg; have HO11 := Lib.hid (And.intro ho ((HO10.out.2.alloc HO10.out.2.size _).grown hg (by rw [World.size_alloc]; have := HO10.out.2.size; omega) (fun q hq => (HO10.out.1.lt q hq).1))); clear ho hg)
    | (refine wpList_joinB (B := W9.heap.size) (xs := []) (World.ownsRow_nil W9 W9.heap.size 5 1) rfl _ _ rfl rfl A n c rfl S H9'.out.2 (by have := HN.out.2.2.2.1; simp; omega) (Nat.le_refl _) ?_; intro v1 w10 ho hg; rw [List.nil_append] at ho; have HO10 := Lib.hid (And.intro ho ((Below.refl W9.heap.size W9).grown hg (Nat.le_refl _) (fun q hq => by cases hq))); clear ho hg)))
  have hl1 : (S ++ [by_]).length = n + 1 := by rw [List.length_append, HN.out.2.1]; rfl
  have ho : w11.ownsRow W9.heap.size 5 1 v2 (n + 1) (Lib.byteCells (S ++ [by_])) := by rw [← hl1]; exact HO11.out.1
  obtain ⟨gm, cm, hv2, hgm, hlt, hcm1, hcm2⟩ := row_form ho (by omega)
  subst hv2
  have H11 := Lib.hid (And.intro ho (And.intro hgm (And.intro hcm1 (And.intro hcm2 (H9'.out.1.trans (HO11.out.2.mono H9'.out.1.size))))))
  clear hl1 ho hgm hlt hcm1 hcm2
  have HBM := Lib.hid (show Bys w11 (.slice (some ⟨gm, 0, none⟩) (n + 1) cm) (S ++ [by_]) from Bys.of_own HO11.out.1)
  go_upto_region 12 with (go_at_call 20; go_must (refine (C3.out (some ⟨gm, 0, none⟩) cm w11 (HS.out _ H11.out.2.2.2.2) HBM.out).mono ?_; rintro y w15 ⟨Aw, cw, Av, cv, rfl, hb⟩; have H15 := Lib.hid hb; clear hb))
  obtain ⟨W12, hW12⟩ : ∃ W, W = w15.alloc (.cells #[.int .i64 0, .int .i64 0, .int .i64 0, .int .i64 0, .int .i64 0, .int .i64 0, .int .i64 0, .int .i64 0, .bool false, .int .i64 0, .slice Aw 0 cw, .slice Av 0 cv] 30) := ⟨_, rfl⟩
  have hb12 : Below w11.heap.size w11 W12 := by rw [hW12]; exact H15.out.trans ((below_alloc w15 _).mono H15.out.size)
  rw [← hW12]
  have H12' := Lib.hid (And.intro (H11.out.2.2.2.2.trans (hb12.mono H11.out.2.2.2.2.size)) (own_below H11.out.1 hb12))
  clear hW12 hb12
  by_cases hy : by_ = 0
  · have yI : ((by_.toNat : Int) != 0) = false := by rw [hy]; rfl
    clear C4
    go_wp2_with (first
      | (go_at_call 10; go_must (refine (sureM C _ (HS.out _ HN2.out)).mono ?_; rintro y wz ⟨rfl, hb⟩; have HZ := Lib.hid (HN2.out.trans (hb.mono HN2.out.size)); clear hb))
      | (go_at_call 18; have h0 := HN1.out; go_must (refine (num_some 3 _ (HS.out _ HN1.out).std_).mono ?_; rintro y wy ⟨rfl, hb⟩; have HN2 := Lib.hid (HN1.out.trans (hb.mono HN1.out.size)); clear hb))
      | (go_at_call 18; go_must (refine (num_some 3 _ (HS.out _ H12'.out.1).std_).mono ?_; rintro y wx ⟨rfl, hb⟩; have HN1 := Lib.hid (H12'.out.1.trans (hb.mono H12'.out.1.size)); clear hb)))
    go_ret
    exact ⟨rfl, HE.out.1.trans (HZ.out.mono HE.out.1.size)⟩

  · have hy0 : by_.toNat ≠ 0 := fun e => hy (UInt8.toNat_inj.1 e)
    have yI : ((by_.toNat : Int) != 0) = true := by rw [bne_iff_ne]; omega
    have CT := C4 hy
    clear C4 hy0
    have kcm : (n : Int) ≤ (cm : Int) := by have := H11.out.2.2.1; omega
    have kin2 : (i : Int) < (n : Int) := by have := HII.out.1; omega
    have hfr := own_cut H12'.out.2 (k := n) (by omega)
    have hcel : (Lib.byteCells (S ++ [by_])).take n = Lib.byteCells S := by
      rw [HN.out.2.1]
      unfold Lib.byteCells
      rw [List.map_append, List.take_left' (by simp)]
    rw [hcel] at hfr
    have cx : W12.cell? ⟨gm, i, none⟩ = some (.int .u8 ((S[i].toNat : Nat) : Int)) := by
      rw [hfr.cellAt i (by have := HII.out.1; omega), byteCells_get, List.getElem?_eq_getElem kin]
      rfl
    have cf := hfr.frozenAt i
    have hxor : bits .xor .u8 ((S[i].toNat : Nat) : Int) ((by_.toNat : Nat) : Int) = (((S[i].toNat ^^^ by_.toNat : Nat)) : Int) := u8_xor_nat _ _ (S[i].toNat_lt) (by_.toNat_lt)
    have hstored := hfr.stored i (.int .u8 (((S[i].toNat ^^^ by_.toNat : Nat)) : Int))
    have hset : (Lib.byteCells S).set i (.int .u8 (((S[i].toNat ^^^ by_.toNat : Nat)) : Int)) = Lib.byteCells (S.set i (S[i] ^^^ by_)) := by rw [← UInt8.toNat_xor, byteCells_set]
    rw [hset] at hstored
    have HST := Lib.hid hstored
    clear hfr hcel hstored hset hy
    generalize S[i].toNat ^^^ by_.toNat = z at hxor HST
    generalize S[i].toNat = x at cx hxor
    go_upto_region 15 with fail
    obtain ⟨W14, hW14⟩ : ∃ W, W = W12.setCell ⟨gm, i, none⟩ (.int .u8 (z : Int)) := ⟨_, rfl⟩
    rw [← hW14] at HST ⊢
    have hl14 : (S.set i (S[i] ^^^ by_)).length = n := by rw [List.length_set]; exact HN.out.2.1.symm
    have hB14 : Bys W14 (.slice (some ⟨gm, 0, none⟩) n cm) (S.set i (S[i] ^^^ by_)) := Bys.of_own (by rw [hl14]; exact HST.out.1)
    have hb14 : Below W1.heap.size W1 W14 := H12'.out.1.grown HST.out.2 H12'.out.1.size (fun q hq => by injection hq with hq; have h1 := H11.out.2.1; have h2 := H9'.out.1.size; omega)
    have H14' := Lib.hid (And.intro hb14 hB14)
    clear hW14 hl14 hB14 hb14 cx cf hxor
    go_upto_region 16 with (go_at_call 20; go_must (refine (CT.out (some ⟨gm, 0, none⟩) cm W14 (HS.out _ H14'.out.1) H14'.out.2).mono ?_; rintro y w17 ⟨Ap, cp, Aq, cq, rfl, hb⟩; have H17 := Lib.hid hb; clear hb))
    obtain ⟨W16, hW16⟩ : ∃ W, W = w17.alloc (.cells #[.int .i64 0, .int .i64 0, .int .i64 0, .int .i64 0, .int .i64 0, .int .i64 0, .int .i64 0, .int .i64 0, .bool false, .int .i64 0, .slice Ap 0 cp, .slice Aq 0 cq] 30) := ⟨_, rfl⟩
    have hb16 : Below W14.heap.size W14 W16 := by rw [hW16]; exact H17.out.trans ((below_alloc w17 _).mono H17.out.size)
    rw [← hW16]
    have H16 := Lib.hid (H14'.out.1.trans (hb16.mono H14'.out.1.size))
    clear hW16 hb16
    go_upto_region 18 with (go_at_call 18; go_must (refine (num_some 3 _ (HS.out _ H16.out).std_).mono ?_; rintro y w18 ⟨rfl, hb⟩; have H18 := Lib.hid (H16.out.trans (hb.mono H16.out.size)); clear hb))
    go_wp2_with (first
      | (go_at_call 10; go_must (refine (sureM C _ (HS.out _ HN2.out)).mono ?_; rintro y wz ⟨rfl, hb⟩; have HZ := Lib.hid (HN2.out.trans (hb.mono HN2.out.size)); clear hb))
      | (go_at_call 18; have h0 := HN1.out; go_must (refine (num_some 3 _ (HS.out _ HN1.out).std_).mono ?_; rintro y wy ⟨rfl, hb⟩; have HN2 := Lib.hid (HN1.out.trans (hb.mono HN1.out.size)); clear hb))
      | (go_at_call 18; go_must (refine (num_some 3 _ (HS.out _ H18.out).std_).mono ?_; rintro y wx ⟨rfl, hb⟩; have HN1 := Lib.hid (H18.out.trans (hb.mono H18.out.size)); clear hb)))
    go_ret
    exact ⟨rfl, HE.out.1.trans (HZ.out.mono HE.out.1.size)⟩

end Go.Proofs.YtfblgkcipnkhaaaGreatDoor.pk

/-
  The document's own bytes of a message.
-/
namespace Go.Proofs.YtfblgkcipnkhaaaGreatDoor.pk
open Go Go.RowKit
set_option maxRecDepth 100000

theorem encEs_next {l : List En} {j : Nat} (h : j < l.length) : encEs (l.take (j + 1)) = encEs (l.take j) ++ lBytes (encE l[j]) := by
  unfold encEs
  rw [List.take_succ_eq_append_getElem h, List.flatMap_append]
  simp

set_option maxHeartbeats 16000000 in
theorem RefEncM_any (m : Ms) (Ad : Option Addr) (nd cd : Nat) (Ae : Option Addr) (ne ce : Nat) (w : World) (h : InM m Ad nd cd Ae ne ce w) (hsd : nd ≤ 10000) (hse : SmallE 200 25663 m.ents) (n : Nat) (hn : n = (encM m).length) :
    Calls Tryz.prog 17 #[.agg #[.int .i64 m.kind, .int .i64 m.frm, .int .i64 m.to, .int .i64 m.term, .int .i64 m.index, .int .i64 m.logTerm, .int .i64 m.commit, .int .i64 m.round, .bool m.ok, .int .i64 m.off, .slice Ad nd cd, .slice Ae ne ce]] w fun x w' => ∃ A1 c1, x = .returned (.slice A1 n c1) ∧ Bys w' (.slice A1 n c1) (encM m) ∧ Below w.heap.size w w' := by
  have hnd := h.data.len_
  obtain ⟨hne, hne1, hne2⟩ := h.ents.len_
  obtain ⟨W1, g, hW1, hg, hb1, hq, hsz⟩ := one_box w (.cells #[.int .i64 m.kind, .int .i64 m.frm, .int .i64 m.to, .int .i64 m.term, .int .i64 m.index, .int .i64 m.logTerm, .int .i64 m.commit, .int .i64 m.round, .bool m.ok, .int .i64 m.off, .slice Ad nd cd, .slice Ae ne ce] 25)
  have HW := Lib.hid (And.intro hW1 hg)
  have HE := Lib.hid hb1
  have HCL := Lib.hid fun W (hW : Below W1.heap.size W1 W) => cells12 ((hW.block g (obj_lt hq)).trans hq)
  obtain ⟨u_kind, hu_kind⟩ : ∃ u, u = u64 m.kind := ⟨_, rfl⟩
  have k_kind := wrap_u64 m.kind
  rw [← hu_kind] at k_kind
  have l_kind : u_kind < 18446744073709551616 := by rw [hu_kind]; exact u64_lt _
  obtain ⟨u_frm, hu_frm⟩ : ∃ u, u = u64 m.frm := ⟨_, rfl⟩
  have k_frm := wrap_u64 m.frm
  rw [← hu_frm] at k_frm
  have l_frm : u_frm < 18446744073709551616 := by rw [hu_frm]; exact u64_lt _
  obtain ⟨u_to, hu_to⟩ : ∃ u, u = u64 m.to := ⟨_, rfl⟩
  have k_to := wrap_u64 m.to
  rw [← hu_to] at k_to
  have l_to : u_to < 18446744073709551616 := by rw [hu_to]; exact u64_lt _
  obtain ⟨u_term, hu_term⟩ : ∃ u, u = u64 m.term := ⟨_, rfl⟩
  have k_term := wrap_u64 m.term
  rw [← hu_term] at k_term
  have l_term : u_term < 18446744073709551616 := by rw [hu_term]; exact u64_lt _
  obtain ⟨u_index, hu_index⟩ : ∃ u, u = u64 m.index := ⟨_, rfl⟩
  have k_index := wrap_u64 m.index
  rw [← hu_index] at k_index
  have l_index : u_index < 18446744073709551616 := by rw [hu_index]; exact u64_lt _
  obtain ⟨u_logTerm, hu_logTerm⟩ : ∃ u, u = u64 m.logTerm := ⟨_, rfl⟩
  have k_logTerm := wrap_u64 m.logTerm
  rw [← hu_logTerm] at k_logTerm
  have l_logTerm : u_logTerm < 18446744073709551616 := by rw [hu_logTerm]; exact u64_lt _
  obtain ⟨u_commit, hu_commit⟩ : ∃ u, u = u64 m.commit := ⟨_, rfl⟩
  have k_commit := wrap_u64 m.commit
  rw [← hu_commit] at k_commit
  have l_commit : u_commit < 18446744073709551616 := by rw [hu_commit]; exact u64_lt _
  obtain ⟨u_round, hu_round⟩ : ∃ u, u = u64 m.round := ⟨_, rfl⟩
  have k_round := wrap_u64 m.round
  rw [← hu_round] at k_round
  have l_round : u_round < 18446744073709551616 := by rw [hu_round]; exact u64_lt _
  obtain ⟨u_off, hu_off⟩ : ∃ u, u = u64 m.off := ⟨_, rfl⟩
  have k_off := wrap_u64 m.off
  rw [← hu_off] at k_off
  have l_off : u_off < 18446744073709551616 := by rw [hu_off]; exact u64_lt _
  obtain ⟨b1, hb1'⟩ : ∃ b, b = [] ++ lUint u_kind := ⟨_, rfl⟩
  have z1 : b1.length ≤ 22 := by rw [hb1', List.length_append]; have := dec_len _ l_kind; simp only [List.length_nil]; omega
  obtain ⟨m1, hm1⟩ : ∃ q, q = b1.length := ⟨_, rfl⟩
  obtain ⟨b2, hb2'⟩ : ∃ b, b = b1 ++ lUint u_frm := ⟨_, rfl⟩
  have z2 : b2.length ≤ 44 := by rw [hb2', List.length_append]; have := dec_len _ l_frm; omega
  obtain ⟨m2, hm2⟩ : ∃ q, q = b2.length := ⟨_, rfl⟩
  obtain ⟨b3, hb3'⟩ : ∃ b, b = b2 ++ lUint u_to := ⟨_, rfl⟩
  have z3 : b3.length ≤ 66 := by rw [hb3', List.length_append]; have := dec_len _ l_to; omega
  obtain ⟨m3, hm3⟩ : ∃ q, q = b3.length := ⟨_, rfl⟩
  obtain ⟨b4, hb4'⟩ : ∃ b, b = b3 ++ lUint u_term := ⟨_, rfl⟩
  have z4 : b4.length ≤ 88 := by rw [hb4', List.length_append]; have := dec_len _ l_term; omega
  obtain ⟨m4, hm4⟩ : ∃ q, q = b4.length := ⟨_, rfl⟩
  obtain ⟨b5, hb5'⟩ : ∃ b, b = b4 ++ lUint u_index := ⟨_, rfl⟩
  have z5 : b5.length ≤ 110 := by rw [hb5', List.length_append]; have := dec_len _ l_index; omega
  obtain ⟨m5, hm5⟩ : ∃ q, q = b5.length := ⟨_, rfl⟩
  obtain ⟨b6, hb6'⟩ : ∃ b, b = b5 ++ lUint u_logTerm := ⟨_, rfl⟩
  have z6 : b6.length ≤ 132 := by rw [hb6', List.length_append]; have := dec_len _ l_logTerm; omega
  obtain ⟨m6, hm6⟩ : ∃ q, q = b6.length := ⟨_, rfl⟩
  obtain ⟨b7, hb7'⟩ : ∃ b, b = b6 ++ lUint u_commit := ⟨_, rfl⟩
  have z7 : b7.length ≤ 154 := by rw [hb7', List.length_append]; have := dec_len _ l_commit; omega
  obtain ⟨m7, hm7⟩ : ∃ q, q = b7.length := ⟨_, rfl⟩
  obtain ⟨b8, hb8'⟩ : ∃ b, b = b7 ++ lUint u_round := ⟨_, rfl⟩
  have z8 : b8.length ≤ 176 := by rw [hb8', List.length_append]; have := dec_len _ l_round; omega
  obtain ⟨m8, hm8⟩ : ∃ q, q = b8.length := ⟨_, rfl⟩
  obtain ⟨b9, hb9'⟩ : ∃ b, b = b8 ++ lBool m.ok := ⟨_, rfl⟩
  have z9 : b9.length ≤ 177 := by rw [hb9', List.length_append]; have : (lBool m.ok).length = 1 := rfl; omega
  obtain ⟨m9, hm9⟩ : ∃ q, q = b9.length := ⟨_, rfl⟩
  obtain ⟨b10, hb10'⟩ : ∃ b, b = b9 ++ lUint u_off := ⟨_, rfl⟩
  have z10 : b10.length ≤ 199 := by rw [hb10', List.length_append]; have := dec_len _ l_off; omega
  obtain ⟨m10, hm10⟩ : ∃ q, q = b10.length := ⟨_, rfl⟩
  obtain ⟨b11, hb11'⟩ : ∃ b, b = b10 ++ lBytes m.data := ⟨_, rfl⟩
  have z11 : b11.length ≤ 221+ nd := by rw [hb11', List.length_append]; have := digits_len nd (by omega); unfold lBytes lHead; rw [← hnd]; simp only [List.length_append, List.length_cons, List.length_nil]; omega
  obtain ⟨m11, hm11⟩ : ∃ q, q = b11.length := ⟨_, rfl⟩
  have hhead : headM m = b11 := by unfold headM; rw [hb11', hb10', hb9', hb8', hb7', hb6', hb5', hb4', hb3', hb2', hb1', List.nil_append, ← hu_kind, ← hu_frm, ← hu_to, ← hu_term, ← hu_index, ← hu_logTerm, ← hu_commit, ← hu_round, ← hu_off]
  have C1 := Lib.hid fun W => RefUint_any none 0 0 u_kind l_kind [] W (Bys.nil_ W) (by simp) m1 (by rw [hm1, hb1'])
  rw [← hb1'] at C1
  have C2 := Lib.hid fun A c W h => RefUint_any A m1 c u_frm l_frm b1 W h (by omega) m2 (by rw [hm2, hb2'])
  simp only [← hb2'] at C2
  have C3 := Lib.hid fun A c W h => RefUint_any A m2 c u_to l_to b2 W h (by omega) m3 (by rw [hm3, hb3'])
  simp only [← hb3'] at C3
  have C4 := Lib.hid fun A c W h => RefUint_any A m3 c u_term l_term b3 W h (by omega) m4 (by rw [hm4, hb4'])
  simp only [← hb4'] at C4
  have C5 := Lib.hid fun A c W h => RefUint_any A m4 c u_index l_index b4 W h (by omega) m5 (by rw [hm5, hb5'])
  simp only [← hb5'] at C5
  have C6 := Lib.hid fun A c W h => RefUint_any A m5 c u_logTerm l_logTerm b5 W h (by omega) m6 (by rw [hm6, hb6'])
  simp only [← hb6'] at C6
  have C7 := Lib.hid fun A c W h => RefUint_any A m6 c u_commit l_commit b6 W h (by omega) m7 (by rw [hm7, hb7'])
  simp only [← hb7'] at C7
  have C8 := Lib.hid fun A c W h => RefUint_any A m7 c u_round l_round b7 W h (by omega) m8 (by rw [hm8, hb8'])
  simp only [← hb8'] at C8
  have C9 := Lib.hid fun A c W h => RefBool_any A m8 c b8 m.ok W h (by omega) m9 (by rw [hm9, hb9'])
  simp only [← hb9'] at C9
  have C10 := Lib.hid fun A c W h => RefUint_any A m9 c u_off l_off b9 W h (by omega) m10 (by rw [hm10, hb10'])
  simp only [← hb10'] at C10
  have C11 := Lib.hid fun A c W h h2 => RefBytes_any A m10 c b10 Ad nd cd m.data W h h2 (by omega) (by omega) m11 (by rw [hm11, hb11'])
  simp only [← hb11'] at C11
  obtain ⟨b12, hb12'⟩ : ∃ b, b = b11 ++ lUint ne := ⟨_, rfl⟩
  have z12 : b12.length ≤ 20000 := by rw [hb12', List.length_append]; have := dec_len ne (by omega); omega
  obtain ⟨m12, hm12⟩ : ∃ q, q = b12.length := ⟨_, rfl⟩
  have C12 := Lib.hid fun A c W h => RefUint_any A m11 c ne (by omega) b11 W h (by omega) m12 (by rw [hm12, hb12'])
  simp only [← hb12'] at C12
  have hall : encM m = b12 ++ encEs m.ents := by unfold encM; rw [hhead, hb12', hne]
  have kne : IntKind.u64.wrap (ne : Int) = (ne : Int) := by rw [IntKind.wrap_u64]; omega
  have in2 : (ne : Int) ≤ 9223372036854775807 := by omega
  have HN := Lib.hid (And.intro (h.below hb1) (And.intro hne (And.intro hse (And.intro hall (And.intro z12 (And.intro hn hm12))))))
  clear h hnd hne hne1 hne2 hse hall z12 hn hW1 hg hb1 hq hsz hhead hm12 hb12' hu_kind l_kind hu_frm l_frm hu_to l_to hu_term l_term hu_index l_index hu_logTerm l_logTerm hu_commit l_commit hu_round l_round hu_off l_off z1 hm1 hb1' z2 hm2 hb2' z3 hm3 hb3' z4 hm4 hb4' z5 hm5 hb5' z6 hm6 hb6' z7 hm7 hb7' z8 hm8 hb8' z9 hm9 hb9' z10 hm10 hb10' z11 hm11 hb11'
  go_enter Tryz.func17, Tryz.ntmps17
  go_upto_region 1 with fail
  rw [← HW.out.1, ← HW.out.2]
  have hd0 : Below W1.heap.size W1 W1.drew := (Below.refl _ _).drew
  refine wp_region_held_drew (S := fun W => Below W1.heap.size W1 W) (by kernel_rfl) hd0 (fun hHeld => ?_)
  refine wpAnyH_take (i := 0) (oi := { dst := Option.some 5, op := Op.fieldAddr 25 (Operand.tmp 1) 0, type := 0, pos := "ref.go:51", after := #[], guard := Option.none }) (v := .pointer (some ⟨g, 0, none⟩)) rfl (by kernel_rfl) (by kernel_rfl) (by kernel_rfl) (fun _ _ _ h => h) (Or.inl ⟨by rfl, ?_⟩) hHeld ?_
  · intro W hSw
    obtain ⟨z0, z1, z2, z3, z4, z5, z6, z7, z8, z9, z10, z11⟩ := HCL.out _ hSw
    go_simp
  simp only [Act.put, List.setIfInBounds_toArray, List.set_cons_zero, List.set_cons_succ]
  refine wpAnyH_take (i := 1) (oi := { dst := Option.some 6, op := Op.load 3 (Operand.tmp 5), type := 3, pos := "ref.go:51", after := #[{ on := 0, ground := Ground.data }], guard := Option.none }) (v := .int .i64 m.kind) rfl (by kernel_rfl) (by kernel_rfl) (by kernel_rfl) (fun _ _ _ h => h) (Or.inl ⟨by rfl, ?_⟩) hHeld ?_
  · intro W hSw
    obtain ⟨z0, z1, z2, z3, z4, z5, z6, z7, z8, z9, z10, z11⟩ := HCL.out _ hSw
    go_simp
  simp only [Act.put, List.setIfInBounds_toArray, List.set_cons_zero, List.set_cons_succ]
  refine wpAnyH_take (i := 2) (oi := { dst := Option.some 7, op := Op.convert 3 51 (Operand.tmp 6), type := 51, pos := "ref.go:51", after := #[{ on := 1, ground := Ground.data }], guard := Option.none }) (v := .int .u64 (u_kind : Int)) rfl (by kernel_rfl) (by kernel_rfl) (by kernel_rfl) (fun _ _ _ h => h) (Or.inl ⟨by rfl, ?_⟩) hHeld ?_
  · intro W hSw
    obtain ⟨z0, z1, z2, z3, z4, z5, z6, z7, z8, z9, z10, z11⟩ := HCL.out _ hSw
    go_simp
  simp only [Act.put, List.setIfInBounds_toArray, List.set_cons_zero, List.set_cons_succ]
  refine wpAnyH_take (i := 4) (oi := { dst := Option.some 9, op := Op.fieldAddr 25 (Operand.tmp 1) 1, type := 0, pos := "ref.go:51", after := #[], guard := Option.none }) (v := .pointer (some ⟨g, 1, none⟩)) rfl (by kernel_rfl) (by kernel_rfl) (by kernel_rfl) (fun _ _ _ h => h) (Or.inl ⟨by rfl, ?_⟩) hHeld ?_
  · intro W hSw
    obtain ⟨z0, z1, z2, z3, z4, z5, z6, z7, z8, z9, z10, z11⟩ := HCL.out _ hSw
    go_simp
  simp only [Act.put, List.setIfInBounds_toArray, List.set_cons_zero, List.set_cons_succ]
  refine wpAnyH_take (i := 5) (oi := { dst := Option.some 10, op := Op.load 3 (Operand.tmp 9), type := 3, pos := "ref.go:51", after := #[{ on := 4, ground := Ground.data }], guard := Option.none }) (v := .int .i64 m.frm) rfl (by kernel_rfl) (by kernel_rfl) (by kernel_rfl) (fun _ _ _ h => h) (Or.inl ⟨by rfl, ?_⟩) hHeld ?_
  · intro W hSw
    obtain ⟨z0, z1, z2, z3, z4, z5, z6, z7, z8, z9, z10, z11⟩ := HCL.out _ hSw
    go_simp
  simp only [Act.put, List.setIfInBounds_toArray, List.set_cons_zero, List.set_cons_succ]
  refine wpAnyH_take (i := 6) (oi := { dst := Option.some 11, op := Op.convert 3 51 (Operand.tmp 10), type := 51, pos := "ref.go:51", after := #[{ on := 5, ground := Ground.data }], guard := Option.none }) (v := .int .u64 (u_frm : Int)) rfl (by kernel_rfl) (by kernel_rfl) (by kernel_rfl) (fun _ _ _ h => h) (Or.inl ⟨by rfl, ?_⟩) hHeld ?_
  · intro W hSw
    obtain ⟨z0, z1, z2, z3, z4, z5, z6, z7, z8, z9, z10, z11⟩ := HCL.out _ hSw
    go_simp
  simp only [Act.put, List.setIfInBounds_toArray, List.set_cons_zero, List.set_cons_succ]
  refine wpAnyH_take (i := 8) (oi := { dst := Option.some 13, op := Op.fieldAddr 25 (Operand.tmp 1) 2, type := 0, pos := "ref.go:51", after := #[], guard := Option.none }) (v := .pointer (some ⟨g, 2, none⟩)) rfl (by kernel_rfl) (by kernel_rfl) (by kernel_rfl) (fun _ _ _ h => h) (Or.inl ⟨by rfl, ?_⟩) hHeld ?_
  · intro W hSw
    obtain ⟨z0, z1, z2, z3, z4, z5, z6, z7, z8, z9, z10, z11⟩ := HCL.out _ hSw
    go_simp
  simp only [Act.put, List.setIfInBounds_toArray, List.set_cons_zero, List.set_cons_succ]
  refine wpAnyH_take (i := 9) (oi := { dst := Option.some 14, op := Op.load 3 (Operand.tmp 13), type := 3, pos := "ref.go:51", after := #[{ on := 8, ground := Ground.data }], guard := Option.none }) (v := .int .i64 m.to) rfl (by kernel_rfl) (by kernel_rfl) (by kernel_rfl) (fun _ _ _ h => h) (Or.inl ⟨by rfl, ?_⟩) hHeld ?_
  · intro W hSw
    obtain ⟨z0, z1, z2, z3, z4, z5, z6, z7, z8, z9, z10, z11⟩ := HCL.out _ hSw
    go_simp
  simp only [Act.put, List.setIfInBounds_toArray, List.set_cons_zero, List.set_cons_succ]
  refine wpAnyH_take (i := 10) (oi := { dst := Option.some 15, op := Op.convert 3 51 (Operand.tmp 14), type := 51, pos := "ref.go:51", after := #[{ on := 9, ground := Ground.data }], guard := Option.none }) (v := .int .u64 (u_to : Int)) rfl (by kernel_rfl) (by kernel_rfl) (by kernel_rfl) (fun _ _ _ h => h) (Or.inl ⟨by rfl, ?_⟩) hHeld ?_
  · intro W hSw
    obtain ⟨z0, z1, z2, z3, z4, z5, z6, z7, z8, z9, z10, z11⟩ := HCL.out _ hSw
    go_simp
  simp only [Act.put, List.setIfInBounds_toArray, List.set_cons_zero, List.set_cons_succ]
  refine wpAnyH_take (i := 12) (oi := { dst := Option.some 17, op := Op.fieldAddr 25 (Operand.tmp 1) 3, type := 0, pos := "ref.go:51", after := #[], guard := Option.none }) (v := .pointer (some ⟨g, 3, none⟩)) rfl (by kernel_rfl) (by kernel_rfl) (by kernel_rfl) (fun _ _ _ h => h) (Or.inl ⟨by rfl, ?_⟩) hHeld ?_
  · intro W hSw
    obtain ⟨z0, z1, z2, z3, z4, z5, z6, z7, z8, z9, z10, z11⟩ := HCL.out _ hSw
    go_simp
  simp only [Act.put, List.setIfInBounds_toArray, List.set_cons_zero, List.set_cons_succ]
  refine wpAnyH_take (i := 13) (oi := { dst := Option.some 18, op := Op.load 3 (Operand.tmp 17), type := 3, pos := "ref.go:51", after := #[{ on := 12, ground := Ground.data }], guard := Option.none }) (v := .int .i64 m.term) rfl (by kernel_rfl) (by kernel_rfl) (by kernel_rfl) (fun _ _ _ h => h) (Or.inl ⟨by rfl, ?_⟩) hHeld ?_
  · intro W hSw
    obtain ⟨z0, z1, z2, z3, z4, z5, z6, z7, z8, z9, z10, z11⟩ := HCL.out _ hSw
    go_simp
  simp only [Act.put, List.setIfInBounds_toArray, List.set_cons_zero, List.set_cons_succ]
  refine wpAnyH_take (i := 14) (oi := { dst := Option.some 19, op := Op.convert 3 51 (Operand.tmp 18), type := 51, pos := "ref.go:51", after := #[{ on := 13, ground := Ground.data }], guard := Option.none }) (v := .int .u64 (u_term : Int)) rfl (by kernel_rfl) (by kernel_rfl) (by kernel_rfl) (fun _ _ _ h => h) (Or.inl ⟨by rfl, ?_⟩) hHeld ?_
  · intro W hSw
    obtain ⟨z0, z1, z2, z3, z4, z5, z6, z7, z8, z9, z10, z11⟩ := HCL.out _ hSw
    go_simp
  simp only [Act.put, List.setIfInBounds_toArray, List.set_cons_zero, List.set_cons_succ]
  refine wpAnyH_ready (rs := [3]) (by kernel_rfl) (by simp) ?_
  refine AllReadyH.cons (o := { dst := Option.some 8, op := Op.call { callee := Callee.value (Operand.func 48), args := #[Operand.const (Value.slice Option.none 0 0), Operand.tmp 7], argTypes := #[22, 51] }, type := 22, pos := "ref.go:51", after := #[{ on := 2, ground := Ground.data }], guard := Option.none }) rfl (fun K hK => ?_) AllReadyH.nil
  go_simp
  refine (C1.out _).mono ?_
  rintro y w1 ⟨A1, c1, rfl, hi, hb⟩
  have hb : Below W1.heap.size W1 w1 := hd0.trans hb
  have H1 := Lib.hid (And.intro hi hb)
  refine hK.out _ _ hb (fun hHeld2 => ?_)
  clear hK K hHeld hi hb
  have hHeld := hHeld2
  clear hHeld2
  refine wpAnyH_ready (rs := [7]) (by kernel_rfl) (by simp) ?_
  refine AllReadyH.cons (o := { dst := Option.some 12, op := Op.call { callee := Callee.value (Operand.func 48), args := #[Operand.tmp 8, Operand.tmp 11], argTypes := #[22, 51] }, type := 22, pos := "ref.go:51", after := #[{ on := 3, ground := Ground.data }, { on := 6, ground := Ground.data }, { on := 3, ground := Ground.chain }], guard := Option.none }) rfl (fun K hK => ?_) AllReadyH.nil
  go_simp
  refine (C2.out _ _ _ H1.out.1).mono ?_
  rintro y w2 ⟨A2, c2, rfl, hi, hb⟩
  have hb : Below W1.heap.size W1 w2 := H1.out.2.trans (hb.mono H1.out.2.size)
  have H2 := Lib.hid (And.intro hi hb)
  refine hK.out _ _ hb (fun hHeld2 => ?_)
  clear hK K hHeld hi hb
  have hHeld := hHeld2
  clear hHeld2
  refine wpAnyH_ready (rs := [11]) (by kernel_rfl) (by simp) ?_
  refine AllReadyH.cons (o := { dst := Option.some 16, op := Op.call { callee := Callee.value (Operand.func 48), args := #[Operand.tmp 12, Operand.tmp 15], argTypes := #[22, 51] }, type := 22, pos := "ref.go:51", after := #[{ on := 7, ground := Ground.data }, { on := 10, ground := Ground.data }, { on := 7, ground := Ground.chain }], guard := Option.none }) rfl (fun K hK => ?_) AllReadyH.nil
  go_simp
  refine (C3.out _ _ _ H2.out.1).mono ?_
  rintro y w3 ⟨A3, c3, rfl, hi, hb⟩
  have hb : Below W1.heap.size W1 w3 := H2.out.2.trans (hb.mono H2.out.2.size)
  have H3 := Lib.hid (And.intro hi hb)
  refine hK.out _ _ hb (fun hHeld2 => ?_)
  clear hK K hHeld hi hb
  have hHeld := hHeld2
  clear hHeld2
  refine wpAnyH_ready (rs := [15]) (by kernel_rfl) (by simp) ?_
  refine AllReadyH.cons (o := { dst := Option.some 20, op := Op.call { callee := Callee.value (Operand.func 48), args := #[Operand.tmp 16, Operand.tmp 19], argTypes := #[22, 51] }, type := 22, pos := "ref.go:51", after := #[{ on := 11, ground := Ground.data }, { on := 14, ground := Ground.data }, { on := 11, ground := Ground.chain }], guard := Option.none }) rfl (fun K hK => ?_) AllReadyH.nil
  go_simp
  refine (C4.out _ _ _ H3.out.1).mono ?_
  rintro y w4 ⟨A4, c4, rfl, hi, hb⟩
  have hb : Below W1.heap.size W1 w4 := H3.out.2.trans (hb.mono H3.out.2.size)
  have H4 := Lib.hid (And.intro hi hb)
  refine hK.out _ _ hb (fun hHeld2 => ?_)
  clear hK K hHeld hi hb
  have hHeld := hHeld2
  clear hHeld2
  refine wpAnyH_take (i := 16) (oi := { dst := Option.some 3, op := Op.assign (Operand.tmp 20), type := 22, pos := "ref.go:51", after := #[{ on := 15, ground := Ground.data }, { on := 15, ground := Ground.chain }, { on := 0, ground := Ground.phase }, { on := 1, ground := Ground.phase }, { on := 2, ground := Ground.phase }, { on := 3, ground := Ground.phase }, { on := 4, ground := Ground.phase }, { on := 5, ground := Ground.phase }, { on := 6, ground := Ground.phase }, { on := 7, ground := Ground.phase }, { on := 8, ground := Ground.phase }, { on := 9, ground := Ground.phase }, { on := 10, ground := Ground.phase }, { on := 11, ground := Ground.phase }, { on := 12, ground := Ground.phase }, { on := 13, ground := Ground.phase }, { on := 14, ground := Ground.phase }, { on := 15, ground := Ground.phase }], guard := Option.none }) (v := .slice A4 m4 c4) rfl (by kernel_rfl) (by kernel_rfl) (by kernel_rfl) (fun _ _ _ h => h) (Or.inl ⟨by rfl, ?_⟩) hHeld ?_
  · intro W hSw
    go_simp
  simp only [Act.put, List.setIfInBounds_toArray, List.set_cons_zero, List.set_cons_succ]
  clear hHeld
  refine wpAnyH_done (by kernel_rfl) ?_ _
  clear hd0
  go_upto_region 2 with fail
  have hd1 : Below w4.heap.size w4 w4.drew := (Below.refl _ _).drew
  have hd0 : Below W1.heap.size W1 w4.drew := H4.out.2.drew
  refine wp_region_held_drew (S := fun W => Below W1.heap.size W1 W) (by kernel_rfl) hd0 (fun hHeld => ?_)
  refine wpAnyH_take (i := 0) (oi := { dst := Option.some 21, op := Op.move (Operand.tmp 3), type := 22, pos := "ref.go:52", after := #[], guard := Option.none }) (v := .slice A4 m4 c4) rfl (by kernel_rfl) (by kernel_rfl) (by kernel_rfl) (fun _ _ _ h => h) (Or.inl ⟨by rfl, ?_⟩) hHeld ?_
  · intro W hSw
    go_simp
  simp only [Act.put, List.setIfInBounds_toArray, List.set_cons_zero, List.set_cons_succ]
  refine wpAnyH_take (i := 1) (oi := { dst := Option.some 22, op := Op.fieldAddr 25 (Operand.tmp 1) 4, type := 0, pos := "ref.go:52", after := #[], guard := Option.none }) (v := .pointer (some ⟨g, 4, none⟩)) rfl (by kernel_rfl) (by kernel_rfl) (by kernel_rfl) (fun _ _ _ h => h) (Or.inl ⟨by rfl, ?_⟩) hHeld ?_
  · intro W hSw
    obtain ⟨z0, z1, z2, z3, z4, z5, z6, z7, z8, z9, z10, z11⟩ := HCL.out _ hSw
    go_simp
  simp only [Act.put, List.setIfInBounds_toArray, List.set_cons_zero, List.set_cons_succ]
  refine wpAnyH_take (i := 2) (oi := { dst := Option.some 23, op := Op.load 3 (Operand.tmp 22), type := 3, pos := "ref.go:52", after := #[{ on := 1, ground := Ground.data }], guard := Option.none }) (v := .int .i64 m.index) rfl (by kernel_rfl) (by kernel_rfl) (by kernel_rfl) (fun _ _ _ h => h) (Or.inl ⟨by rfl, ?_⟩) hHeld ?_
  · intro W hSw
    obtain ⟨z0, z1, z2, z3, z4, z5, z6, z7, z8, z9, z10, z11⟩ := HCL.out _ hSw
    go_simp
  simp only [Act.put, List.setIfInBounds_toArray, List.set_cons_zero, List.set_cons_succ]
  refine wpAnyH_take (i := 3) (oi := { dst := Option.some 24, op := Op.convert 3 51 (Operand.tmp 23), type := 51, pos := "ref.go:52", after := #[{ on := 2, ground := Ground.data }], guard := Option.none }) (v := .int .u64 (u_index : Int)) rfl (by kernel_rfl) (by kernel_rfl) (by kernel_rfl) (fun _ _ _ h => h) (Or.inl ⟨by rfl, ?_⟩) hHeld ?_
  · intro W hSw
    obtain ⟨z0, z1, z2, z3, z4, z5, z6, z7, z8, z9, z10, z11⟩ := HCL.out _ hSw
    go_simp
  simp only [Act.put, List.setIfInBounds_toArray, List.set_cons_zero, List.set_cons_succ]
  refine wpAnyH_take (i := 5) (oi := { dst := Option.some 26, op := Op.fieldAddr 25 (Operand.tmp 1) 5, type := 0, pos := "ref.go:52", after := #[], guard := Option.none }) (v := .pointer (some ⟨g, 5, none⟩)) rfl (by kernel_rfl) (by kernel_rfl) (by kernel_rfl) (fun _ _ _ h => h) (Or.inl ⟨by rfl, ?_⟩) hHeld ?_
  · intro W hSw
    obtain ⟨z0, z1, z2, z3, z4, z5, z6, z7, z8, z9, z10, z11⟩ := HCL.out _ hSw
    go_simp
  simp only [Act.put, List.setIfInBounds_toArray, List.set_cons_zero, List.set_cons_succ]
  refine wpAnyH_take (i := 6) (oi := { dst := Option.some 27, op := Op.load 3 (Operand.tmp 26), type := 3, pos := "ref.go:52", after := #[{ on := 5, ground := Ground.data }], guard := Option.none }) (v := .int .i64 m.logTerm) rfl (by kernel_rfl) (by kernel_rfl) (by kernel_rfl) (fun _ _ _ h => h) (Or.inl ⟨by rfl, ?_⟩) hHeld ?_
  · intro W hSw
    obtain ⟨z0, z1, z2, z3, z4, z5, z6, z7, z8, z9, z10, z11⟩ := HCL.out _ hSw
    go_simp
  simp only [Act.put, List.setIfInBounds_toArray, List.set_cons_zero, List.set_cons_succ]
  refine wpAnyH_take (i := 7) (oi := { dst := Option.some 28, op := Op.convert 3 51 (Operand.tmp 27), type := 51, pos := "ref.go:52", after := #[{ on := 6, ground := Ground.data }], guard := Option.none }) (v := .int .u64 (u_logTerm : Int)) rfl (by kernel_rfl) (by kernel_rfl) (by kernel_rfl) (fun _ _ _ h => h) (Or.inl ⟨by rfl, ?_⟩) hHeld ?_
  · intro W hSw
    obtain ⟨z0, z1, z2, z3, z4, z5, z6, z7, z8, z9, z10, z11⟩ := HCL.out _ hSw
    go_simp
  simp only [Act.put, List.setIfInBounds_toArray, List.set_cons_zero, List.set_cons_succ]
  refine wpAnyH_take (i := 9) (oi := { dst := Option.some 30, op := Op.fieldAddr 25 (Operand.tmp 1) 6, type := 0, pos := "ref.go:52", after := #[], guard := Option.none }) (v := .pointer (some ⟨g, 6, none⟩)) rfl (by kernel_rfl) (by kernel_rfl) (by kernel_rfl) (fun _ _ _ h => h) (Or.inl ⟨by rfl, ?_⟩) hHeld ?_
  · intro W hSw
    obtain ⟨z0, z1, z2, z3, z4, z5, z6, z7, z8, z9, z10, z11⟩ := HCL.out _ hSw
    go_simp
  simp only [Act.put, List.setIfInBounds_toArray, List.set_cons_zero, List.set_cons_succ]
  refine wpAnyH_take (i := 10) (oi := { dst := Option.some 31, op := Op.load 3 (Operand.tmp 30), type := 3, pos := "ref.go:52", after := #[{ on := 9, ground := Ground.data }], guard := Option.none }) (v := .int .i64 m.commit) rfl (by kernel_rfl) (by kernel_rfl) (by kernel_rfl) (fun _ _ _ h => h) (Or.inl ⟨by rfl, ?_⟩) hHeld ?_
  · intro W hSw
    obtain ⟨z0, z1, z2, z3, z4, z5, z6, z7, z8, z9, z10, z11⟩ := HCL.out _ hSw
    go_simp
  simp only [Act.put, List.setIfInBounds_toArray, List.set_cons_zero, List.set_cons_succ]
  refine wpAnyH_take (i := 11) (oi := { dst := Option.some 32, op := Op.convert 3 51 (Operand.tmp 31), type := 51, pos := "ref.go:52", after := #[{ on := 10, ground := Ground.data }], guard := Option.none }) (v := .int .u64 (u_commit : Int)) rfl (by kernel_rfl) (by kernel_rfl) (by kernel_rfl) (fun _ _ _ h => h) (Or.inl ⟨by rfl, ?_⟩) hHeld ?_
  · intro W hSw
    obtain ⟨z0, z1, z2, z3, z4, z5, z6, z7, z8, z9, z10, z11⟩ := HCL.out _ hSw
    go_simp
  simp only [Act.put, List.setIfInBounds_toArray, List.set_cons_zero, List.set_cons_succ]
  refine wpAnyH_take (i := 13) (oi := { dst := Option.some 34, op := Op.fieldAddr 25 (Operand.tmp 1) 7, type := 0, pos := "ref.go:52", after := #[], guard := Option.none }) (v := .pointer (some ⟨g, 7, none⟩)) rfl (by kernel_rfl) (by kernel_rfl) (by kernel_rfl) (fun _ _ _ h => h) (Or.inl ⟨by rfl, ?_⟩) hHeld ?_
  · intro W hSw
    obtain ⟨z0, z1, z2, z3, z4, z5, z6, z7, z8, z9, z10, z11⟩ := HCL.out _ hSw
    go_simp
  simp only [Act.put, List.setIfInBounds_toArray, List.set_cons_zero, List.set_cons_succ]
  refine wpAnyH_take (i := 14) (oi := { dst := Option.some 35, op := Op.load 3 (Operand.tmp 34), type := 3, pos := "ref.go:52", after := #[{ on := 13, ground := Ground.data }], guard := Option.none }) (v := .int .i64 m.round) rfl (by kernel_rfl) (by kernel_rfl) (by kernel_rfl) (fun _ _ _ h => h) (Or.inl ⟨by rfl, ?_⟩) hHeld ?_
  · intro W hSw
    obtain ⟨z0, z1, z2, z3, z4, z5, z6, z7, z8, z9, z10, z11⟩ := HCL.out _ hSw
    go_simp
  simp only [Act.put, List.setIfInBounds_toArray, List.set_cons_zero, List.set_cons_succ]
  refine wpAnyH_take (i := 15) (oi := { dst := Option.some 36, op := Op.convert 3 51 (Operand.tmp 35), type := 51, pos := "ref.go:52", after := #[{ on := 14, ground := Ground.data }], guard := Option.none }) (v := .int .u64 (u_round : Int)) rfl (by kernel_rfl) (by kernel_rfl) (by kernel_rfl) (fun _ _ _ h => h) (Or.inl ⟨by rfl, ?_⟩) hHeld ?_
  · intro W hSw
    obtain ⟨z0, z1, z2, z3, z4, z5, z6, z7, z8, z9, z10, z11⟩ := HCL.out _ hSw
    go_simp
  simp only [Act.put, List.setIfInBounds_toArray, List.set_cons_zero, List.set_cons_succ]
  refine wpAnyH_ready (rs := [4]) (by kernel_rfl) (by simp) ?_
  refine AllReadyH.cons (o := { dst := Option.some 25, op := Op.call { callee := Callee.value (Operand.func 48), args := #[Operand.tmp 21, Operand.tmp 24], argTypes := #[22, 51] }, type := 22, pos := "ref.go:52", after := #[{ on := 0, ground := Ground.data }, { on := 3, ground := Ground.data }], guard := Option.none }) rfl (fun K hK => ?_) AllReadyH.nil
  go_simp
  refine (C5.out _ _ _ (H4.out.1.below hd1)).mono ?_
  rintro y w5 ⟨A5, c5, rfl, hi, hb⟩
  have hb : Below W1.heap.size W1 w5 := hd0.trans (hb.mono hd0.size)
  have H5 := Lib.hid (And.intro hi hb)
  refine hK.out _ _ hb (fun hHeld2 => ?_)
  clear hK K hHeld hi hb
  have hHeld := hHeld2
  clear hHeld2
  refine wpAnyH_ready (rs := [8]) (by kernel_rfl) (by simp) ?_
  refine AllReadyH.cons (o := { dst := Option.some 29, op := Op.call { callee := Callee.value (Operand.func 48), args := #[Operand.tmp 25, Operand.tmp 28], argTypes := #[22, 51] }, type := 22, pos := "ref.go:52", after := #[{ on := 4, ground := Ground.data }, { on := 7, ground := Ground.data }, { on := 4, ground := Ground.chain }], guard := Option.none }) rfl (fun K hK => ?_) AllReadyH.nil
  go_simp
  refine (C6.out _ _ _ H5.out.1).mono ?_
  rintro y w6 ⟨A6, c6, rfl, hi, hb⟩
  have hb : Below W1.heap.size W1 w6 := H5.out.2.trans (hb.mono H5.out.2.size)
  have H6 := Lib.hid (And.intro hi hb)
  refine hK.out _ _ hb (fun hHeld2 => ?_)
  clear hK K hHeld hi hb
  have hHeld := hHeld2
  clear hHeld2
  refine wpAnyH_ready (rs := [12]) (by kernel_rfl) (by simp) ?_
  refine AllReadyH.cons (o := { dst := Option.some 33, op := Op.call { callee := Callee.value (Operand.func 48), args := #[Operand.tmp 29, Operand.tmp 32], argTypes := #[22, 51] }, type := 22, pos := "ref.go:52", after := #[{ on := 8, ground := Ground.data }, { on := 11, ground := Ground.data }, { on := 8, ground := Ground.chain }], guard := Option.none }) rfl (fun K hK => ?_) AllReadyH.nil
  go_simp
  refine (C7.out _ _ _ H6.out.1).mono ?_
  rintro y w7 ⟨A7, c7, rfl, hi, hb⟩
  have hb : Below W1.heap.size W1 w7 := H6.out.2.trans (hb.mono H6.out.2.size)
  have H7 := Lib.hid (And.intro hi hb)
  refine hK.out _ _ hb (fun hHeld2 => ?_)
  clear hK K hHeld hi hb
  have hHeld := hHeld2
  clear hHeld2
  refine wpAnyH_ready (rs := [16]) (by kernel_rfl) (by simp) ?_
  refine AllReadyH.cons (o := { dst := Option.some 37, op := Op.call { callee := Callee.value (Operand.func 48), args := #[Operand.tmp 33, Operand.tmp 36], argTypes := #[22, 51] }, type := 22, pos := "ref.go:52", after := #[{ on := 12, ground := Ground.data }, { on := 15, ground := Ground.data }, { on := 12, ground := Ground.chain }], guard := Option.none }) rfl (fun K hK => ?_) AllReadyH.nil
  go_simp
  refine (C8.out _ _ _ H7.out.1).mono ?_
  rintro y w8 ⟨A8, c8, rfl, hi, hb⟩
  have hb : Below W1.heap.size W1 w8 := H7.out.2.trans (hb.mono H7.out.2.size)
  have H8 := Lib.hid (And.intro hi hb)
  refine hK.out _ _ hb (fun hHeld2 => ?_)
  clear hK K hHeld hi hb
  have hHeld := hHeld2
  clear hHeld2
  refine wpAnyH_take (i := 17) (oi := { dst := Option.some 3, op := Op.assign (Operand.tmp 37), type := 22, pos := "ref.go:52", after := #[{ on := 16, ground := Ground.data }, { on := 16, ground := Ground.chain }, { on := 0, ground := Ground.phase }, { on := 1, ground := Ground.phase }, { on := 2, ground := Ground.phase }, { on := 3, ground := Ground.phase }, { on := 4, ground := Ground.phase }, { on := 5, ground := Ground.phase }, { on := 6, ground := Ground.phase }, { on := 7, ground := Ground.phase }, { on := 8, ground := Ground.phase }, { on := 9, ground := Ground.phase }, { on := 10, ground := Ground.phase }, { on := 11, ground := Ground.phase }, { on := 12, ground := Ground.phase }, { on := 13, ground := Ground.phase }, { on := 14, ground := Ground.phase }, { on := 15, ground := Ground.phase }, { on := 16, ground := Ground.phase }], guard := Option.none }) (v := .slice A8 m8 c8) rfl (by kernel_rfl) (by kernel_rfl) (by kernel_rfl) (fun _ _ _ h => h) (Or.inl ⟨by rfl, ?_⟩) hHeld ?_
  · intro W hSw
    go_simp
  simp only [Act.put, List.setIfInBounds_toArray, List.set_cons_zero, List.set_cons_succ]
  clear hHeld
  refine wpAnyH_done (by kernel_rfl) ?_ _
  clear hd0 hd1
  go_upto_region 3 with fail
  have hd1 : Below w8.heap.size w8 w8.drew := (Below.refl _ _).drew
  have hd0 : Below W1.heap.size W1 w8.drew := H8.out.2.drew
  refine wp_region_held_drew (S := fun W => Below W1.heap.size W1 W) (by kernel_rfl) hd0 (fun hHeld => ?_)
  refine wpAnyH_take (i := 0) (oi := { dst := Option.some 38, op := Op.move (Operand.tmp 3), type := 22, pos := "ref.go:53", after := #[], guard := Option.none }) (v := .slice A8 m8 c8) rfl (by kernel_rfl) (by kernel_rfl) (by kernel_rfl) (fun _ _ _ h => h) (Or.inl ⟨by rfl, ?_⟩) hHeld ?_
  · intro W hSw
    go_simp
  simp only [Act.put, List.setIfInBounds_toArray, List.set_cons_zero, List.set_cons_succ]
  refine wpAnyH_take (i := 1) (oi := { dst := Option.some 39, op := Op.fieldAddr 25 (Operand.tmp 1) 8, type := 0, pos := "ref.go:53", after := #[], guard := Option.none }) (v := .pointer (some ⟨g, 8, none⟩)) rfl (by kernel_rfl) (by kernel_rfl) (by kernel_rfl) (fun _ _ _ h => h) (Or.inl ⟨by rfl, ?_⟩) hHeld ?_
  · intro W hSw
    obtain ⟨z0, z1, z2, z3, z4, z5, z6, z7, z8, z9, z10, z11⟩ := HCL.out _ hSw
    go_simp
  simp only [Act.put, List.setIfInBounds_toArray, List.set_cons_zero, List.set_cons_succ]
  refine wpAnyH_take (i := 2) (oi := { dst := Option.some 40, op := Op.load 4 (Operand.tmp 39), type := 4, pos := "ref.go:53", after := #[{ on := 1, ground := Ground.data }], guard := Option.none }) (v := .bool m.ok) rfl (by kernel_rfl) (by kernel_rfl) (by kernel_rfl) (fun _ _ _ h => h) (Or.inl ⟨by rfl, ?_⟩) hHeld ?_
  · intro W hSw
    obtain ⟨z0, z1, z2, z3, z4, z5, z6, z7, z8, z9, z10, z11⟩ := HCL.out _ hSw
    go_simp
  simp only [Act.put, List.setIfInBounds_toArray, List.set_cons_zero, List.set_cons_succ]
  refine wpAnyH_take (i := 4) (oi := { dst := Option.some 42, op := Op.fieldAddr 25 (Operand.tmp 1) 9, type := 0, pos := "ref.go:53", after := #[], guard := Option.none }) (v := .pointer (some ⟨g, 9, none⟩)) rfl (by kernel_rfl) (by kernel_rfl) (by kernel_rfl) (fun _ _ _ h => h) (Or.inl ⟨by rfl, ?_⟩) hHeld ?_
  · intro W hSw
    obtain ⟨z0, z1, z2, z3, z4, z5, z6, z7, z8, z9, z10, z11⟩ := HCL.out _ hSw
    go_simp
  simp only [Act.put, List.setIfInBounds_toArray, List.set_cons_zero, List.set_cons_succ]
  refine wpAnyH_take (i := 5) (oi := { dst := Option.some 43, op := Op.load 3 (Operand.tmp 42), type := 3, pos := "ref.go:53", after := #[{ on := 4, ground := Ground.data }], guard := Option.none }) (v := .int .i64 m.off) rfl (by kernel_rfl) (by kernel_rfl) (by kernel_rfl) (fun _ _ _ h => h) (Or.inl ⟨by rfl, ?_⟩) hHeld ?_
  · intro W hSw
    obtain ⟨z0, z1, z2, z3, z4, z5, z6, z7, z8, z9, z10, z11⟩ := HCL.out _ hSw
    go_simp
  simp only [Act.put, List.setIfInBounds_toArray, List.set_cons_zero, List.set_cons_succ]
  refine wpAnyH_take (i := 6) (oi := { dst := Option.some 44, op := Op.convert 3 51 (Operand.tmp 43), type := 51, pos := "ref.go:53", after := #[{ on := 5, ground := Ground.data }], guard := Option.none }) (v := .int .u64 (u_off : Int)) rfl (by kernel_rfl) (by kernel_rfl) (by kernel_rfl) (fun _ _ _ h => h) (Or.inl ⟨by rfl, ?_⟩) hHeld ?_
  · intro W hSw
    obtain ⟨z0, z1, z2, z3, z4, z5, z6, z7, z8, z9, z10, z11⟩ := HCL.out _ hSw
    go_simp
  simp only [Act.put, List.setIfInBounds_toArray, List.set_cons_zero, List.set_cons_succ]
  refine wpAnyH_take (i := 8) (oi := { dst := Option.some 46, op := Op.fieldAddr 25 (Operand.tmp 1) 10, type := 0, pos := "ref.go:53", after := #[], guard := Option.none }) (v := .pointer (some ⟨g, 10, none⟩)) rfl (by kernel_rfl) (by kernel_rfl) (by kernel_rfl) (fun _ _ _ h => h) (Or.inl ⟨by rfl, ?_⟩) hHeld ?_
  · intro W hSw
    obtain ⟨z0, z1, z2, z3, z4, z5, z6, z7, z8, z9, z10, z11⟩ := HCL.out _ hSw
    go_simp
  simp only [Act.put, List.setIfInBounds_toArray, List.set_cons_zero, List.set_cons_succ]
  refine wpAnyH_take (i := 9) (oi := { dst := Option.some 47, op := Op.load 22 (Operand.tmp 46), type := 22, pos := "ref.go:53", after := #[{ on := 8, ground := Ground.data }], guard := Option.none }) (v := .slice Ad nd cd) rfl (by kernel_rfl) (by kernel_rfl) (by kernel_rfl) (fun _ _ _ h => h) (Or.inl ⟨by rfl, ?_⟩) hHeld ?_
  · intro W hSw
    obtain ⟨z0, z1, z2, z3, z4, z5, z6, z7, z8, z9, z10, z11⟩ := HCL.out _ hSw
    go_simp
  simp only [Act.put, List.setIfInBounds_toArray, List.set_cons_zero, List.set_cons_succ]
  refine wpAnyH_ready (rs := [3]) (by kernel_rfl) (by simp) ?_
  refine AllReadyH.cons (o := { dst := Option.some 41, op := Op.call { callee := Callee.value (Operand.func 50), args := #[Operand.tmp 38, Operand.tmp 40], argTypes := #[22, 4] }, type := 22, pos := "ref.go:53", after := #[{ on := 0, ground := Ground.data }, { on := 2, ground := Ground.data }], guard := Option.none }) rfl (fun K hK => ?_) AllReadyH.nil
  go_simp
  refine (C9.out _ _ _ (H8.out.1.below hd1)).mono ?_
  rintro y w9 ⟨A9, c9, rfl, hi, hb⟩
  have hb : Below W1.heap.size W1 w9 := hd0.trans (hb.mono hd0.size)
  have H9 := Lib.hid (And.intro hi hb)
  refine hK.out _ _ hb (fun hHeld2 => ?_)
  clear hK K hHeld hi hb
  have hHeld := hHeld2
  clear hHeld2
  refine wpAnyH_ready (rs := [7]) (by kernel_rfl) (by simp) ?_
  refine AllReadyH.cons (o := { dst := Option.some 45, op := Op.call { callee := Callee.value (Operand.func 48), args := #[Operand.tmp 41, Operand.tmp 44], argTypes := #[22, 51] }, type := 22, pos := "ref.go:53", after := #[{ on := 3, ground := Ground.data }, { on := 6, ground := Ground.data }, { on := 3, ground := Ground.chain }], guard := Option.none }) rfl (fun K hK => ?_) AllReadyH.nil
  go_simp
  refine (C10.out _ _ _ H9.out.1).mono ?_
  rintro y w10 ⟨A10, c10, rfl, hi, hb⟩
  have hb : Below W1.heap.size W1 w10 := H9.out.2.trans (hb.mono H9.out.2.size)
  have H10 := Lib.hid (And.intro hi hb)
  refine hK.out _ _ hb (fun hHeld2 => ?_)
  clear hK K hHeld hi hb
  have hHeld := hHeld2
  clear hHeld2
  refine wpAnyH_ready (rs := [10]) (by kernel_rfl) (by simp) ?_
  refine AllReadyH.cons (o := { dst := Option.some 48, op := Op.call { callee := Callee.value (Operand.func 49), args := #[Operand.tmp 45, Operand.tmp 47], argTypes := #[22, 22] }, type := 22, pos := "ref.go:53", after := #[{ on := 7, ground := Ground.data }, { on := 9, ground := Ground.data }, { on := 7, ground := Ground.chain }], guard := Option.none }) rfl (fun K hK => ?_) AllReadyH.nil
  go_simp
  refine (C11.out _ _ _ H10.out.1 (HN.out.1.data.below H10.out.2)).mono ?_
  rintro y w11 ⟨A11, c11, rfl, hi, hb⟩
  have hb : Below W1.heap.size W1 w11 := H10.out.2.trans (hb.mono H10.out.2.size)
  have H11 := Lib.hid (And.intro hi hb)
  refine hK.out _ _ hb (fun hHeld2 => ?_)
  clear hK K hHeld hi hb
  have hHeld := hHeld2
  clear hHeld2
  refine wpAnyH_take (i := 11) (oi := { dst := Option.some 3, op := Op.assign (Operand.tmp 48), type := 22, pos := "ref.go:53", after := #[{ on := 10, ground := Ground.data }, { on := 10, ground := Ground.chain }, { on := 0, ground := Ground.phase }, { on := 1, ground := Ground.phase }, { on := 2, ground := Ground.phase }, { on := 3, ground := Ground.phase }, { on := 4, ground := Ground.phase }, { on := 5, ground := Ground.phase }, { on := 6, ground := Ground.phase }, { on := 7, ground := Ground.phase }, { on := 8, ground := Ground.phase }, { on := 9, ground := Ground.phase }, { on := 10, ground := Ground.phase }], guard := Option.none }) (v := .slice A11 m11 c11) rfl (by kernel_rfl) (by kernel_rfl) (by kernel_rfl) (fun _ _ _ h => h) (Or.inl ⟨by rfl, ?_⟩) hHeld ?_
  · intro W hSw
    go_simp
  simp only [Act.put, List.setIfInBounds_toArray, List.set_cons_zero, List.set_cons_succ]
  clear hHeld
  refine wpAnyH_done (by kernel_rfl) ?_ _
  clear hd0 hd1
  obtain ⟨z0, z1, z2, z3, z4, z5, z6, z7, z8, z9, z10, z11⟩ := HCL.out w11 H11.out.2
  go_wp2_with (go_at_call 48; go_must (refine (C12.out _ _ _ H11.out.1).mono ?_; rintro y w12 ⟨A12, c12, rfl, hi, hb⟩; have H12 := Lib.hid (And.intro hi (H11.out.2.trans (hb.mono H11.out.2.size))); clear hi hb))
  clear z0 z1 z2 z3 z4 z5 z6 z7 z8 z9 z10 z11
  go_loopw [3, 4] (fun bb ii wr => ∃ (j q : Nat) (A : Option Addr) (c : Nat), j ≤ ne ∧ ii = .int .i64 (j : Int) ∧ bb = .slice A q c ∧ Hid (q = (b12 ++ encEs (m.ents.take j)).length ∧ Bys wr (.slice A q c) (b12 ++ encEs (m.ents.take j)) ∧ Below W1.heap.size W1 wr)) (fun _ ii _ => ne - (intOf ii).toNat)
  case atStart => exact ⟨0, m12, A12, c12, Nat.zero_le _, rfl, rfl, Lib.hid ⟨by rw [List.take_zero]; simp [encEs]; exact HN.out.2.2.2.2.2.2, by rw [List.take_zero]; simpa [encEs] using H12.out.1, H12.out.2⟩⟩
  case round =>
    obtain ⟨j, q, A, c, hj, rfl, rfl, HB⟩ := hrel
    obtain ⟨z0, z1, z2, z3, z4, z5, z6, z7, z8, z9, z10, z11⟩ := HCL.out wr HB.out.2.2
    by_cases hlt : j < ne
    · have ii : (j : Int) < (ne : Int) := by omega
      have ii0 : (0 : Int) ≤ (j : Int) := by omega
      have hjl : j < m.ents.length := by have := HN.out.2.1; omega
      have hen := HN.out.1.ents.below HB.out.2.2
      obtain ⟨bk, off, Ax, cx, rfl, hbb, hok, p0, p1, p2, p3, hdat⟩ := hen.at_ j hjl
      have hnx := encEs_next hjl
      have hsm := HN.out.2.2.1.2 _ (List.getElem_mem hjl)
      have hel := encEs_len (l := m.ents.take j) (d := 25663) (fun e he => HN.out.2.2.1.2 e (List.mem_of_mem_take he)) (by omega)
      rw [List.length_take] at hel
      have hel2 : min j m.ents.length * (25663 + 110) ≤ 200 * 25773 := Nat.mul_le_mul (by have := HN.out.2.2.1.1; omega) (by omega)
      obtain ⟨e, he⟩ : ∃ e, e = m.ents[j] := ⟨_, rfl⟩
      rw [← he] at p0 p1 p2 p3 hnx hsm hdat
      obtain ⟨x, hx⟩ : ∃ x, x = e.data.length := ⟨_, rfl⟩
      rw [← hx] at p3 hsm hdat
      obtain ⟨k, hk⟩ : ∃ k, k = (encE e).length := ⟨_, rfl⟩
      have hk2 : k ≤ 30000 := by rw [hk]; have := encE_len (e := e) (by omega); omega
      have hq : (b12 ++ encEs (m.ents.take j)).length ≤ 100000000 := by rw [List.length_append]; have := HN.out.2.2.2.2.1; omega
      have hq0 := HB.out.1
      obtain ⟨q1, hq1⟩ : ∃ q1, q1 = (b12 ++ encEs (m.ents.take (j + 1))).length := ⟨_, rfl⟩
      have CE := Lib.hid (RefEncode_any e Ax x cx wr hdat (by omega) k hk)
      have CB := Lib.hid fun A' c' W h1 h2 => RefBytes_any A q c (b12 ++ encEs (m.ents.take j)) A' k c' (encE e) W h1 h2 (by omega) (by omega) q1 (by rw [hq1, hnx, List.append_assoc])
      have HNX := Lib.hid (And.intro hnx hq1)
      clear hbb hok hdat hnx hsm hel hel2 he hx hk hk2 hq hq0 hq1 hjl hen
      go_wp2_with (first
        | (go_at_call 51; go_must (refine CE.out.mono ?_; rintro y w20 ⟨A20, c20, rfl, hi, hb⟩; have H20 := Lib.hid (And.intro hi hb); clear hi hb))
        | (go_at_call 49; go_must (refine (CB.out A20 c20 w20 (HB.out.2.1.below H20.out.2) H20.out.1).mono ?_; rintro y w21 ⟨A21, c21, rfl, hi, hb⟩; have H21 := Lib.hid (And.intro hi (HB.out.2.2.trans ((H20.out.2.trans (hb.mono H20.out.2.size)).mono HB.out.2.2.size))); clear hi hb)))
      go_roundw
      case rel => exact ⟨j + 1, q1, A21, c21, by omega, by go_num, rfl, Lib.hid ⟨HNX.out.2, by rw [HNX.out.1, ← List.append_assoc]; exact H21.out.1, H21.out.2⟩⟩
      case measure => simp [intOf]; omega
    · obtain rfl : j = ne := by omega
      have ii : ¬ (j : Int) < (j : Int) := by omega
      go_wp2_with fail
      go_ret
      have h1 := HB.out
      rw [List.take_of_length_le (by have := HN.out.2.1; omega), ← HN.out.2.2.2.1, ← HN.out.2.2.2.2.2.1] at h1
      obtain ⟨e1, e2, e3⟩ := h1
      rw [e1] at e2 ⊢
      exact ⟨A, c, rfl, e2, HE.out.trans (e3.mono HE.out.size)⟩

end Go.Proofs.YtfblgkcipnkhaaaGreatDoor.pk
