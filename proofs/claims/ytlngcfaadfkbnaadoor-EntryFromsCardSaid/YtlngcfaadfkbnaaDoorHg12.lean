/-
  The program's own log: Merge, where the log has the entry.
-/
import Derived.Test.YtlngcfaadfkbnaaDoorHg11
namespace Go.Proofs.YtlngcfaadfkbnaaDoor.pk
open Go Go.RowKit
set_option maxRecDepth 100000

set_option maxHeartbeats 16000000 in
theorem Merge_join (l : Lg) (A : Option Addr) (n c : Nat) (i t : Int) (A' : Option Addr) (n' c' : Nat) (more : List En) (w : World) (h : Inp l A n c w) (hs : SmallE 1000 100000 l.l) (hit : inI i ∧ inI t) (h' : Ents w (.slice A' n' c') more) (hs' : SmallE 1000 100000 more)
    (hm : mayE l = true) (c1 : ¬ i < 0) (c2 : behindE i t more = true) (c3 : ¬ l.base + (l.l.length : Int) < i) (c4 : l.base < i → tmE l i = t) (ok : Bool) (hok : mayE (mergedE l i more) = ok) (q : Nat) (hq0 : q = (if ok = true then (mergedE l i more).l.length else l.l.length)) :
    Calls Tryd.prog 22 #[.agg #[.int .i64 l.base, .int .i64 l.term, .slice A n c], .int .i64 i, .int .i64 t, .slice A' n' c'] w fun y w' => ∃ A1 c1 z, y = .returned (.tuple #[.agg #[.int .i64 l.base, .int .i64 l.term, .slice A1 q c1], .int .i64 z, .bool ok]) ∧ FEnts w w' (.slice A1 q c1) (if ok = true then (mergedE l i more).l else l.l) ∧ Below w.heap.size w w' ∧ (ok = true → z = max (i + more.length) l.base) := by
  obtain ⟨W1, g, g2, hW1, hg, hg2, hb1, hq, hq2, hsz⟩ := two_box w (.cells #[.int .i64 l.base, .int .i64 l.term, .slice A n c] 29) (.cells #[.int .i64 0, .int .i64 0, .slice none 0 0] 29)
  have HW := Lib.hid (And.intro hW1 (And.intro hg hg2))
  have HE := Lib.hid (And.intro hb1 (And.intro (show w.heap.size = g by omega) (And.intro (show g2 = g + 1 by omega) hsz)))
  have HI := Lib.hid (h.below hb1)
  have hl := h.len
  have hn' := h'.len_
  have HI' := Lib.hid (And.intro (h'.below hb1) (And.intro hs' (And.intro hn'.1 hl.1)))
  have HQ2 := Lib.hid (show ∀ W, Below W1.heap.size W1 W → W.heap[g2]? = some (.cells #[.int .i64 0, .int .i64 0, .slice none 0 0] 29 (0, 0)) from fun W hW => (hW.block g2 (obj_lt hq2)).trans hq2)
  have HCL := Lib.hid (show ∀ W, Below g2 W1 W → W.cell? ⟨g, 0, none⟩ = some (.int .i64 l.base) ∧ W.cell? ⟨g, 1, none⟩ = some (.int .i64 l.term) ∧ W.cell? ⟨g, 2, none⟩ = some (.slice A n c) from fun W hW => cells3 ((hW.block g (by omega)).trans hq))
  have H21 := Lib.hid (show ∀ W, Below W1.heap.size W1 W → Below g2 W1 W from fun W hW => hW.mono (by omega))
  obtain ⟨x0, x1, x2⟩ := cells3 hq
  have hres : Tryd.f22.results = #[.cell 8 29, .tmp 9, .tmp 10] := by kernel_rfl
  have CN := Lib.hid fun W (hW : Below W1.heap.size W1 W) => clone_g l A n c W (HI.out.e.below hW) HI.out.s
  have in1 : (n' : Int) ≤ 1000 := by have := hs'.1; omega
  have in2 : (n : Int) ≤ 1000 := by have := hs.1; omega
  have CC := Lib.hid (HI.out.good hm)
  have hp := mayE_parts hm
  have CF := Lib.hid fun W (hW : Below W1.heap.size W1 W) => follow_any i t A' n' c' more W (HI'.out.1.below hW) hit.1 hit.2 (fun e he => by have := HI'.out.2.1.2 e he; omega) _ rfl
  obtain ⟨e1, he1⟩ : ∃ e1, e1 = l.base + (n : Int) := ⟨_, rfl⟩
  have CE := Lib.hid fun W => end_g l A n c W hp.1 (by omega) (by omega) e1 he1
  rw [← hl.1, ← he1] at c3
  obtain ⟨tt, htt⟩ : ∃ tt, tt = tmE l i := ⟨_, rfl⟩
  rw [← htt] at c4
  have CT := Lib.hid fun W (hW : Below W1.heap.size W1 W) (hbi : l.base < i) => termAt_g l A n c i W (HI.out.e.below hW) hp.1 (by omega) (by omega) (by omega) (by omega) tt htt
  obtain ⟨qm, hqm⟩ : ∃ qm, qm = (mergedE l i more).l.length := ⟨_, rfl⟩
  have CJ := Lib.hid fun W (hW : Below W1.heap.size W1 W) => join_g l A n c i t A' n' c' more W (HI.out.below hW) hm (HI'.out.1.below hW) HI'.out.2.1 (by omega) c2 (by omega) (by omega) qm hqm
  have hms2 : SmallE 2000 100000 (mergedE l i more).l := merged_small (i := i) hs hs'
  have hms : SmallE 1000000 100000000 (mergedE l i more).l := ⟨by have := hms2.1; omega, fun e he => by have := hms2.2 e he; omega⟩
  have eb : (mergedE l i more).base = l.base := rfl
  have et : (mergedE l i more).term = l.term := rfl
  have HMI := Lib.hid fun A5 c5' W (hW : Ents W (.slice A5 qm c5') (mergedE l i more).l) => (show Inp (mergedE l i more) A5 qm c5' W from ⟨hW, h.b, h.t, hms⟩)
  have hml := merged_length (l := l) (i := i) (more := more) (by omega) (by omega) hp.1
  rw [← hqm, ← hn'.1] at hml
  have hqm2 : qm ≤ 2000 := by have := hms2.1; omega
  have HQM := Lib.hid (And.intro hqm (And.intro hml (And.intro hqm2 (And.intro hp (And.intro hn'.1 (And.intro hl.1 (And.intro hok hq0)))))))
  clear h hs h' hs' hW1 hg hg2 hb1 hq hq2 hsz hl hn' hm hit hp he1 htt hms hms2 hqm hml hqm2 hok hq0
  by_cases hbi : l.base < i
  case' pos => obtain rfl := c4 hbi
  all_goals
    clear c4
    go_enter Tryd.func22, Tryd.ntmps22
    go_upto_region 1 with fail
    rw [← HW.out.1, ← HW.out.2.1, ← HW.out.2.2]
    go_upto_region 10 with (first
      | (go_at_call 17; go_must (refine CC.out.mono ?_; rintro y w1 ⟨rfl, hb1⟩; obtain ⟨x0, x1, x2⟩ := HCL.out w1 (H21.out w1 hb1); have HB := Lib.hid hb1; clear hb1))
      | (go_at_call 37; go_must (refine (CF.out _ HB.out).mono ?_; rintro y w2 ⟨rfl, hb2⟩; have hb2 := HB.out.trans (hb2.mono HB.out.size); obtain ⟨x0, x1, x2⟩ := HCL.out w2 (H21.out w2 hb2); have HB := Lib.hid hb2; clear hb2))
      | (go_at_call 31; go_must (refine (CE.out _).mono ?_; rintro y w3 ⟨rfl, hb3⟩; have hb3 := HB.out.trans (hb3.mono HB.out.size); obtain ⟨x0, x1, x2⟩ := HCL.out w3 (H21.out w3 hb3); have HB := Lib.hid hb3; clear hb3))
      | (go_at_call 32; go_must (refine (CT.out _ HB.out hbi).mono ?_; rintro y w4 ⟨rfl, hb4⟩; have hb4 := HB.out.trans (hb4.mono HB.out.size); obtain ⟨x0, x1, x2⟩ := HCL.out w4 (H21.out w4 hb4); have HB := Lib.hid hb4; clear hb4))
      | (go_at_call 48; go_must (refine (CJ.out _ HB.out).mono ?_; rintro y w5 ⟨A5, c5, rfl, hf5, hb5⟩; have hbW := HB.out; have hb5 := HB.out.trans (hb5.mono HB.out.size); have H5 := Lib.hid (And.intro hf5.ents (And.intro hb5 (show EntsT w5 (fun k => W1.heap.size ≤ k ∧ k < w5.heap.size) (.slice A5 qm c5) (mergedE l i more).l ∧ ∀ e ∈ (mergedE l i more).l, e.ok from ⟨hf5.1.move (fun _ _ _ => rfl) fun b hb => ⟨Nat.le_trans hbW.size hb.1, hb.2⟩, hf5.2⟩))); clear hb5 hf5 hbW)))
    clear x0 x1 x2
    obtain ⟨W6, q6, hW6, hq6, hb6, hqq, hsz6⟩ := one_box w5 (.cells #[.int .i64 l.base, .int .i64 l.term, .slice A5 qm c5] 29)
    rw [← hW6, ← hq6]
    have HB6 := Lib.hid (And.intro (H5.out.2.1.trans (hb6.mono H5.out.2.1.size)) (And.intro hq6 (And.intro hsz6 (And.intro hb6 (show W1.heap.size ≤ q6 by rw [hq6]; exact H5.out.2.1.size)))))
    have HQQ := Lib.hid (show ∀ W, Below W6.heap.size W6 W → W.heap[q6]? = some (.cells #[.int .i64 l.base, .int .i64 l.term, .slice A5 qm c5] 29 (0, 0)) from fun W hW => (hW.block q6 (obj_lt hqq)).trans hqq)
    obtain ⟨u0, u1, u2⟩ := cells3 hqq
    clear hW6 hq6 hb6 hqq hsz6
    cases ok with
    | false =>
      obtain rfl : q = n := by have := HQM.out.2.2.2.2.2.2.2; rw [if_neg (by simp)] at this; rw [this, HQM.out.2.2.2.2.2.1]
      have CM := Lib.hid (show Calls Tryd.prog 17 #[.agg #[.int .i64 l.base, .int .i64 l.term, .slice A5 qm c5]] W6 _ from (HMI.out _ _ _ (H5.out.1.below HB6.out.2.2.2.1)).bad HQM.out.2.2.2.2.2.2.1)
      go_wp2_with (first
        | (go_at_call 17; go_must (refine CM.out.mono ?_; rintro y w7 ⟨rfl, hb7⟩; have hb7 := HB6.out.1.trans (hb7.mono HB6.out.1.size); obtain ⟨x0, x1, x2⟩ := HCL.out w7 (H21.out w7 hb7); have HB := Lib.hid hb7; clear hb7))
        | (go_at_call 46; go_must (refine (CN.out _ HB.out).mono ?_; rintro y w8 ⟨A4, c4, rfl, hf4, hb4, -⟩; have hb5 := HB.out.trans (hb4.mono HB.out.size); have hS := HQ2.out w8 hb5; obtain ⟨y0, y1, y2⟩ := cells3 hS; have f0 := frozen_own hS 0; have f1 := frozen_own hS 1; have f2 := frozen_own hS 2; have H4 := Lib.hid (And.intro hS (And.intro hb5 hf4)); clear hS hb4 hb5 hf4)))
      obtain ⟨WF, hWF, z0, z1, z2, hbF, hoth, hsz2⟩ := logRes (b0 := .int .i64 l.base) (b1 := .int .i64 l.term) (b2 := .slice A4 q c4) H4.out.1 (H21.out _ H4.out.2.1) (Nat.le_refl g2)
      unfold put3 at hWF
      rw [hWF]
      have HF := Lib.hid (And.intro hbF (And.intro hoth hsz2))
      clear hbF hoth hsz2 hWF y0 y1 y2 f0 f1 f2 x0 x1 x2 u0 u1 u2
      refine bodyPost_ret (v := .tuple #[.agg #[.int .i64 l.base, .int .i64 l.term, .slice A4 q c4], .int .i64 0, .bool false]) ?_ rfl ⟨A4, c4, ⟨0, rfl⟩, ?_, HE.out.1.trans (HF.out.1.mono (by have := HE.out; omega))⟩
      · simp only [results, hres]
        go_simp
      · refine ⟨H4.out.2.2.1.move (fun b hb _ => HF.out.2.1 b ?_) fun b hb => ⟨?_, by rw [HF.out.2.2]; exact hb.2⟩, H4.out.2.2.2⟩
        · have := hb.1
          have := HB.out.size
          have := HE.out
          omega
        · have := hb.1
          have := HB.out.size
          have := HE.out.1.size
          omega
    | true =>
      obtain rfl : q = qm := by have := HQM.out.2.2.2.2.2.2.2; rw [if_pos rfl] at this; rw [this, HQM.out.1]
      have CM := Lib.hid (show Calls Tryd.prog 17 #[.agg #[.int .i64 l.base, .int .i64 l.term, .slice A5 q c5]] W6 _ from (HMI.out _ _ _ (H5.out.1.below HB6.out.2.2.2.1)).good HQM.out.2.2.2.2.2.2.1)
      obtain ⟨e2, he2⟩ : ∃ e2, e2 = l.base + (q : Int) := ⟨_, rfl⟩
      have hpp := HQM.out.2.2.2.1
      have hml := HQM.out.2.1
      have hq2k := HQM.out.2.2.1
      have CE2 := Lib.hid fun W => end_g l A5 q c5 W hpp.1 (by omega) (by omega) e2 he2
      obtain ⟨sm, hsm⟩ : ∃ sm, sm = i + (n' : Int) := ⟨_, rfl⟩
      obtain ⟨zz, hzz⟩ : ∃ zz, zz = max sm l.base := ⟨_, rfl⟩
      have HZZ := Lib.hid (show zz = max (i + (more.length : Int)) l.base by rw [hzz, hsm, HQM.out.2.2.2.2.1])
      have k1 : IntKind.i64.wrap (i + (n' : Int)) = sm := by rw [IntWalk.i64_in _ (by omega), hsm]
      have k2 : sm ≤ e2 := by omega
      have hz2 : (sm ≤ l.base ∧ zz = l.base) ∨ (¬ sm ≤ l.base ∧ zz = sm) := by omega
      have HK := Lib.hid (And.intro hsm (And.intro k2 (And.intro hz2 he2)))
      clear hpp hml hq2k he2 hsm hzz k2 hz2
      go_upto_region 12 with (go_at_call 17; go_must (refine CM.out.mono ?_; rintro y w7 ⟨rfl, hb7⟩; have HQ7 := Lib.hid (HQQ.out w7 hb7); have H67 := Lib.hid hb7; have hb7 := HB6.out.1.trans (hb7.mono HB6.out.1.size); have HB := Lib.hid hb7; clear hb7))
      clear u0 u1 u2
      have hd0 : Below g2 W1 w7.drew ∧ w7.drew.heap[q6]? = some (.cells #[.int .i64 l.base, .int .i64 l.term, .slice A5 q c5] 29 (0, 0)) := ⟨H21.out _ HB.out.drew, HQ7.out⟩
      have HD := Lib.hid HB.out.drew
      refine wp_region_held_drew (S := fun W => Below g2 W1 W ∧ W.heap[q6]? = some (.cells #[.int .i64 l.base, .int .i64 l.term, .slice A5 q c5] 29 (0, 0))) (by kernel_rfl) hd0 (fun hHeld => ?_)
      clear hd0
      refine wpAnyH_take (i := 0) (oi := { dst := Option.some 62, op := Op.load 29 (Operand.tmp 11), type := 29, pos := "merge.go:23", after := #[], guard := Option.none }) (v := .agg #[.int .i64 l.base, .int .i64 l.term, .slice A5 q c5]) rfl (by kernel_rfl) (by kernel_rfl) (by kernel_rfl) (fun _ _ _ h => h) (Or.inl ⟨by rfl, ?_⟩) hHeld ?_
      · intro W hSw
        obtain ⟨z0, z1, z2⟩ := cells3 hSw.2
        go_simp
      simp only [Act.put, List.setIfInBounds_toArray, List.set_cons_zero, List.set_cons_succ]
      refine wpAnyH_take (i := 1) (oi := { dst := Option.some 63, op := Op.fieldAddr 29 (Operand.tmp 4) 0, type := 0, pos := "merge.go:23", after := #[], guard := Option.none }) (v := .pointer (some ⟨g, 0, none⟩)) rfl (by kernel_rfl) (by kernel_rfl) (by kernel_rfl) (fun _ _ _ h => h) (Or.inl ⟨by rfl, ?_⟩) hHeld ?_
      · intro W hSw
        obtain ⟨z0, z1, z2⟩ := HCL.out _ hSw.1
        go_simp
      simp only [Act.put, List.setIfInBounds_toArray, List.set_cons_zero, List.set_cons_succ]
      refine wpAnyH_take (i := 2) (oi := { dst := Option.some 64, op := Op.load 3 (Operand.tmp 63), type := 3, pos := "merge.go:23", after := #[{ on := 1, ground := Ground.data }], guard := Option.none }) (v := .int .i64 l.base) rfl (by kernel_rfl) (by kernel_rfl) (by kernel_rfl) (fun _ _ _ h => h) (Or.inl ⟨by rfl, ?_⟩) hHeld ?_
      · intro W hSw
        obtain ⟨z0, z1, z2⟩ := HCL.out _ hSw.1
        go_simp
      simp only [Act.put, List.setIfInBounds_toArray, List.set_cons_zero, List.set_cons_succ]
      refine wpAnyH_take (i := 3) (oi := { dst := Option.some 65, op := Op.move (Operand.tmp 1), type := 3, pos := "merge.go:23", after := #[], guard := Option.none }) (v := .int .i64 i) rfl (by kernel_rfl) (by kernel_rfl) (by kernel_rfl) (fun _ _ _ h => h) (Or.inl ⟨by rfl, ?_⟩) hHeld ?_
      · intro W hSw
        obtain ⟨z0, z1, z2⟩ := HCL.out _ hSw.1
        go_simp
      simp only [Act.put, List.setIfInBounds_toArray, List.set_cons_zero, List.set_cons_succ]
      refine wpAnyH_take (i := 4) (oi := { dst := Option.some 66, op := Op.move (Operand.tmp 3), type := 27, pos := "merge.go:23", after := #[], guard := Option.none }) (v := .slice A' n' c') rfl (by kernel_rfl) (by kernel_rfl) (by kernel_rfl) (fun _ _ _ h => h) (Or.inl ⟨by rfl, ?_⟩) hHeld ?_
      · intro W hSw
        obtain ⟨z0, z1, z2⟩ := HCL.out _ hSw.1
        go_simp
      simp only [Act.put, List.setIfInBounds_toArray, List.set_cons_zero, List.set_cons_succ]
      refine wpAnyH_take (i := 5) (oi := { dst := Option.some 67, op := Op.call { callee := Callee.builtin Builtin.len, args := #[Operand.tmp 66], argTypes := #[27] }, type := 3, pos := "merge.go:23", after := #[{ on := 4, ground := Ground.data }], guard := Option.none }) (v := .int .i64 (n' : Int)) rfl (by kernel_rfl) (by kernel_rfl) (by kernel_rfl) (fun _ _ _ h => h) (Or.inl ⟨by rfl, ?_⟩) hHeld ?_
      · intro W hSw
        obtain ⟨z0, z1, z2⟩ := HCL.out _ hSw.1
        go_simp
      simp only [Act.put, List.setIfInBounds_toArray, List.set_cons_zero, List.set_cons_succ]
      refine wpAnyH_take (i := 6) (oi := { dst := Option.some 68, op := Op.binOp BinOp.add 3 (Operand.tmp 65) (Operand.tmp 67) 3, type := 3, pos := "merge.go:23", after := #[{ on := 3, ground := Ground.data }, { on := 5, ground := Ground.data }], guard := Option.none }) (v := .int .i64 sm) rfl (by kernel_rfl) (by kernel_rfl) (by kernel_rfl) (fun _ _ _ h => h) (Or.inl ⟨by rfl, ?_⟩) hHeld ?_
      · intro W hSw
        obtain ⟨z0, z1, z2⟩ := HCL.out _ hSw.1
        go_simp
      simp only [Act.put, List.setIfInBounds_toArray, List.set_cons_zero, List.set_cons_succ]
      refine wpAnyH_take (i := 7) (oi := { dst := Option.some 69, op := Op.load 29 (Operand.tmp 11), type := 29, pos := "merge.go:23", after := #[], guard := Option.none }) (v := .agg #[.int .i64 l.base, .int .i64 l.term, .slice A5 q c5]) rfl (by kernel_rfl) (by kernel_rfl) (by kernel_rfl) (fun _ _ _ h => h) (Or.inl ⟨by rfl, ?_⟩) hHeld ?_
      · intro W hSw
        obtain ⟨z0, z1, z2⟩ := cells3 hSw.2
        go_simp
      simp only [Act.put, List.setIfInBounds_toArray, List.set_cons_zero, List.set_cons_succ]
      refine wpAnyH_ready (rs := [8]) (by kernel_rfl) (by simp) ?_
      refine AllReadyH.cons (o := { dst := Option.some 70, op := Op.call { callee := Callee.value (Operand.func 31), args := #[Operand.tmp 69], argTypes := #[29] }, type := 3, pos := "merge.go:23", after := #[{ on := 7, ground := Ground.data }], guard := Option.none }) rfl (fun K hK => ?_) AllReadyH.nil
      go_simp
      refine (CE2.out _).mono ?_
      rintro y w8 ⟨rfl, hb8⟩
      have hb8' := HD.out.trans (hb8.mono HD.out.size)
      have hq8 : w8.heap[q6]? = some (.cells #[.int .i64 l.base, .int .i64 l.term, .slice A5 q c5] 29 (0, 0)) := (hb8.block q6 (obj_lt HQ7.out)).trans HQ7.out
      have H8 := Lib.hid (And.intro hb8 (And.intro hb8' hq8))
      refine hK.out _ _ ⟨H21.out _ hb8', hq8⟩ (fun hHeld2 => ?_)
      clear hK K hHeld hb8 hb8' hq8
      have hHeld := hHeld2
      clear hHeld2
      have k2 : ¬ e2 < sm := by have := HK.out.2.1; omega
      refine wpAnyH_take (i := 9) (oi := { dst := Option.some 71, op := Op.call { callee := Callee.builtin Builtin.min, args := #[Operand.tmp 68, Operand.tmp 70], argTypes := #[3, 3] }, type := 3, pos := "merge.go:23", after := #[{ on := 6, ground := Ground.data }, { on := 8, ground := Ground.data }], guard := Option.none }) (v := .int .i64 sm) rfl (by kernel_rfl) (by kernel_rfl) (by kernel_rfl) (fun _ _ _ h => h) (Or.inl ⟨by rfl, ?_⟩) hHeld ?_
      · intro W hSw
        go_simp
      simp only [Act.put, List.setIfInBounds_toArray, List.set_cons_zero, List.set_cons_succ]
      clear k2
      have hS := HQ2.out w8 H8.out.2.1
      obtain ⟨y0, y1, y2⟩ := cells3 hS
      have f0 := frozen_own hS 0
      have f1 := frozen_own hS 1
      have f2 := frozen_own hS 2
      have hz2 := HK.out.2.2.1
      rcases hz2 with ⟨hz3, rfl⟩ | ⟨hz3, rfl⟩
      case' inl =>
        refine wpAnyH_take (i := 10) (oi := { dst := Option.some 72, op := Op.call { callee := Callee.builtin Builtin.max, args := #[Operand.tmp 64, Operand.tmp 71], argTypes := #[3, 3] }, type := 3, pos := "merge.go:23", after := #[{ on := 2, ground := Ground.data }, { on := 9, ground := Ground.data }], guard := Option.none }) (v := .int .i64 l.base) rfl (by kernel_rfl) (by kernel_rfl) (by kernel_rfl) (fun _ _ _ h => h) (Or.inl ⟨by rfl, ?_⟩) hHeld ?_
        · intro W hSw
          have hz4 : ¬ l.base < sm := by omega
          go_simp
        simp only [Act.put, List.setIfInBounds_toArray, List.set_cons_zero, List.set_cons_succ]
      case' inr =>
        refine wpAnyH_take (i := 10) (oi := { dst := Option.some 72, op := Op.call { callee := Callee.builtin Builtin.max, args := #[Operand.tmp 64, Operand.tmp 71], argTypes := #[3, 3] }, type := 3, pos := "merge.go:23", after := #[{ on := 2, ground := Ground.data }, { on := 9, ground := Ground.data }], guard := Option.none }) (v := .int .i64 zz) rfl (by kernel_rfl) (by kernel_rfl) (by kernel_rfl) (fun _ _ _ h => h) (Or.inl ⟨by rfl, ?_⟩) hHeld ?_
        · intro W hSw
          go_simp
        simp only [Act.put, List.setIfInBounds_toArray, List.set_cons_zero, List.set_cons_succ]
      all_goals
        refine wpAnyH_ready (rs := [11]) (by kernel_rfl) (by simp) ?_
        refine AllReadyH.cons (o := { dst := Option.none, op := Op.store 29 (Operand.tmp 8) (Operand.tmp 62), type := 0, pos := "merge.go:23", after := #[{ on := 0, ground := Ground.data }, { on := 8, ground := Ground.chain }, { on := 0, ground := Ground.phase }, { on := 1, ground := Ground.textOnly Departure.lateStores }, { on := 2, ground := Ground.textOnly Departure.lateStores }, { on := 3, ground := Ground.textOnly Departure.lateStores }, { on := 4, ground := Ground.textOnly Departure.lateStores }, { on := 5, ground := Ground.textOnly Departure.lateStoresUnsure }, { on := 6, ground := Ground.textOnly Departure.lateStores }, { on := 7, ground := Ground.textOnly Departure.lateStores }, { on := 8, ground := Ground.textOnly Departure.lateStoresUnsure }, { on := 9, ground := Ground.textOnly Departure.lateStoresUnsure }, { on := 10, ground := Ground.textOnly Departure.lateStoresUnsure }], guard := Option.none }) rfl (fun K hK => ?_) AllReadyH.nil
        go_simp
        obtain ⟨WF, hWF, z0, z1, z2, hbF, hoth, hsz2⟩ := logRes (b0 := .int .i64 l.base) (b1 := .int .i64 l.term) (b2 := .slice A5 q c5) hS (H21.out _ H8.out.2.1) (Nat.le_refl g2)
        unfold put3 at hWF
        rw [hWF]
        refine hK.out _ _ ⟨hbF, by rw [hoth q6 (by have := HB6.out; have := HE.out; omega)]; exact H8.out.2.2⟩ (fun hHeld2 => ?_)
        have HF := Lib.hid (And.intro hbF (And.intro hoth hsz2))
        clear hK K hHeld hbF hoth hsz2 hWF y0 y1 y2 f0 f1 f2 hS
        have hHeld := hHeld2
        clear hHeld2
      case' inl =>
        refine wpAnyH_take (i := 12) (oi := { dst := Option.some 9, op := Op.assign (Operand.tmp 72), type := 3, pos := "merge.go:23", after := #[{ on := 10, ground := Ground.data }, { on := 11, ground := Ground.chain }, { on := 0, ground := Ground.phase }, { on := 1, ground := Ground.phase }, { on := 2, ground := Ground.phase }, { on := 3, ground := Ground.phase }, { on := 4, ground := Ground.phase }, { on := 5, ground := Ground.phase }, { on := 6, ground := Ground.phase }, { on := 7, ground := Ground.phase }, { on := 8, ground := Ground.phase }, { on := 9, ground := Ground.phase }, { on := 10, ground := Ground.phase }, { on := 11, ground := Ground.phase }], guard := Option.none }) (v := .int .i64 l.base) rfl (by kernel_rfl) (by kernel_rfl) (by kernel_rfl) (fun _ _ _ h => h) (Or.inl ⟨by rfl, ?_⟩) hHeld ?_
        · intro W hSw
          go_simp
        simp only [Act.put, List.setIfInBounds_toArray, List.set_cons_zero, List.set_cons_succ]
      case' inr =>
        refine wpAnyH_take (i := 12) (oi := { dst := Option.some 9, op := Op.assign (Operand.tmp 72), type := 3, pos := "merge.go:23", after := #[{ on := 10, ground := Ground.data }, { on := 11, ground := Ground.chain }, { on := 0, ground := Ground.phase }, { on := 1, ground := Ground.phase }, { on := 2, ground := Ground.phase }, { on := 3, ground := Ground.phase }, { on := 4, ground := Ground.phase }, { on := 5, ground := Ground.phase }, { on := 6, ground := Ground.phase }, { on := 7, ground := Ground.phase }, { on := 8, ground := Ground.phase }, { on := 9, ground := Ground.phase }, { on := 10, ground := Ground.phase }, { on := 11, ground := Ground.phase }], guard := Option.none }) (v := .int .i64 zz) rfl (by kernel_rfl) (by kernel_rfl) (by kernel_rfl) (fun _ _ _ h => h) (Or.inl ⟨by rfl, ?_⟩) hHeld ?_
        · intro W hSw
          go_simp
        simp only [Act.put, List.setIfInBounds_toArray, List.set_cons_zero, List.set_cons_succ]
      all_goals
        refine wpAnyH_take (i := 13) (oi := { dst := Option.some 10, op := Op.assign (Operand.const (Value.bool true)), type := 4, pos := "merge.go:23", after := #[{ on := 12, ground := Ground.chain }, { on := 0, ground := Ground.phase }, { on := 1, ground := Ground.phase }, { on := 2, ground := Ground.phase }, { on := 3, ground := Ground.phase }, { on := 4, ground := Ground.phase }, { on := 5, ground := Ground.phase }, { on := 6, ground := Ground.phase }, { on := 7, ground := Ground.phase }, { on := 8, ground := Ground.phase }, { on := 9, ground := Ground.phase }, { on := 10, ground := Ground.phase }, { on := 11, ground := Ground.phase }, { on := 12, ground := Ground.phase }], guard := Option.none }) (v := .bool true) rfl (by kernel_rfl) (by kernel_rfl) (by kernel_rfl) (fun _ _ _ h => h) (Or.inl ⟨by rfl, ?_⟩) hHeld ?_
        · intro W hSw
          go_simp
        simp only [Act.put, List.setIfInBounds_toArray, List.set_cons_zero, List.set_cons_succ]
        clear hHeld
        refine wpAnyH_done (by kernel_rfl) ?_ _
        go_wp2_with fail
        refine bodyPost_ret (v := .tuple #[.agg #[.int .i64 l.base, .int .i64 l.term, .slice A5 q c5], .int .i64 _, .bool true]) ?_ rfl ⟨A5, c5, _, rfl, ?_, HE.out.1.trans (HF.out.1.mono (by have := HE.out; omega)), HZZ.out⟩
        · simp only [results, hres]
          go_simp
        · have hz1 := HB6.out
          have hz2 := HB.out.size
          have hz3 : w7.heap.size ≤ w8.heap.size := H8.out.1.size
          have hz5 := H8.out.1
          refine ⟨H5.out.2.2.1.move (fun b hb _ => ?_) fun b hb => ⟨Nat.le_trans HE.out.1.size hb.1, ?_⟩, H5.out.2.2.2⟩
          · have hb1 : b < W6.heap.size := by have := hb.2; omega
            rw [HF.out.2.1 b (by have := hb.1; have := HE.out; omega), hz5.block b (by have h7 := H67.out.size; show b < w7.heap.size; omega)]
            show w7.heap[b]? = _
            rw [H67.out.block b hb1]
            exact hz1.2.2.2.1.block b hb.2
          · rw [HF.out.2.2]
            have h7 := H67.out.size
            have := hb.2
            omega

end Go.Proofs.YtlngcfaadfkbnaaDoor.pk
