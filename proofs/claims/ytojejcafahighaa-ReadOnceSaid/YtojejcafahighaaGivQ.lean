/-
  The law's own copy of a queue: give.
-/
import Derived.Test.YtojejcafahighaaRefK
namespace Go.Proofs.Ytojejcafahighaa.pk
open Go Go.RowKit
set_option maxRecDepth 100000

set_option maxHeartbeats 16000000 in
theorem give_any (lim : Int) (l : List It) (A : Option Addr) (n c : Nat) (w : World) (h : Its w (.slice A n c) l) (hl0 : l.length < 1000000) :
    Calls Try.prog 12 #[.agg #[.int .i64 lim, .slice A n c]] w fun y w' => ∃ A1 c1, y = .returned (.agg #[.int .i64 lim, .slice A1 n c1]) ∧ FIts w w' (.slice A1 n c1) l ∧ Below w.heap.size w w' := by
  obtain ⟨W1, g, g2, hW1, hg, hg2, hbw, hq, hq2, hsz1⟩ := two_box w (.cells #[.int .i64 lim, .slice A n c] 42) (.cells #[.int .i64 0, .slice none 0 0] 26)
  have HW := Lib.hid (And.intro hW1 (And.intro hg hg2))
  have HE := Lib.hid (And.intro hbw (And.intro (show w.heap.size ≤ g by omega) (And.intro (show g < g2 by omega) hsz1)))
  obtain ⟨hn, hnc, hcm⟩ := h.len_
  have HI := Lib.hid (And.intro (h.below hbw) (And.intro hn hl0))
  have HCL := Lib.hid (show ∀ W, Below g2 W1 W → W.cell? ⟨g, 0, none⟩ = some (.int .i64 lim) ∧ W.cell? ⟨g, 1, none⟩ = some (.slice A n c) from fun W hW => cells2 ((hW.block g (by omega)).trans hq))
  have HQ2 := Lib.hid (show ∀ W, Below W1.heap.size W1 W → W.heap[g2]? = some (.cells #[.int .i64 0, .slice none 0 0] 26 (0, 0)) from fun W hW => (hW.block g2 (obj_lt hq2)).trans hq2)
  have H21 := Lib.hid (show ∀ W, Below W1.heap.size W1 W → Below g2 W1 W from fun W hW => hW.mono (by omega))
  have hres : Try.f12.results = #[.cell 2 26] := by kernel_rfl
  obtain ⟨x0, x1⟩ := HCL.out W1 (Below.refl _ _)
  have in1 : (n : Int) ≤ 1000000 := by omega
  clear h hl0 hW1 hg hg2 hbw hq hq2 hsz1 hn hnc hcm
  go_enter Try.func12, Try.ntmps12
  go_upto_region 1 with fail
  rw [← HW.out.1, ← HW.out.2.1, ← HW.out.2.2]
  go_upto_region 2 with fail
  obtain ⟨W2, gx, hW2, hgx, hb2, hqx, hsz2⟩ := one_box W1 (.cells #[.int .i64 lim, .slice none 0 0] 26)
  rw [← hW2, ← hgx]
  have HB2 := Lib.hid (And.intro hb2 (And.intro hqx (And.intro hsz2 hgx)))
  clear hW2 hgx hb2 hqx hsz2 x0 x1
  go_wp2_with fail
  go_loopw [4] (fun ii wr => ∃ (j : Nat) (A4 : Option Addr) (c4 : Nat), j ≤ n ∧ ii = .int .i64 (j : Int) ∧ Hid (OwnI wr (gx + 1) 28 (.slice A4 j c4) (l.take j) ∧ wr.heap[gx]? = some (.cells #[.int .i64 lim, .slice A4 j c4] 26 (0, 0)) ∧ Below gx W2 wr)) (fun ii _ => n - (intOf ii).toNat)
  case atStart => exact ⟨0, none, 0, Nat.zero_le _, rfl, Lib.hid ⟨OwnI.nil_ _ _ _, HB2.out.2.1, Below.refl _ _⟩⟩
  case round =>
    obtain ⟨j, A4, c4, hj, rfl, HR⟩ := hrel
    have hb1r : Below W1.heap.size W1 wr := HB2.out.1.trans (HR.out.2.2.mono (by rw [HB2.out.2.2.2]; exact Nat.le_refl _))
    have HBR := Lib.hid hb1r
    obtain ⟨x0, x1⟩ := HCL.out wr (H21.out wr hb1r)
    have hgw : gx + 1 ≤ wr.heap.size := by have := HR.out.2.2.size; have := HB2.out.2.2.1; omega
    have HGW := Lib.hid hgw
    by_cases hlt : j < n
    · have ii : (j : Int) < (n : Int) := by omega
      have hjl : j < l.length := by have := HI.out.2; omega
      obtain ⟨bk, off, rfl, hbb, -⟩ := HI.out.1.1.at_ j hjl
      have hat := fun W (hW : Below W1.heap.size W1 W) => (HI.out.1.below hW).1.at_ j hjl
      have hxe : l.take (j + 1) = l.take j ++ [l[j]] := List.take_succ_eq_append_getElem hjl
      obtain ⟨x, hx⟩ : ∃ x, x = l[j] := ⟨_, rfl⟩
      rw [← hx] at hxe
      have HAT := Lib.hid (show ∀ W, Below W1.heap.size W1 W → W.cell? ⟨bk, off + j * 4, none⟩ = some (.int .i64 x.term) ∧ W.cell? ⟨bk, off + j * 4 + 1, none⟩ = some (.int .i64 x.round) ∧ W.cell? ⟨bk, off + j * 4 + 2, none⟩ = some (.int .i64 x.index) ∧ W.cell? ⟨bk, off + j * 4 + 3, none⟩ = some (.int .i64 x.token) from fun W hW => by
        obtain ⟨bk', off', hA, -, q0, q1, q2, q3⟩ := hat W hW
        injection hA with hA
        injection hA with e1 e2
        subst e1; subst e2
        rw [← hx] at q0 q1 q2 q3
        exact ⟨q0, q1, q2, q3⟩)
      have HXE := Lib.hid hxe
      have s0 : (0 : Int) ≤ (j : Int) := by omega
      clear hat hxe hx hbb hjl hb1r hgw
      go_upto_region 5 with fail
      have hd0 : Below W1.heap.size W1 wr.drew := HBR.out.drew
      have HD := Lib.hid hd0
      refine wp_region_held_drew (S := fun W => Below W1.heap.size W1 W) (by kernel_rfl) hd0 (fun hHeld => ?_)
      clear x0 x1 hd0
      refine wpAnyH_take (i := 0) (oi := { dst := Option.some 15, op := Op.fieldAddr 26 (Operand.tmp 3) 1, type := 0, pos := "law.go:41", after := #[], guard := Option.none }) (v := .pointer (some ⟨gx, 1, none⟩)) rfl (by kernel_rfl) (by kernel_rfl) (by kernel_rfl) (fun _ _ _ h => h) (Or.inl ⟨by rfl, ?_⟩) hHeld ?_
      · intro W hSw
        go_simp
      simp only [Act.put, List.setIfInBounds_toArray, List.set_cons_zero, List.set_cons_succ]
      refine wpAnyH_take (i := 2) (oi := { dst := Option.some 17, op := Op.fieldAddr 42 (Operand.tmp 1) 1, type := 0, pos := "law.go:41", after := #[], guard := Option.none }) (v := .pointer (some ⟨g, 1, none⟩)) rfl (by kernel_rfl) (by kernel_rfl) (by kernel_rfl) (fun _ _ _ h => h) (Or.inl ⟨by rfl, ?_⟩) hHeld ?_
      · intro W hSw
        obtain ⟨z0, z1⟩ := HCL.out _ (H21.out _ hSw); obtain ⟨y0, y1, y2, y3⟩ := HAT.out _ hSw
        go_simp
      simp only [Act.put, List.setIfInBounds_toArray, List.set_cons_zero, List.set_cons_succ]
      refine wpAnyH_take (i := 3) (oi := { dst := Option.some 18, op := Op.load 22 (Operand.tmp 17), type := 22, pos := "law.go:41", after := #[{ on := 2, ground := Ground.data }], guard := Option.none }) (v := .slice (some ⟨bk, off, none⟩) n c) rfl (by kernel_rfl) (by kernel_rfl) (by kernel_rfl) (fun _ _ _ h => h) (Or.inl ⟨by rfl, ?_⟩) hHeld ?_
      · intro W hSw
        obtain ⟨z0, z1⟩ := HCL.out _ (H21.out _ hSw); obtain ⟨y0, y1, y2, y3⟩ := HAT.out _ hSw
        go_simp
      simp only [Act.put, List.setIfInBounds_toArray, List.set_cons_zero, List.set_cons_succ]
      refine wpAnyH_take (i := 4) (oi := { dst := Option.some 19, op := Op.move (Operand.tmp 4), type := 3, pos := "law.go:41", after := #[], guard := Option.none }) (v := .int .i64 (j : Int)) rfl (by kernel_rfl) (by kernel_rfl) (by kernel_rfl) (fun _ _ _ h => h) (Or.inl ⟨by rfl, ?_⟩) hHeld ?_
      · intro W hSw
        obtain ⟨z0, z1⟩ := HCL.out _ (H21.out _ hSw); obtain ⟨y0, y1, y2, y3⟩ := HAT.out _ hSw
        go_simp
      simp only [Act.put, List.setIfInBounds_toArray, List.set_cons_zero, List.set_cons_succ]
      refine wpAnyH_take (i := 5) (oi := { dst := Option.some 20, op := Op.indexAddr 22 (Operand.tmp 18) (Operand.tmp 19), type := 0, pos := "law.go:41", after := #[{ on := 3, ground := Ground.data }, { on := 4, ground := Ground.data }], guard := Option.none }) (v := .pointer (some ⟨bk, off + j * 4, none⟩)) rfl (by kernel_rfl) (by kernel_rfl) (by kernel_rfl) (fun _ _ _ h => h) (Or.inl ⟨by rfl, ?_⟩) hHeld ?_
      · intro W hSw
        obtain ⟨z0, z1⟩ := HCL.out _ (H21.out _ hSw); obtain ⟨y0, y1, y2, y3⟩ := HAT.out _ hSw
        go_simp
      simp only [Act.put, List.setIfInBounds_toArray, List.set_cons_zero, List.set_cons_succ]
      refine wpAnyH_take (i := 6) (oi := { dst := Option.some 21, op := Op.load 29 (Operand.tmp 20), type := 29, pos := "law.go:41", after := #[{ on := 5, ground := Ground.data }], guard := Option.none }) (v := .agg #[.int .i64 x.term, .int .i64 x.round, .int .i64 x.index, .int .i64 x.token]) rfl (by kernel_rfl) (by kernel_rfl) (by kernel_rfl) (fun _ _ _ h => h) (Or.inl ⟨by rfl, ?_⟩) hHeld ?_
      · intro W hSw
        obtain ⟨z0, z1⟩ := HCL.out _ (H21.out _ hSw); obtain ⟨y0, y1, y2, y3⟩ := HAT.out _ hSw
        go_simp
      simp only [Act.put, List.setIfInBounds_toArray, List.set_cons_zero, List.set_cons_succ]
      refine wpAnyH_ready (rs := [1, 7]) (by kernel_rfl) (by simp) ?_
      refine AllReadyH.cons (o := { dst := Option.some 16, op := Op.load 24 (Operand.tmp 15), type := 24, pos := "law.go:41", after := #[{ on := 0, ground := Ground.data }], guard := Option.none }) rfl (fun K hK => ?o1) (AllReadyH.cons (o := { dst := Option.some 22, op := Op.buildSlice 24 1 #[(0, Operand.tmp 21)], type := 24, pos := "law.go:41", after := #[{ on := 6, ground := Ground.data }], guard := Option.none }) rfl (fun K hK => ?o2) AllReadyH.nil)
      case' o1 =>
        obtain ⟨z0, z1⟩ := cells2 (show wr.drew.heap[gx]? = _ from HR.out.2.1)
        go_simp
        refine hK.out _ _ HD.out (fun hHeld2 => ?_)
        clear hK K hHeld z0 z1
        refine wpAnyH_ready (rs := [7]) (by kernel_rfl) (by simp) ?_
        refine AllReadyH.cons (o := { dst := Option.some 22, op := Op.buildSlice 24 1 #[(0, Operand.tmp 21)], type := 24, pos := "law.go:41", after := #[{ on := 6, ground := Ground.data }], guard := Option.none }) rfl (fun K hK => ?_) AllReadyH.nil
        go_simp
        obtain ⟨W3, b3, hW3, hb3, hbb3, hq3, hsz3⟩ := one_box wr (.cells #[.int .i64 x.term, .int .i64 x.round, .int .i64 x.index, .int .i64 x.token] 28)
        rw [← hW3, ← hb3]
        have H3 := Lib.hid (And.intro hbb3 (And.intro hq3 hsz3))
        refine hK.out _ _ (HBR.out.trans (hbb3.mono HBR.out.size)).drew (fun hHeld => ?_)
        clear hK K hHeld2 hW3 hb3 hbb3 hq3 hsz3
      case' o2 =>
        go_simp
        obtain ⟨W3, b3, hW3, hb3, hbb3, hq3, hsz3⟩ := one_box wr (.cells #[.int .i64 x.term, .int .i64 x.round, .int .i64 x.index, .int .i64 x.token] 28)
        rw [← hW3, ← hb3]
        have H3 := Lib.hid (And.intro hbb3 (And.intro hq3 hsz3))
        have hb3' := (HBR.out.trans (hbb3.mono HBR.out.size)).drew
        refine hK.out _ _ hb3' (fun hHeld2 => ?_)
        clear hK K hHeld hW3 hb3 hbb3 hq3 hsz3
        obtain ⟨z0, z1⟩ := cells2 (show W3.drew.heap[gx]? = _ from (H3.out.1.block gx (by have := HGW.out; omega)).trans HR.out.2.1)
        refine wpAnyH_ready (rs := [1]) (by kernel_rfl) (by simp) ?_
        refine AllReadyH.cons (o := { dst := Option.some 16, op := Op.load 24 (Operand.tmp 15), type := 24, pos := "law.go:41", after := #[{ on := 0, ground := Ground.data }], guard := Option.none }) rfl (fun K hK => ?_) AllReadyH.nil
        go_simp
        refine hK.out _ _ hb3' (fun hHeld => ?_)
        clear hK K hHeld2 z0 z1 hb3'
      all_goals
        have hO3 := (HR.out.1.more H3.out.1).more (Below.refl W3.heap.size W3).drew
        refine wpAnyH_ready (rs := [8]) (by kernel_rfl) (by simp) ?_
        refine AllReadyH.cons (o := { dst := Option.some 23, op := Op.call { callee := Callee.builtin Builtin.append, args := #[Operand.tmp 16, Operand.tmp 22], argTypes := #[24, 24] }, type := 24, pos := "law.go:41", after := #[{ on := 1, ground := Ground.data }, { on := 7, ground := Ground.data }], guard := Option.none }) rfl (fun K hK => ?_) AllReadyH.nil
        refine step_op' rfl (wp_pushIt hO3 (.tmp 16) (.tmp 22) 24 Try.underlying24 info_it rfl rfl b3 x rfl H3.out.2.1 (by rw [List.length_take]; omega) (by have := HGW.out; have := H3.out.1.size; show gx + 1 ≤ W3.heap.size; omega) ?_)
        intro v5 w5 ho5 hg5 how5
        obtain ⟨A5, c5, rfl, -, -⟩ := ho5.form (j := j + 1) (by rw [List.length_append, List.length_take]; have := HI.out.2; simp only [List.length_singleton]; omega)
        have hzd : W3.drew.heap.size = W3.heap.size := rfl
        have hz3 := H3.out.1.size
        have hgw := HGW.out
        have hltL : ∀ k, (Value.slice A4 j c4).ownBlock = some k → gx + 1 ≤ k ∧ k < wr.heap.size := fun k hk => HR.out.1.lt k hk
        have hgx5 : w5.heap[gx]? = some (.cells #[.int .i64 lim, .slice A4 j c4] 26 (0, 0)) := by
          rw [hg5.block gx (by omega) (fun e => by have := (hltL gx e.symm).1; omega)]
          exact (H3.out.1.block gx (by omega)).trans HR.out.2.1
        have hb5 : Below gx W2 w5 := (HR.out.2.2.trans (H3.out.1.mono (by omega))).drew.grown hg5 (by omega) fun k hk => by have := (hltL k hk).1; omega
        have hb51 : Below W1.heap.size W1 w5 := HB2.out.1.trans (hb5.mono (by have := HB2.out.2.2.2; omega))
        have H5 := Lib.hid (And.intro ho5 (And.intro hgx5 (And.intro hb5 hb51)))
        refine hK.out _ _ hb51 (fun hHeld2 => ?_)
        clear hK K hHeld ho5 hg5 how5 hgx5 hb5 hb51 hzd hz3 hgw hltL hO3
        have hHeld := hHeld2
        clear hHeld2
        simp only [Act.put, List.setIfInBounds_toArray, List.set_cons_zero, List.set_cons_succ]
        refine wpAnyH_take (i := 9) (oi := { dst := Option.some 24, op := Op.fieldAddr 26 (Operand.tmp 3) 1, type := 0, pos := "law.go:41", after := #[{ on := 0, ground := Ground.phase }, { on := 1, ground := Ground.phase }, { on := 2, ground := Ground.phase }, { on := 3, ground := Ground.phase }, { on := 4, ground := Ground.phase }, { on := 5, ground := Ground.phase }, { on := 6, ground := Ground.phase }, { on := 7, ground := Ground.phase }, { on := 8, ground := Ground.phase }], guard := Option.none }) (v := .pointer (some ⟨gx, 1, none⟩)) rfl (by kernel_rfl) (by kernel_rfl) (by kernel_rfl) (fun _ _ _ h => h) (Or.inl ⟨by rfl, ?_⟩) hHeld ?_
        · intro W hSw
          go_simp
        simp only [Act.put, List.setIfInBounds_toArray, List.set_cons_zero, List.set_cons_succ]
        obtain ⟨z0, z1⟩ := cells2 H5.out.2.1
        have f1 := frozen_own H5.out.2.1 1
        refine wpAnyH_ready (rs := [10]) (by kernel_rfl) (by simp) ?_
        refine AllReadyH.cons (o := { dst := Option.none, op := Op.store 24 (Operand.tmp 24) (Operand.tmp 23), type := 0, pos := "law.go:41", after := #[{ on := 9, ground := Ground.data }, { on := 8, ground := Ground.data }, { on := 8, ground := Ground.chain }, { on := 0, ground := Ground.phase }, { on := 1, ground := Ground.phase }, { on := 2, ground := Ground.phase }, { on := 3, ground := Ground.phase }, { on := 4, ground := Ground.phase }, { on := 5, ground := Ground.phase }, { on := 6, ground := Ground.phase }, { on := 7, ground := Ground.phase }, { on := 8, ground := Ground.phase }], guard := Option.none }) rfl (fun K hK => ?_) AllReadyH.nil
        go_simp
        obtain ⟨W6, hW6⟩ : ∃ W, W = w5.setCell ⟨gx, 1, none⟩ (.slice A5 (j + 1) c5) := ⟨_, rfl⟩
        have hqx6 := set1_own (v := .slice A5 (j + 1) c5) H5.out.2.1
        have hb6 : Below gx W2 W6 := by rw [hW6]; exact H5.out.2.2.1.setCell (Nat.le_refl gx) _
        have hb61 : Below W1.heap.size W1 W6 := HB2.out.1.trans (hb6.mono (by have := HB2.out.2.2.2; omega))
        have ho6 : OwnI W6 (gx + 1) 28 (.slice A5 (j + 1) c5) (l.take (j + 1)) := by
          rw [HXE.out, hW6]
          exact H5.out.1.kept fun k hk => Below.heap_setCell _ _ _ _ (show k ≠ gx by have := (H5.out.1.lt k hk).1; omega)
        rw [← hW6] at hqx6 ⊢
        have H6 := Lib.hid (And.intro ho6 (And.intro hqx6 hb6))
        refine hK.out _ _ hb61 (fun hHeld2 => ?_)
        clear hK K hHeld hHeld2 z0 z1 f1 hW6 hqx6 hb6 hb61 ho6
        refine wpAnyH_done (by kernel_rfl) ?_ _
        go_wp2_with fail
        go_roundw
        case rel => exact ⟨j + 1, A5, c5, by omega, by go_num, H6⟩
        case measure => simp [intOf]; omega
    · obtain rfl : j = n := by omega
      have ii : ¬ (j : Int) < (j : Int) := by omega
      have htk : l.take j = l := List.take_of_length_le (by have := HI.out.2; omega)
      rw [htk] at HR
      have hl4 := HR.out.1.its (fun k => gx + 1 ≤ k ∧ k < wr.heap.size) fun k hk => HR.out.1.lt k hk
      have HL4 := Lib.hid hl4
      obtain ⟨z0, z1⟩ := cells2 HR.out.2.1
      have hS := HQ2.out wr hb1r
      obtain ⟨y0, y1⟩ := cells2 hS
      have f0 := frozen_own hS 0
      have f1 := frozen_own hS 1
      have HSS := Lib.hid hS
      clear htk hl4 hS hb1r hgw
      go_wp2_with fail
      obtain ⟨WF, hWF, u0, u1, hbF, hoth, hsz2⟩ := queRes (b0 := .int .i64 lim) (b1 := .slice A4 j c4) HSS.out (HE.out.1.trans (HBR.out.mono HE.out.1.size)) (show w.heap.size ≤ g2 by have := HE.out; omega)
      unfold put2 at hWF
      rw [hWF]
      have HF := Lib.hid (And.intro hbF (And.intro hoth hsz2))
      clear hbF hoth hsz2 hWF x0 x1 z0 z1 y0 y1 f0 f1
      refine bodyPost_ret (v := .agg #[.int .i64 lim, .slice A4 j c4]) ?_ rfl ⟨A4, c4, rfl, ⟨HL4.out.move (fun k hk _ => HF.out.2.1 k (by have := hk.1; have := HB2.out.2.2.2; have := HE.out; omega)) fun k hk => ⟨by have := hk.1; have := HB2.out.2.2.2; have := HE.out.1.size; omega, by rw [HF.out.2.2]; exact hk.2⟩, HI.out.1.2⟩, HF.out.1⟩
      simp only [results, hres]
      go_simp

end Go.Proofs.Ytojejcafahighaa.pk
