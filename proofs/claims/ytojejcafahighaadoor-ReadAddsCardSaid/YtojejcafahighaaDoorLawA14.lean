/-
  The law ReadAdds, over the contracts.
-/
import Derived.Test.YtojejcafahighaaDoorConQ
import Derived.Test.YtojejcafahighaaDoorNum
namespace Go.Proofs.YtojejcafahighaaDoor.pk
open Go Go.RowKit
set_option maxRecDepth 100000

set_option maxHeartbeats 16000000 in
theorem adds_true (C : ConQ) (lim : Int) (l : List It) (A : Option Addr) (n c : Nat) (x : It) (w : World) (hs : Std w) (h : Its w (.slice A n c) l) (hi : inI lim) (hx : x.inI) :
    Calls Tryd.prog 4 #[.agg #[.int .i64 lim, .slice A n c], .agg #[.int .i64 x.term, .int .i64 x.round, .int .i64 x.index, .int .i64 x.token]] w fun y w' => y = .returned (.bool true) ∧ Below w.heap.size w w' := by
  obtain ⟨W1, g, g2, hW1, hg, hg2, hbw, hq, hq2, hsz1⟩ := two_box w (.cells #[.int .i64 lim, .slice A n c] 24) (.cells #[.int .i64 x.term, .int .i64 x.round, .int .i64 x.index, .int .i64 x.token] 26)
  have HW := Lib.hid (And.intro hW1 (And.intro hg hg2))
  have HE := Lib.hid hbw
  obtain ⟨hn, hnc, hcm⟩ := h.len_
  have HI := Lib.hid (And.intro (h.below hbw) hn)
  have HS := Lib.hid fun W (hW : Below W1.heap.size W1 W) => (hs.below hs.size hbw).below (Nat.le_trans hs.size hbw.size) hW
  have HCL := Lib.hid (show ∀ W, Below W1.heap.size W1 W → (W.cell? ⟨g, 0, none⟩ = some (.int .i64 lim) ∧ W.cell? ⟨g, 1, none⟩ = some (.slice A n c)) ∧ (W.cell? ⟨g2, 0, none⟩ = some (.int .i64 x.term) ∧ W.cell? ⟨g2, 1, none⟩ = some (.int .i64 x.round) ∧ W.cell? ⟨g2, 2, none⟩ = some (.int .i64 x.index) ∧ W.cell? ⟨g2, 3, none⟩ = some (.int .i64 x.token)) from fun W hW => ⟨cells2 ((hW.block g (obj_lt hq)).trans hq), cells4 ((hW.block g2 (obj_lt hq2)).trans hq2)⟩)
  obtain ⟨⟨x0, x1⟩, y0, y1, y2, y3⟩ := HCL.out W1 (Below.refl _ _)
  have in1 : (n : Int) ≤ 9223372036854775807 := by omega
  have CS := Lib.hid fun W => sureQ C W
  by_cases hbig : 200 < (n : Int)
  · clear h hW1 hg hg2 hbw hq hq2 hsz1 hn hnc hcm
    go_enter Tryd.func4, Tryd.ntmps4
    go_upto_region 1 with fail
    rw [← HW.out.1, ← HW.out.2.1, ← HW.out.2.2]
    go_wp2_with (go_at_call 5; go_must (refine (CS.out _).mono ?_; rintro y w1 ⟨rfl, hb1⟩; have HB := Lib.hid (HE.out.trans (hb1.mono HE.out.size)); clear hb1))
    go_ret
    exact ⟨rfl, HB.out⟩
  · have hl : l.length ≤ 200 := by omega
    rcases hr : addQ lim l x with ⟨ql, qi, k⟩
    obtain ⟨m, hm⟩ : ∃ m, m = qi.length := ⟨_, rfl⟩
    have CG := Lib.hid fun W (hW : Below W1.heap.size W1 W) => give_any lim l A n c W (HI.out.1.below hW) (by omega)
    have CI := Lib.hid fun A' c' W (h : Its W (.slice A' n c') l) => C.addI h hi hx (by omega) _ hr.symm m hm
    have CN := Lib.hid fun A' c' W g (h : NIts W g (.slice A' n c') l) (hg : g < W.heap.size) => C.addN h hg hi hx (by omega) _ hr.symm m hm
    have CF := Lib.hid fun W (hW : Below W1.heap.size W1 W) => Add_ref lim l A n c x W (HI.out.1.below hW) hx (by omega) _ hr.symm m hm
    have CM := Lib.hid fun W hS => num_any k W hS
    clear h hW1 hg hg2 hbw hq hq2 hsz1 hn hnc hcm hl hs hr hm
    go_enter Tryd.func4, Tryd.ntmps4
    go_upto_region 1 with fail
    rw [← HW.out.1, ← HW.out.2.1, ← HW.out.2.2]
    go_upto_region 3 with fail
    go_cut [5, 6] (fun s5 s6 W => ∃ (gx : Nat) (A3 : Option Addr) (c3 : Nat) (V : World), V = W ∧ s5 = .pointer (some ⟨gx, 0, none⟩) ∧ s6 = er k ∧ Below W1.heap.size W1 V ∧ V.heap[gx]? = some (.cells #[.int .i64 ql, .slice A3 m c3] 31 (0, 0)) ∧ Its V (.slice A3 m c3) qi)
    case first =>
      clear x0 x1 y0 y1 y2 y3
      have hd0 : Below W1.heap.size W1 W1.drew := (Below.refl _ _).drew
      refine wp_region_held_drew (S := fun W => Below W1.heap.size W1 W) (by kernel_rfl) hd0 (fun hHeld => ?_)
      obtain ⟨v0, hv0⟩ : ∃ V, V = W1.drew := ⟨_, rfl⟩
      rw [← hv0] at hd0 hHeld ⊢
      have Kv0 := Lib.hid hd0
      clear hd0 hv0
      refine wpAnyH_take (i := 0) (oi := { dst := Option.some 15, op := Op.load 24 (Operand.tmp 2), type := 24, pos := "law.go:146", after := #[], guard := Option.none }) (v := .agg #[.int .i64 lim, .slice A n c]) rfl (by kernel_rfl) (by kernel_rfl) (by kernel_rfl) (fun _ _ _ h => h) (Or.inl ⟨by rfl, ?_⟩) hHeld ?_
      · intro W hSw
        obtain ⟨⟨z0, z1⟩, -⟩ := HCL.out _ hSw
        go_simp
      simp only [Act.put, List.setIfInBounds_toArray, List.set_cons_zero, List.set_cons_succ]
      refine wpAnyH_take (i := 2) (oi := { dst := Option.some 17, op := Op.load 26 (Operand.tmp 3), type := 26, pos := "law.go:146", after := #[], guard := Option.none }) (v := .agg #[.int .i64 x.term, .int .i64 x.round, .int .i64 x.index, .int .i64 x.token]) rfl (by kernel_rfl) (by kernel_rfl) (by kernel_rfl) (fun _ _ _ h => h) (Or.inl ⟨by rfl, ?_⟩) hHeld ?_
      · intro W hSw
        obtain ⟨-, z0, z1, z2, z3⟩ := HCL.out _ hSw
        go_simp
      simp only [Act.put, List.setIfInBounds_toArray, List.set_cons_zero, List.set_cons_succ]
      refine wpAnyH_ready (rs := [1, 7]) (by kernel_rfl) (by simp) ?_
      refine AllReadyH.cons (o := { dst := Option.some 16, op := Op.call { callee := Callee.value (Operand.func 6), args := #[Operand.tmp 15], argTypes := #[24] }, type := 31, pos := "law.go:146", after := #[{ on := 0, ground := Ground.data }], guard := Option.none }) rfl (fun K hK => ?_) (AllReadyH.cons (o := { dst := Option.some 5, op := Op.alloc 31, type := 0, pos := "law.go:146", after := #[], guard := Option.none }) rfl (fun K hK => ?_) AllReadyH.nil)
      rotate_left
      focus
        go_simp
        have hbz : Below W1.heap.size W1 (v0.alloc (.cells #[.int .i64 0, .slice none 0 0] 31)) := Kv0.out.alloc Kv0.out.size _
        have hqz := heap_alloc_new v0 (.cells #[.int .i64 0, .slice none 0 0] 31)
        refine hK.out _ _ hbz (fun hHeld2 => ?_)
        clear hK K hHeld
        have hHeld := hHeld2
        clear hHeld2
        obtain ⟨u1, hVA⟩ : ∃ W, W = v0.alloc (.cells #[.int .i64 0, .slice none 0 0] 31) := ⟨_, rfl⟩
        obtain ⟨gx, hgx⟩ : ∃ g, g = v0.heap.size := ⟨_, rfl⟩
        rw [← hVA] at hbz hqz hHeld ⊢
        rw [← hgx] at hqz ⊢
        have Ku1 := Lib.hid hbz
        have EG := Lib.hid (show W1.heap.size ≤ gx by rw [hgx]; exact Kv0.out.size)
        have EQ := Lib.hid hqz
        clear hbz hqz hVA hgx
        refine wpAnyH_ready (rs := [1]) (by kernel_rfl) (by simp) ?_
        refine AllReadyH.cons (o := { dst := Option.some 16, op := Op.call { callee := Callee.value (Operand.func 6), args := #[Operand.tmp 15], argTypes := #[24] }, type := 31, pos := "law.go:146", after := #[{ on := 0, ground := Ground.data }], guard := Option.none }) rfl (fun K hK => ?_) AllReadyH.nil
        go_simp
        refine (CG.out u1 Ku1.out).mono ?_
        rintro y v2 ⟨A1, c1, rfl, hi1, hsb⟩
        have hbz : Below W1.heap.size W1 v2 := Ku1.out.trans (hsb.mono Ku1.out.size)
        refine hK.out _ _ hbz (fun hHeld2 => ?_)
        clear hK K hHeld
        have hHeld := hHeld2
        clear hHeld2
        have Kv2 := Lib.hid hbz
        have mE1 := hi1.n_ (obj_lt EQ.out)
        have EQ := Lib.hid ((hsb.block gx (obj_lt EQ.out)).trans EQ.out)
        have E1 := Lib.hid mE1
        clear mE1
        clear hbz hsb hi1
        refine wpAnyH_ready (rs := [3]) (by kernel_rfl) (by simp) ?_
        refine AllReadyH.cons (o := { dst := Option.some 18, op := Op.call { callee := Callee.value (Operand.func 7), args := #[Operand.tmp 16, Operand.tmp 17], argTypes := #[31, 37] }, type := 35, pos := "law.go:146", after := #[{ on := 1, ground := Ground.data }, { on := 2, ground := Ground.data }, { on := 1, ground := Ground.chain }], guard := Option.none }) rfl (fun K hK => ?_) AllReadyH.nil
        go_simp
        refine (CN.out _ _ _ _ E1.out (obj_lt EQ.out)).mono ?_
        rintro y wF ⟨A3, c3, rfl, hi3, hsb⟩
        have hbz : Below W1.heap.size W1 wF := Kv2.out.trans (hsb.mono Kv2.out.size)
        refine hK.out _ _ hbz (fun hHeld2 => ?_)
        clear hK K hHeld
        have hHeld := hHeld2
        clear hHeld2
        have KwF := Lib.hid hbz
        have mE3 := hi3
        have EQ := Lib.hid ((hsb.block gx (obj_lt EQ.out)).trans EQ.out)
        have E3 := Lib.hid mE3
        clear mE3
        clear hbz hsb hi3 E1
        refine wpAnyH_take (i := 4) (oi := { dst := Option.some 14, op := Op.move (Operand.tmp 18), type := 35, pos := "law.go:146", after := #[{ on := 3, ground := Ground.data }], guard := Option.none }) (v := .tuple #[.agg #[.int .i64 ql, .slice A3 m c3], er k]) rfl (by kernel_rfl) (by kernel_rfl) (by kernel_rfl) (fun _ _ _ h => h) (Or.inl ⟨by rfl, ?_⟩) hHeld ?_
        · intro W hSw
          go_simp
        simp only [Act.put, List.setIfInBounds_toArray, List.set_cons_zero, List.set_cons_succ]
        refine wpAnyH_take (i := 5) (oi := { dst := Option.some 19, op := Op.extract (Operand.tmp 14) 0, type := 31, pos := "law.go:146", after := #[{ on := 4, ground := Ground.data }], guard := Option.none }) (v := .agg #[.int .i64 ql, .slice A3 m c3]) rfl (by kernel_rfl) (by kernel_rfl) (by kernel_rfl) (fun _ _ _ h => h) (Or.inl ⟨by rfl, ?_⟩) hHeld ?_
        · intro W hSw
          go_simp
        simp only [Act.put, List.setIfInBounds_toArray, List.set_cons_zero, List.set_cons_succ]
        refine wpAnyH_take (i := 6) (oi := { dst := Option.some 20, op := Op.extract (Operand.tmp 14) 1, type := 34, pos := "law.go:146", after := #[{ on := 4, ground := Ground.data }, { on := 8, ground := Ground.gcOnly Departure.lateStores }], guard := Option.none }) (v := er k) rfl (by kernel_rfl) (by kernel_rfl) (by kernel_rfl) (fun _ _ _ h => h) (Or.inl ⟨by rfl, ?_⟩) hHeld ?_
        · intro W hSw
          go_simp
        simp only [Act.put, List.setIfInBounds_toArray, List.set_cons_zero, List.set_cons_succ]
      rotate_left
      focus
        go_simp
        refine (CG.out v0 Kv0.out).mono ?_
        rintro y v1 ⟨A1, c1, rfl, hi1, hsb⟩
        have hbz : Below W1.heap.size W1 v1 := Kv0.out.trans (hsb.mono Kv0.out.size)
        refine hK.out _ _ hbz (fun hHeld2 => ?_)
        clear hK K hHeld
        have hHeld := hHeld2
        clear hHeld2
        have Kv1 := Lib.hid hbz
        have mE1 := hi1.its
        have E1 := Lib.hid mE1
        clear mE1
        clear hbz hsb hi1
        refine wpAnyH_ready (rs := [3, 7]) (by kernel_rfl) (by simp) ?_
        refine AllReadyH.cons (o := { dst := Option.some 18, op := Op.call { callee := Callee.value (Operand.func 7), args := #[Operand.tmp 16, Operand.tmp 17], argTypes := #[31, 37] }, type := 35, pos := "law.go:146", after := #[{ on := 1, ground := Ground.data }, { on := 2, ground := Ground.data }, { on := 1, ground := Ground.chain }], guard := Option.none }) rfl (fun K hK => ?_) (AllReadyH.cons (o := { dst := Option.some 5, op := Op.alloc 31, type := 0, pos := "law.go:146", after := #[], guard := Option.none }) rfl (fun K hK => ?_) AllReadyH.nil)
        rotate_left
        focus
          go_simp
          have hbz : Below W1.heap.size W1 (v1.alloc (.cells #[.int .i64 0, .slice none 0 0] 31)) := Kv1.out.alloc Kv1.out.size _
          have hqz := heap_alloc_new v1 (.cells #[.int .i64 0, .slice none 0 0] 31)
          have nE1 := NIts.box E1.out (.cells #[.int .i64 0, .slice none 0 0] 31)
          refine hK.out _ _ hbz (fun hHeld2 => ?_)
          clear hK K hHeld
          have hHeld := hHeld2
          clear hHeld2
          obtain ⟨u2, hVA⟩ : ∃ W, W = v1.alloc (.cells #[.int .i64 0, .slice none 0 0] 31) := ⟨_, rfl⟩
          obtain ⟨gx, hgx⟩ : ∃ g, g = v1.heap.size := ⟨_, rfl⟩
          rw [← hVA] at hbz hqz nE1 hHeld ⊢
          rw [← hgx] at hqz nE1 ⊢
          have Ku2 := Lib.hid hbz
          have EG := Lib.hid (show W1.heap.size ≤ gx by rw [hgx]; exact Kv1.out.size)
          have EQ := Lib.hid hqz
          have E1 := Lib.hid nE1
          clear hbz hqz nE1 hVA hgx
          refine wpAnyH_ready (rs := [3]) (by kernel_rfl) (by simp) ?_
          refine AllReadyH.cons (o := { dst := Option.some 18, op := Op.call { callee := Callee.value (Operand.func 7), args := #[Operand.tmp 16, Operand.tmp 17], argTypes := #[31, 37] }, type := 35, pos := "law.go:146", after := #[{ on := 1, ground := Ground.data }, { on := 2, ground := Ground.data }, { on := 1, ground := Ground.chain }], guard := Option.none }) rfl (fun K hK => ?_) AllReadyH.nil
          go_simp
          refine (CN.out _ _ _ _ E1.out (obj_lt EQ.out)).mono ?_
          rintro y wF ⟨A3, c3, rfl, hi3, hsb⟩
          have hbz : Below W1.heap.size W1 wF := Ku2.out.trans (hsb.mono Ku2.out.size)
          refine hK.out _ _ hbz (fun hHeld2 => ?_)
          clear hK K hHeld
          have hHeld := hHeld2
          clear hHeld2
          have KwF := Lib.hid hbz
          have mE3 := hi3
          have EQ := Lib.hid ((hsb.block gx (obj_lt EQ.out)).trans EQ.out)
          have E3 := Lib.hid mE3
          clear mE3
          clear hbz hsb hi3 E1
          refine wpAnyH_take (i := 4) (oi := { dst := Option.some 14, op := Op.move (Operand.tmp 18), type := 35, pos := "law.go:146", after := #[{ on := 3, ground := Ground.data }], guard := Option.none }) (v := .tuple #[.agg #[.int .i64 ql, .slice A3 m c3], er k]) rfl (by kernel_rfl) (by kernel_rfl) (by kernel_rfl) (fun _ _ _ h => h) (Or.inl ⟨by rfl, ?_⟩) hHeld ?_
          · intro W hSw
            go_simp
          simp only [Act.put, List.setIfInBounds_toArray, List.set_cons_zero, List.set_cons_succ]
          refine wpAnyH_take (i := 5) (oi := { dst := Option.some 19, op := Op.extract (Operand.tmp 14) 0, type := 31, pos := "law.go:146", after := #[{ on := 4, ground := Ground.data }], guard := Option.none }) (v := .agg #[.int .i64 ql, .slice A3 m c3]) rfl (by kernel_rfl) (by kernel_rfl) (by kernel_rfl) (fun _ _ _ h => h) (Or.inl ⟨by rfl, ?_⟩) hHeld ?_
          · intro W hSw
            go_simp
          simp only [Act.put, List.setIfInBounds_toArray, List.set_cons_zero, List.set_cons_succ]
          refine wpAnyH_take (i := 6) (oi := { dst := Option.some 20, op := Op.extract (Operand.tmp 14) 1, type := 34, pos := "law.go:146", after := #[{ on := 4, ground := Ground.data }, { on := 8, ground := Ground.gcOnly Departure.lateStores }], guard := Option.none }) (v := er k) rfl (by kernel_rfl) (by kernel_rfl) (by kernel_rfl) (fun _ _ _ h => h) (Or.inl ⟨by rfl, ?_⟩) hHeld ?_
          · intro W hSw
            go_simp
          simp only [Act.put, List.setIfInBounds_toArray, List.set_cons_zero, List.set_cons_succ]
        rotate_left
        focus
          go_simp
          refine (CI.out _ _ _ E1.out).mono ?_
          rintro y v2 ⟨A3, c3, rfl, hi3, hsb⟩
          have hbz : Below W1.heap.size W1 v2 := Kv1.out.trans (hsb.mono Kv1.out.size)
          refine hK.out _ _ hbz (fun hHeld2 => ?_)
          clear hK K hHeld
          have hHeld := hHeld2
          clear hHeld2
          have Kv2 := Lib.hid hbz
          have mE3 := hi3
          have E3 := Lib.hid mE3
          clear mE3
          clear hbz hsb hi3 E1
          refine wpAnyH_take (i := 4) (oi := { dst := Option.some 14, op := Op.move (Operand.tmp 18), type := 35, pos := "law.go:146", after := #[{ on := 3, ground := Ground.data }], guard := Option.none }) (v := .tuple #[.agg #[.int .i64 ql, .slice A3 m c3], er k]) rfl (by kernel_rfl) (by kernel_rfl) (by kernel_rfl) (fun _ _ _ h => h) (Or.inl ⟨by rfl, ?_⟩) hHeld ?_
          · intro W hSw
            go_simp
          simp only [Act.put, List.setIfInBounds_toArray, List.set_cons_zero, List.set_cons_succ]
          refine wpAnyH_take (i := 5) (oi := { dst := Option.some 19, op := Op.extract (Operand.tmp 14) 0, type := 31, pos := "law.go:146", after := #[{ on := 4, ground := Ground.data }], guard := Option.none }) (v := .agg #[.int .i64 ql, .slice A3 m c3]) rfl (by kernel_rfl) (by kernel_rfl) (by kernel_rfl) (fun _ _ _ h => h) (Or.inl ⟨by rfl, ?_⟩) hHeld ?_
          · intro W hSw
            go_simp
          simp only [Act.put, List.setIfInBounds_toArray, List.set_cons_zero, List.set_cons_succ]
          refine wpAnyH_take (i := 6) (oi := { dst := Option.some 20, op := Op.extract (Operand.tmp 14) 1, type := 34, pos := "law.go:146", after := #[{ on := 4, ground := Ground.data }, { on := 8, ground := Ground.gcOnly Departure.lateStores }], guard := Option.none }) (v := er k) rfl (by kernel_rfl) (by kernel_rfl) (by kernel_rfl) (fun _ _ _ h => h) (Or.inl ⟨by rfl, ?_⟩) hHeld ?_
          · intro W hSw
            go_simp
          simp only [Act.put, List.setIfInBounds_toArray, List.set_cons_zero, List.set_cons_succ]
          refine wpAnyH_ready (rs := [7]) (by kernel_rfl) (by simp) ?_
          refine AllReadyH.cons (o := { dst := Option.some 5, op := Op.alloc 31, type := 0, pos := "law.go:146", after := #[], guard := Option.none }) rfl (fun K hK => ?_) AllReadyH.nil
          go_simp
          have hbz : Below W1.heap.size W1 (v2.alloc (.cells #[.int .i64 0, .slice none 0 0] 31)) := Kv2.out.alloc Kv2.out.size _
          have hqz := heap_alloc_new v2 (.cells #[.int .i64 0, .slice none 0 0] 31)
          have nE3 := NIts.box E3.out (.cells #[.int .i64 0, .slice none 0 0] 31)
          refine hK.out _ _ hbz (fun hHeld2 => ?_)
          clear hK K hHeld
          have hHeld := hHeld2
          clear hHeld2
          obtain ⟨wF, hVA⟩ : ∃ W, W = v2.alloc (.cells #[.int .i64 0, .slice none 0 0] 31) := ⟨_, rfl⟩
          obtain ⟨gx, hgx⟩ : ∃ g, g = v2.heap.size := ⟨_, rfl⟩
          rw [← hVA] at hbz hqz nE3 hHeld ⊢
          rw [← hgx] at hqz nE3 ⊢
          have KwF := Lib.hid hbz
          have EG := Lib.hid (show W1.heap.size ≤ gx by rw [hgx]; exact Kv2.out.size)
          have EQ := Lib.hid hqz
          have E3 := Lib.hid nE3
          clear hbz hqz nE3 hVA hgx
      all_goals
        obtain ⟨z0, z1⟩ := cells2 EQ.out
        have f0 := frozen_own EQ.out 0
        have f1 := frozen_own EQ.out 1
        refine wpAnyH_ready (rs := [8]) (by kernel_rfl) (by simp) ?_
        refine AllReadyH.cons (o := { dst := Option.none, op := Op.store 31 (Operand.tmp 5) (Operand.tmp 19), type := 0, pos := "law.go:146", after := #[{ on := 7, ground := Ground.data }, { on := 5, ground := Ground.data }, { on := 3, ground := Ground.chain }, { on := 0, ground := Ground.phase }, { on := 1, ground := Ground.phase }, { on := 2, ground := Ground.phase }, { on := 3, ground := Ground.phase }, { on := 4, ground := Ground.phase }, { on := 5, ground := Ground.phase }, { on := 6, ground := Ground.textOnly Departure.lateStores }, { on := 7, ground := Ground.phase }], guard := Option.none }) rfl (fun K hK => ?_) AllReadyH.nil
        go_simp
        obtain ⟨WS, hWS⟩ : ∃ W, W = put2 wF gx (.int .i64 ql) (.slice A3 m c3) := ⟨_, rfl⟩
        have hbS := put2_below (b := gx) (v0 := .int .i64 ql) (v1 := .slice A3 m c3) KwF.out EG.out
        have hqS := put2_own EQ.out (.int .i64 ql) (.slice A3 m c3)
        have heS := NIts.put E3.out (.int .i64 ql) (.slice A3 m c3)
        rw [← hWS] at hbS hqS heS
        unfold put2 at hWS
        rw [← hWS]
        refine hK.out _ _ hbS (fun hHeld2 => ?_)
        clear hK K hHeld
        have hHeld := hHeld2
        clear hHeld2 hWS z0 z1 f0 f1
        refine wpAnyH_take (i := 9) (oi := { dst := Option.some 6, op := Op.assign (Operand.tmp 20), type := 34, pos := "law.go:146", after := #[{ on := 6, ground := Ground.data }, { on := 8, ground := Ground.chain }, { on := 0, ground := Ground.phase }, { on := 1, ground := Ground.phase }, { on := 2, ground := Ground.phase }, { on := 3, ground := Ground.phase }, { on := 4, ground := Ground.phase }, { on := 5, ground := Ground.phase }, { on := 6, ground := Ground.phase }, { on := 7, ground := Ground.phase }, { on := 8, ground := Ground.phase }], guard := Option.none }) (v := er k) rfl (by kernel_rfl) (by kernel_rfl) (by kernel_rfl) (fun _ _ _ h => h) (Or.inl ⟨by rfl, ?_⟩) hHeld ?_
        · intro W hSw
          go_simp
        simp only [Act.put, List.setIfInBounds_toArray, List.set_cons_zero, List.set_cons_succ]
        clear hHeld
        have HR := Lib.hid (And.intro hbS (And.intro hqS heS))
        clear hbS hqS heS
        refine wpAnyH_done (by kernel_rfl) ?_ _
        go_wp2_with fail
        go_meet
        exact ⟨gx, A3, c3, _, rfl, rfl, rfl, HR.out.1, HR.out.2.1, HR.out.2.2⟩
    case rest =>
      obtain ⟨gx, A3, c3, WS, rfl, rfl, rfl, hbS, hqS, heS⟩ := hcut
      have HB := Lib.hid (And.intro hbS (And.intro hqS heS))
      obtain ⟨⟨x0, x1⟩, y0, y1, y2, y3⟩ := HCL.out WS hbS
      clear hbS hqS heS
      go_upto_region 5 with (go_at_call 8; go_must (refine (CF.out WS HB.out.1).mono ?_; rintro y w4 ⟨A4, c4, rfl, hi4, hb4⟩; have H4 := Lib.hid (And.intro hi4 hb4); clear hi4 hb4))
      obtain ⟨W5, g5, hW5, hg5, hb5, hq5, -⟩ := one_box w4 (.cells #[.int .i64 ql, .slice A4 m c4] 24)
      rw [← hW5, ← hg5]
      have hb15 := HB.out.1.trans ((H4.out.2.trans (hb5.mono H4.out.2.size)).mono HB.out.1.size)
      have hbS5 := H4.out.2.trans (hb5.mono H4.out.2.size)
      obtain ⟨x0, x1⟩ := cells2 ((hbS5.block gx (obj_lt HB.out.2.1)).trans HB.out.2.1)
      obtain ⟨y0, y1⟩ := cells2 hq5
      have H5 := Lib.hid (And.intro hb15 (And.intro (HB.out.2.2.below hbS5) (H4.out.1.below hb5)))
      clear hW5 hg5 hb5 hq5 hb15 hbS5
      go_wp2_with (first
        | (go_at_call 14; go_must (refine (same_any ql qi A3 m c3 A4 m c4 W5 H5.out.2.1 H5.out.2.2).mono ?_; rintro y w6 ⟨rfl, hb6⟩; have H6 := Lib.hid (H5.out.1.trans (hb6.mono H5.out.1.size)); clear hb6))
        | (go_at_call 15; go_must (refine (CM.out w6 (HS.out w6 H6.out)).mono ?_; rintro y w7 ⟨rfl, hb7⟩; have H7 := Lib.hid (H6.out.trans (hb7.mono H6.out.size)); clear hb7))
        | (go_at_call 5; go_must (refine (CS.out _).mono ?_; rintro y w8 ⟨rfl, hb8⟩; have H8 := Lib.hid (H7.out.trans (hb8.mono H7.out.size)); clear hb8)))
      go_ret
      exact ⟨rfl, HE.out.trans (H8.out.mono HE.out.size)⟩

end Go.Proofs.YtojejcafahighaaDoor.pk
