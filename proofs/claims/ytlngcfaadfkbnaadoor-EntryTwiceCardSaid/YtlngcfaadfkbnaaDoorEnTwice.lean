/-
  The law EntryTwice: walked.
-/
import Derived.Test.YtlngcfaadfkbnaaDoorEnOne
namespace Go.Proofs.YtlngcfaadfkbnaaDoor.pk
open Go Go.RowKit
set_option maxRecDepth 100000

set_option maxHeartbeats 64000000 in
theorem twice_true (C : ConG) (l : Lg) (A : Option Addr) (n c : Nat) (mi mt : Int) (A' : Option Addr) (n' c' : Nat) (mo : List En) (w : World) (hG : StdG w) (h : Ents w (.slice A n c) l.l) (h' : Ents w (.slice A' n' c') mo) (hi : inI l.base) (ht : inI l.term) (hmi : inI mi) (hmt : inI mt) (hd : ∀ e ∈ l.l, e.data.length ≤ 140737488355328) (hd' : ∀ e ∈ mo, e.data.length ≤ 140737488355328) :
    Calls Tryd.prog 5 #[.agg #[.int .i64 l.base, .int .i64 l.term, .slice A n c], .agg #[.int .i64 mi, .int .i64 mt, .slice A' n' c']] w fun y w' => y = .returned (.bool true) ∧ Below w.heap.size w w' := by
  obtain ⟨W1, g, gm, hW1, hg, hgm, hb1, hq, hq2, hsz⟩ := two_box w (.cells #[.int .i64 l.base, .int .i64 l.term, .slice A n c] 24) (.cells #[.int .i64 mi, .int .i64 mt, .slice A' n' c'] 54)
  have HW := Lib.hid (And.intro hW1 (And.intro hg hgm))
  have HE := Lib.hid hb1
  have hcells : ∀ W, Below W1.heap.size W1 W → (W.cell? ⟨g, 0, none⟩ = some (.int .i64 l.base) ∧ W.cell? ⟨g, 1, none⟩ = some (.int .i64 l.term) ∧ W.cell? ⟨g, 2, none⟩ = some (.slice A n c)) ∧ (W.cell? ⟨gm, 0, none⟩ = some (.int .i64 mi) ∧ W.cell? ⟨gm, 1, none⟩ = some (.int .i64 mt) ∧ W.cell? ⟨gm, 2, none⟩ = some (.slice A' n' c')) := fun W hW => ⟨cells3 ((hW.block g (obj_lt hq)).trans hq), cells3 ((hW.block gm (obj_lt hq2)).trans hq2)⟩
  have HCL := Lib.hid hcells
  obtain ⟨⟨x0, x1, x2⟩, ⟨y0, y1, y2⟩⟩ := hcells W1 (Below.refl _ _)
  obtain ⟨lo, hlo⟩ : ∃ b, b = longE l.l := ⟨_, rfl⟩
  obtain ⟨lo', hlo'⟩ : ∃ b, b = longE mo := ⟨_, rfl⟩
  have HL := Lib.hid (long_any A n c l.l W1 (h.below hb1) hd lo hlo)
  have HL' := Lib.hid (long_any A' n' c' mo W1 (h'.below hb1) hd' lo' hlo')
  by_cases hlong : lo = true ∨ (lo = false ∧ lo' = true)
  · clear h h' hi ht hmi hmt hd hd' hlo hlo' hW1 hg hgm hb1 hq hq2 hsz hcells
    rcases hlong with rfl | ⟨rfl, rfl⟩
    all_goals
      go_enter Tryd.func5, Tryd.ntmps5
      go_upto_region 1 with fail
      rw [← HW.out.1, ← HW.out.2.1, ← HW.out.2.2]
      go_wp2_with (first
        | (go_at_call 8; first
            | (with_reducible refine HL.out.mono ?_; rintro y w1 ⟨rfl, rfl⟩)
            | (with_reducible refine HL'.out.mono ?_; rintro y w1 ⟨rfl, rfl⟩))
        | (go_at_call 9; go_must (refine (sureG C _).mono ?_; rintro y w2 ⟨rfl, hb2⟩; have HB2 := Lib.hid (HE.out.trans (hb2.mono HE.out.size)); clear hb2)))
      go_ret
      exact ⟨rfl, HB2.out⟩
  · obtain ⟨rfl, rfl⟩ : lo = false ∧ lo' = false := by
      cases lo <;> cases lo' <;> simp_all
    have hsm := longE_small hlo.symm
    have hsm' := longE_small hlo'.symm
    have HG := Lib.hid fun W (hW : Below w.heap.size w W) => giveLog_any l A n c W (h.below hW) (small_more hsm (by omega) (by omega))
    have HG' := Lib.hid fun W (hW : Below w.heap.size w W) => (giveEntries_any A' n' c' mo W (h'.below hW) (small_more hsm' (by omega) (by omega))).mono fun y w' ⟨A1, c1, hy, he, hb⟩ => show ∃ A1 c1, y = Ending.returned (.slice A1 n' c1) ∧ Ents w' (.slice A1 n' c1) mo ∧ Below W.heap.size W w' from ⟨A1, c1, hy, ⟨he.move (fun _ _ _ => rfl) fun _ hk => hk.2, h'.2⟩, hb⟩
    obtain ⟨m, hm⟩ : ∃ m, m = outE l mi mt mo := ⟨_, rfl⟩
    obtain ⟨ok, hok⟩ : ∃ b, b = okE l mi mt mo := ⟨_, rfl⟩
    obtain ⟨z, hz⟩ : ∃ z, z = atM l mi mt mo := ⟨_, rfl⟩
    obtain ⟨q, hq'⟩ : ∃ q, q = m.l.length := ⟨_, rfl⟩
    have HMg := Lib.hid fun A1 c1 A2 c2 W (h1 : Ents W (.slice A1 n c1) l.l) (h2 : Ents W (.slice A2 n' c2) mo) => gMerge_any C l A1 n c1 mi mt A2 n' c2 mo W h1 hi ht (small_more hsm (by omega) (by omega)) hmi hmt h2 (small_more hsm' (by omega) (by omega)) m hm ok hok z hz q hq'
    have hmsm : SmallE 1000 100000 m.l := by rw [hm]; exact outE_small hsm hsm'
    have HM := Lib.hid (And.intro hm (And.intro hok (And.intro hz (And.intro hq' hmsm))))
    have HS := Lib.hid (And.intro hsm hsm')
    have HN := Lib.hid (And.intro h (And.intro h' (And.intro hi (And.intro ht (And.intro hmi hmt)))))
    clear h h' hi ht hmi hmt hd hd' hlo hlo' hlong hW1 hg hgm hb1 hq hq2 hsz hcells hsm hsm' hm hok hz hq' hmsm
    go_enter Tryd.func5, Tryd.ntmps5
    go_upto_region 1 with fail
    rw [← HW.out.1, ← HW.out.2.1, ← HW.out.2.2]
    go_upto_region 3 with (go_at_call 8; first
      | (with_reducible refine HL.out.mono ?_; rintro y w1 ⟨rfl, rfl⟩)
      | (with_reducible refine HL'.out.mono ?_; rintro y w1 ⟨rfl, rfl⟩))
    go_cut [5, 6, 7] (fun s5 s6 s7 W => ∃ (gx : Nat) (A3 : Option Addr) (c3 : Nat) (zz : Int) (V : World), V = W ∧ s5 = .pointer (some ⟨gx, 0, none⟩) ∧ s6 = .int .i64 zz ∧ s7 = .bool ok ∧ Below W1.heap.size W1 V ∧ V.heap[gx]? = some (.cells #[.int .i64 m.base, .int .i64 m.term, .slice A3 q c3] 29 (0, 0)) ∧ Ents V (.slice A3 q c3) m.l ∧ (ok = true → zz = z))
    case first =>
      have hd0 : Below W1.heap.size W1 W1.drew := (Below.refl _ _).drew
      refine wp_region_held_drew (S := fun W => Below W1.heap.size W1 W) (by kernel_rfl) hd0 (fun hHeld => ?_)
      obtain ⟨v0, hv0⟩ : ∃ V, V = W1.drew := ⟨_, rfl⟩
      rw [← hv0] at hd0 hHeld ⊢
      have Kv0 := Lib.hid hd0
      clear hd0 hv0 x0 x1 x2 y0 y1 y2
      refine wpAnyH_take (i := 0) (oi := { dst := Option.some 22, op := Op.load 24 (Operand.tmp 2), type := 24, pos := "law.go:215", after := #[], guard := Option.none }) (v := .agg #[.int .i64 l.base, .int .i64 l.term, .slice A n c]) rfl (by kernel_rfl) (by kernel_rfl) (by kernel_rfl) (fun _ _ _ h => h) (Or.inl ⟨by rfl, ?_⟩) hHeld ?_
      · intro W hSw
        obtain ⟨⟨z0, z1, z2⟩, -⟩ := HCL.out _ hSw
        go_simp
      simp only [Act.put, List.setIfInBounds_toArray, List.set_cons_zero, List.set_cons_succ]
      refine wpAnyH_take (i := 2) (oi := { dst := Option.some 24, op := Op.fieldAddr 54 (Operand.tmp 3) 0, type := 0, pos := "law.go:215", after := #[], guard := Option.none }) (v := .pointer (some ⟨gm, 0, none⟩)) rfl (by kernel_rfl) (by kernel_rfl) (by kernel_rfl) (fun _ _ _ h => h) (Or.inl ⟨by rfl, ?_⟩) hHeld ?_
      · intro W hSw
        obtain ⟨-, ⟨z0, z1, z2⟩⟩ := HCL.out _ hSw
        go_simp
      simp only [Act.put, List.setIfInBounds_toArray, List.set_cons_zero, List.set_cons_succ]
      refine wpAnyH_take (i := 3) (oi := { dst := Option.some 25, op := Op.load 3 (Operand.tmp 24), type := 3, pos := "law.go:215", after := #[{ on := 2, ground := Ground.data }], guard := Option.none }) (v := .int .i64 mi) rfl (by kernel_rfl) (by kernel_rfl) (by kernel_rfl) (fun _ _ _ h => h) (Or.inl ⟨by rfl, ?_⟩) hHeld ?_
      · intro W hSw
        obtain ⟨-, ⟨z0, z1, z2⟩⟩ := HCL.out _ hSw
        go_simp
      simp only [Act.put, List.setIfInBounds_toArray, List.set_cons_zero, List.set_cons_succ]
      refine wpAnyH_take (i := 4) (oi := { dst := Option.some 26, op := Op.fieldAddr 54 (Operand.tmp 3) 1, type := 0, pos := "law.go:215", after := #[], guard := Option.none }) (v := .pointer (some ⟨gm, 1, none⟩)) rfl (by kernel_rfl) (by kernel_rfl) (by kernel_rfl) (fun _ _ _ h => h) (Or.inl ⟨by rfl, ?_⟩) hHeld ?_
      · intro W hSw
        obtain ⟨-, ⟨z0, z1, z2⟩⟩ := HCL.out _ hSw
        go_simp
      simp only [Act.put, List.setIfInBounds_toArray, List.set_cons_zero, List.set_cons_succ]
      refine wpAnyH_take (i := 5) (oi := { dst := Option.some 27, op := Op.load 3 (Operand.tmp 26), type := 3, pos := "law.go:215", after := #[{ on := 4, ground := Ground.data }], guard := Option.none }) (v := .int .i64 mt) rfl (by kernel_rfl) (by kernel_rfl) (by kernel_rfl) (fun _ _ _ h => h) (Or.inl ⟨by rfl, ?_⟩) hHeld ?_
      · intro W hSw
        obtain ⟨-, ⟨z0, z1, z2⟩⟩ := HCL.out _ hSw
        go_simp
      simp only [Act.put, List.setIfInBounds_toArray, List.set_cons_zero, List.set_cons_succ]
      refine wpAnyH_take (i := 6) (oi := { dst := Option.some 28, op := Op.fieldAddr 54 (Operand.tmp 3) 2, type := 0, pos := "law.go:215", after := #[], guard := Option.none }) (v := .pointer (some ⟨gm, 2, none⟩)) rfl (by kernel_rfl) (by kernel_rfl) (by kernel_rfl) (fun _ _ _ h => h) (Or.inl ⟨by rfl, ?_⟩) hHeld ?_
      · intro W hSw
        obtain ⟨-, ⟨z0, z1, z2⟩⟩ := HCL.out _ hSw
        go_simp
      simp only [Act.put, List.setIfInBounds_toArray, List.set_cons_zero, List.set_cons_succ]
      refine wpAnyH_take (i := 7) (oi := { dst := Option.some 29, op := Op.load 22 (Operand.tmp 28), type := 22, pos := "law.go:215", after := #[{ on := 6, ground := Ground.data }], guard := Option.none }) (v := .slice A' n' c') rfl (by kernel_rfl) (by kernel_rfl) (by kernel_rfl) (fun _ _ _ h => h) (Or.inl ⟨by rfl, ?_⟩) hHeld ?_
      · intro W hSw
        obtain ⟨-, ⟨z0, z1, z2⟩⟩ := HCL.out _ hSw
        go_simp
      simp only [Act.put, List.setIfInBounds_toArray, List.set_cons_zero, List.set_cons_succ]
      refine wpAnyH_ready (rs := [1, 14]) (by kernel_rfl) (by simp) ?_
      refine AllReadyH.cons (o := { dst := Option.some 23, op := Op.call { callee := Callee.value (Operand.func 10), args := #[Operand.tmp 22], argTypes := #[24] }, type := 29, pos := "law.go:215", after := #[{ on := 0, ground := Ground.data }], guard := Option.none }) rfl (fun K hK => ?_) (AllReadyH.cons (o := { dst := Option.some 5, op := Op.alloc 29, type := 0, pos := "law.go:215", after := #[], guard := Option.none }) rfl (fun K hK => ?_) AllReadyH.nil)
      rotate_left
      focus
        go_simp
        have hbz : Below W1.heap.size W1 (v0.alloc (.cells #[.int .i64 0, .int .i64 0, .slice none 0 0] 29)) := Kv0.out.alloc Kv0.out.size _
        have hqz := heap_alloc_new v0 (.cells #[.int .i64 0, .int .i64 0, .slice none 0 0] 29)
        have hsb := below_alloc v0 (.cells #[.int .i64 0, .int .i64 0, .slice none 0 0] 29)
        refine hK.out _ _ hbz (fun hHeld2 => ?_)
        clear hK K hHeld
        have hHeld := hHeld2
        clear hHeld2
        obtain ⟨u1, hVA⟩ : ∃ W, W = v0.alloc (.cells #[.int .i64 0, .int .i64 0, .slice none 0 0] 29) := ⟨_, rfl⟩
        obtain ⟨gx, hgx⟩ : ∃ g, g = v0.heap.size := ⟨_, rfl⟩
        rw [← hVA] at hbz hqz hsb hHeld ⊢
        rw [← hgx] at hqz ⊢
        have Ku1 := Lib.hid hbz
        have EG := Lib.hid (show W1.heap.size ≤ gx by rw [hgx]; exact Kv0.out.size)
        have EQ := Lib.hid hqz
        clear hbz hqz hsb hVA hgx
        refine wpAnyH_ready (rs := [1]) (by kernel_rfl) (by simp) ?_
        refine AllReadyH.cons (o := { dst := Option.some 23, op := Op.call { callee := Callee.value (Operand.func 10), args := #[Operand.tmp 22], argTypes := #[24] }, type := 29, pos := "law.go:215", after := #[{ on := 0, ground := Ground.data }], guard := Option.none }) rfl (fun K hK => ?_) AllReadyH.nil
        go_simp
        refine (HG.out _ (HE.out.trans (Ku1.out.mono HE.out.size))).mono ?_
        rintro y v2 ⟨A1, c1, rfl, hi, hsb⟩
        have hbz : Below W1.heap.size W1 v2 := Ku1.out.trans (hsb.mono Ku1.out.size)
        refine hK.out _ _ hbz (fun hHeld2 => ?_)
        clear hK K hHeld
        have hHeld := hHeld2
        clear hHeld2
        have Kv2 := Lib.hid hbz
        have EQ := Lib.hid ((hsb.block gx (obj_lt EQ.out)).trans EQ.out)
        have E1 := Lib.hid hi
        clear hbz hsb hi
        refine wpAnyH_ready (rs := [8]) (by kernel_rfl) (by simp) ?_
        refine AllReadyH.cons (o := { dst := Option.some 30, op := Op.call { callee := Callee.value (Operand.func 23), args := #[Operand.tmp 29], argTypes := #[22] }, type := 27, pos := "law.go:215", after := #[{ on := 7, ground := Ground.data }, { on := 1, ground := Ground.chain }], guard := Option.none }) rfl (fun K hK => ?_) AllReadyH.nil
        go_simp
        refine (HG'.out _ (HE.out.trans (Kv2.out.mono HE.out.size))).mono ?_
        rintro y v3 ⟨A2, c2, rfl, hi, hsb⟩
        have hbz : Below W1.heap.size W1 v3 := Kv2.out.trans (hsb.mono Kv2.out.size)
        refine hK.out _ _ hbz (fun hHeld2 => ?_)
        clear hK K hHeld
        have hHeld := hHeld2
        clear hHeld2
        have Kv3 := Lib.hid hbz
        have E1 := Lib.hid (E1.out.below hsb)
        have EQ := Lib.hid ((hsb.block gx (obj_lt EQ.out)).trans EQ.out)
        have E2 := Lib.hid (show Ents v3 (.slice A2 n' c2) mo from hi)
        clear hbz hsb hi
        refine wpAnyH_ready (rs := [9]) (by kernel_rfl) (by simp) ?_
        refine AllReadyH.cons (o := { dst := Option.some 31, op := Op.call { callee := Callee.value (Operand.func 22), args := #[Operand.tmp 23, Operand.tmp 25, Operand.tmp 27, Operand.tmp 30], argTypes := #[29, 3, 3, 27] }, type := 55, pos := "law.go:215", after := #[{ on := 1, ground := Ground.data }, { on := 3, ground := Ground.data }, { on := 5, ground := Ground.data }, { on := 8, ground := Ground.data }, { on := 8, ground := Ground.chain }], guard := Option.none }) rfl (fun K hK => ?_) AllReadyH.nil
        go_simp
        refine (HMg.out _ _ _ _ _ E1.out E2.out).mono ?_
        rintro y wF ⟨A3, c3, zz, rfl, hi, hsb, hzz⟩
        have hbz : Below W1.heap.size W1 wF := Kv3.out.trans (hsb.mono Kv3.out.size)
        refine hK.out _ _ hbz (fun hHeld2 => ?_)
        clear hK K hHeld
        have hHeld := hHeld2
        clear hHeld2
        have KwF := Lib.hid hbz
        have E3 := Lib.hid (EntsT.move hi.1 (T' := fun k => k < wF.heap.size ∧ k ≠ gx) (fun _ _ _ => rfl) fun k hk => ⟨hk.2, by have := hk.1; have := obj_lt EQ.out; omega⟩)
        have E1 := Lib.hid (E1.out.below hsb)
        have E2 := Lib.hid (E2.out.below hsb)
        have EQ := Lib.hid ((hsb.block gx (obj_lt EQ.out)).trans EQ.out)
        have EO := Lib.hid hi.2
        have EZ := Lib.hid hzz
        clear hzz
        clear hbz hsb hi
        refine wpAnyH_take (i := 10) (oi := { dst := Option.some 21, op := Op.move (Operand.tmp 31), type := 55, pos := "law.go:215", after := #[{ on := 9, ground := Ground.data }], guard := Option.none }) (v := .tuple #[.agg #[.int .i64 m.base, .int .i64 m.term, .slice A3 q c3], .int .i64 zz, .bool ok]) rfl (by kernel_rfl) (by kernel_rfl) (by kernel_rfl) (fun _ _ _ h => h) (Or.inl ⟨by rfl, ?_⟩) hHeld ?_
        · intro W hSw
          go_simp
        simp only [Act.put, List.setIfInBounds_toArray, List.set_cons_zero, List.set_cons_succ]
        refine wpAnyH_take (i := 11) (oi := { dst := Option.some 32, op := Op.extract (Operand.tmp 21) 0, type := 29, pos := "law.go:215", after := #[{ on := 10, ground := Ground.data }], guard := Option.none }) (v := .agg #[.int .i64 m.base, .int .i64 m.term, .slice A3 q c3]) rfl (by kernel_rfl) (by kernel_rfl) (by kernel_rfl) (fun _ _ _ h => h) (Or.inl ⟨by rfl, ?_⟩) hHeld ?_
        · intro W hSw
          go_simp
        simp only [Act.put, List.setIfInBounds_toArray, List.set_cons_zero, List.set_cons_succ]
        refine wpAnyH_take (i := 12) (oi := { dst := Option.some 33, op := Op.extract (Operand.tmp 21) 1, type := 3, pos := "law.go:215", after := #[{ on := 10, ground := Ground.data }, { on := 15, ground := Ground.gcOnly Departure.lateStores }], guard := Option.none }) (v := .int .i64 zz) rfl (by kernel_rfl) (by kernel_rfl) (by kernel_rfl) (fun _ _ _ h => h) (Or.inl ⟨by rfl, ?_⟩) hHeld ?_
        · intro W hSw
          go_simp
        simp only [Act.put, List.setIfInBounds_toArray, List.set_cons_zero, List.set_cons_succ]
        refine wpAnyH_take (i := 13) (oi := { dst := Option.some 34, op := Op.extract (Operand.tmp 21) 2, type := 4, pos := "law.go:215", after := #[{ on := 10, ground := Ground.data }, { on := 16, ground := Ground.gcOnly Departure.lateStores }], guard := Option.none }) (v := .bool ok) rfl (by kernel_rfl) (by kernel_rfl) (by kernel_rfl) (fun _ _ _ h => h) (Or.inl ⟨by rfl, ?_⟩) hHeld ?_
        · intro W hSw
          go_simp
        simp only [Act.put, List.setIfInBounds_toArray, List.set_cons_zero, List.set_cons_succ]
      rotate_left
      focus
        go_simp
        refine (HG.out _ (HE.out.trans (Kv0.out.mono HE.out.size))).mono ?_
        rintro y v1 ⟨A1, c1, rfl, hi, hsb⟩
        have hbz : Below W1.heap.size W1 v1 := Kv0.out.trans (hsb.mono Kv0.out.size)
        refine hK.out _ _ hbz (fun hHeld2 => ?_)
        clear hK K hHeld
        have hHeld := hHeld2
        clear hHeld2
        have Kv1 := Lib.hid hbz
        have E1 := Lib.hid hi
        clear hbz hsb hi
        refine wpAnyH_ready (rs := [8, 14]) (by kernel_rfl) (by simp) ?_
        refine AllReadyH.cons (o := { dst := Option.some 30, op := Op.call { callee := Callee.value (Operand.func 23), args := #[Operand.tmp 29], argTypes := #[22] }, type := 27, pos := "law.go:215", after := #[{ on := 7, ground := Ground.data }, { on := 1, ground := Ground.chain }], guard := Option.none }) rfl (fun K hK => ?_) (AllReadyH.cons (o := { dst := Option.some 5, op := Op.alloc 29, type := 0, pos := "law.go:215", after := #[], guard := Option.none }) rfl (fun K hK => ?_) AllReadyH.nil)
        rotate_left
        focus
          go_simp
          have hbz : Below W1.heap.size W1 (v1.alloc (.cells #[.int .i64 0, .int .i64 0, .slice none 0 0] 29)) := Kv1.out.alloc Kv1.out.size _
          have hqz := heap_alloc_new v1 (.cells #[.int .i64 0, .int .i64 0, .slice none 0 0] 29)
          have hsb := below_alloc v1 (.cells #[.int .i64 0, .int .i64 0, .slice none 0 0] 29)
          refine hK.out _ _ hbz (fun hHeld2 => ?_)
          clear hK K hHeld
          have hHeld := hHeld2
          clear hHeld2
          obtain ⟨u2, hVA⟩ : ∃ W, W = v1.alloc (.cells #[.int .i64 0, .int .i64 0, .slice none 0 0] 29) := ⟨_, rfl⟩
          obtain ⟨gx, hgx⟩ : ∃ g, g = v1.heap.size := ⟨_, rfl⟩
          rw [← hVA] at hbz hqz hsb hHeld ⊢
          rw [← hgx] at hqz ⊢
          have Ku2 := Lib.hid hbz
          have EG := Lib.hid (show W1.heap.size ≤ gx by rw [hgx]; exact Kv1.out.size)
          have E1 := Lib.hid (E1.out.below hsb)
          have EQ := Lib.hid hqz
          clear hbz hqz hsb hVA hgx
          refine wpAnyH_ready (rs := [8]) (by kernel_rfl) (by simp) ?_
          refine AllReadyH.cons (o := { dst := Option.some 30, op := Op.call { callee := Callee.value (Operand.func 23), args := #[Operand.tmp 29], argTypes := #[22] }, type := 27, pos := "law.go:215", after := #[{ on := 7, ground := Ground.data }, { on := 1, ground := Ground.chain }], guard := Option.none }) rfl (fun K hK => ?_) AllReadyH.nil
          go_simp
          refine (HG'.out _ (HE.out.trans (Ku2.out.mono HE.out.size))).mono ?_
          rintro y v3 ⟨A2, c2, rfl, hi, hsb⟩
          have hbz : Below W1.heap.size W1 v3 := Ku2.out.trans (hsb.mono Ku2.out.size)
          refine hK.out _ _ hbz (fun hHeld2 => ?_)
          clear hK K hHeld
          have hHeld := hHeld2
          clear hHeld2
          have Kv3 := Lib.hid hbz
          have E1 := Lib.hid (E1.out.below hsb)
          have EQ := Lib.hid ((hsb.block gx (obj_lt EQ.out)).trans EQ.out)
          have E2 := Lib.hid (show Ents v3 (.slice A2 n' c2) mo from hi)
          clear hbz hsb hi
          refine wpAnyH_ready (rs := [9]) (by kernel_rfl) (by simp) ?_
          refine AllReadyH.cons (o := { dst := Option.some 31, op := Op.call { callee := Callee.value (Operand.func 22), args := #[Operand.tmp 23, Operand.tmp 25, Operand.tmp 27, Operand.tmp 30], argTypes := #[29, 3, 3, 27] }, type := 55, pos := "law.go:215", after := #[{ on := 1, ground := Ground.data }, { on := 3, ground := Ground.data }, { on := 5, ground := Ground.data }, { on := 8, ground := Ground.data }, { on := 8, ground := Ground.chain }], guard := Option.none }) rfl (fun K hK => ?_) AllReadyH.nil
          go_simp
          refine (HMg.out _ _ _ _ _ E1.out E2.out).mono ?_
          rintro y wF ⟨A3, c3, zz, rfl, hi, hsb, hzz⟩
          have hbz : Below W1.heap.size W1 wF := Kv3.out.trans (hsb.mono Kv3.out.size)
          refine hK.out _ _ hbz (fun hHeld2 => ?_)
          clear hK K hHeld
          have hHeld := hHeld2
          clear hHeld2
          have KwF := Lib.hid hbz
          have E3 := Lib.hid (EntsT.move hi.1 (T' := fun k => k < wF.heap.size ∧ k ≠ gx) (fun _ _ _ => rfl) fun k hk => ⟨hk.2, by have := hk.1; have := obj_lt EQ.out; omega⟩)
          have E1 := Lib.hid (E1.out.below hsb)
          have E2 := Lib.hid (E2.out.below hsb)
          have EQ := Lib.hid ((hsb.block gx (obj_lt EQ.out)).trans EQ.out)
          have EO := Lib.hid hi.2
          have EZ := Lib.hid hzz
          clear hzz
          clear hbz hsb hi
          refine wpAnyH_take (i := 10) (oi := { dst := Option.some 21, op := Op.move (Operand.tmp 31), type := 55, pos := "law.go:215", after := #[{ on := 9, ground := Ground.data }], guard := Option.none }) (v := .tuple #[.agg #[.int .i64 m.base, .int .i64 m.term, .slice A3 q c3], .int .i64 zz, .bool ok]) rfl (by kernel_rfl) (by kernel_rfl) (by kernel_rfl) (fun _ _ _ h => h) (Or.inl ⟨by rfl, ?_⟩) hHeld ?_
          · intro W hSw
            go_simp
          simp only [Act.put, List.setIfInBounds_toArray, List.set_cons_zero, List.set_cons_succ]
          refine wpAnyH_take (i := 11) (oi := { dst := Option.some 32, op := Op.extract (Operand.tmp 21) 0, type := 29, pos := "law.go:215", after := #[{ on := 10, ground := Ground.data }], guard := Option.none }) (v := .agg #[.int .i64 m.base, .int .i64 m.term, .slice A3 q c3]) rfl (by kernel_rfl) (by kernel_rfl) (by kernel_rfl) (fun _ _ _ h => h) (Or.inl ⟨by rfl, ?_⟩) hHeld ?_
          · intro W hSw
            go_simp
          simp only [Act.put, List.setIfInBounds_toArray, List.set_cons_zero, List.set_cons_succ]
          refine wpAnyH_take (i := 12) (oi := { dst := Option.some 33, op := Op.extract (Operand.tmp 21) 1, type := 3, pos := "law.go:215", after := #[{ on := 10, ground := Ground.data }, { on := 15, ground := Ground.gcOnly Departure.lateStores }], guard := Option.none }) (v := .int .i64 zz) rfl (by kernel_rfl) (by kernel_rfl) (by kernel_rfl) (fun _ _ _ h => h) (Or.inl ⟨by rfl, ?_⟩) hHeld ?_
          · intro W hSw
            go_simp
          simp only [Act.put, List.setIfInBounds_toArray, List.set_cons_zero, List.set_cons_succ]
          refine wpAnyH_take (i := 13) (oi := { dst := Option.some 34, op := Op.extract (Operand.tmp 21) 2, type := 4, pos := "law.go:215", after := #[{ on := 10, ground := Ground.data }, { on := 16, ground := Ground.gcOnly Departure.lateStores }], guard := Option.none }) (v := .bool ok) rfl (by kernel_rfl) (by kernel_rfl) (by kernel_rfl) (fun _ _ _ h => h) (Or.inl ⟨by rfl, ?_⟩) hHeld ?_
          · intro W hSw
            go_simp
          simp only [Act.put, List.setIfInBounds_toArray, List.set_cons_zero, List.set_cons_succ]
        rotate_left
        focus
          go_simp
          refine (HG'.out _ (HE.out.trans (Kv1.out.mono HE.out.size))).mono ?_
          rintro y v2 ⟨A2, c2, rfl, hi, hsb⟩
          have hbz : Below W1.heap.size W1 v2 := Kv1.out.trans (hsb.mono Kv1.out.size)
          refine hK.out _ _ hbz (fun hHeld2 => ?_)
          clear hK K hHeld
          have hHeld := hHeld2
          clear hHeld2
          have Kv2 := Lib.hid hbz
          have E1 := Lib.hid (E1.out.below hsb)
          have E2 := Lib.hid (show Ents v2 (.slice A2 n' c2) mo from hi)
          clear hbz hsb hi
          refine wpAnyH_ready (rs := [9, 14]) (by kernel_rfl) (by simp) ?_
          refine AllReadyH.cons (o := { dst := Option.some 31, op := Op.call { callee := Callee.value (Operand.func 22), args := #[Operand.tmp 23, Operand.tmp 25, Operand.tmp 27, Operand.tmp 30], argTypes := #[29, 3, 3, 27] }, type := 55, pos := "law.go:215", after := #[{ on := 1, ground := Ground.data }, { on := 3, ground := Ground.data }, { on := 5, ground := Ground.data }, { on := 8, ground := Ground.data }, { on := 8, ground := Ground.chain }], guard := Option.none }) rfl (fun K hK => ?_) (AllReadyH.cons (o := { dst := Option.some 5, op := Op.alloc 29, type := 0, pos := "law.go:215", after := #[], guard := Option.none }) rfl (fun K hK => ?_) AllReadyH.nil)
          rotate_left
          focus
            go_simp
            have hbz : Below W1.heap.size W1 (v2.alloc (.cells #[.int .i64 0, .int .i64 0, .slice none 0 0] 29)) := Kv2.out.alloc Kv2.out.size _
            have hqz := heap_alloc_new v2 (.cells #[.int .i64 0, .int .i64 0, .slice none 0 0] 29)
            have hsb := below_alloc v2 (.cells #[.int .i64 0, .int .i64 0, .slice none 0 0] 29)
            refine hK.out _ _ hbz (fun hHeld2 => ?_)
            clear hK K hHeld
            have hHeld := hHeld2
            clear hHeld2
            obtain ⟨u3, hVA⟩ : ∃ W, W = v2.alloc (.cells #[.int .i64 0, .int .i64 0, .slice none 0 0] 29) := ⟨_, rfl⟩
            obtain ⟨gx, hgx⟩ : ∃ g, g = v2.heap.size := ⟨_, rfl⟩
            rw [← hVA] at hbz hqz hsb hHeld ⊢
            rw [← hgx] at hqz ⊢
            have Ku3 := Lib.hid hbz
            have EG := Lib.hid (show W1.heap.size ≤ gx by rw [hgx]; exact Kv2.out.size)
            have E1 := Lib.hid (E1.out.below hsb)
            have E2 := Lib.hid (E2.out.below hsb)
            have EQ := Lib.hid hqz
            clear hbz hqz hsb hVA hgx
            refine wpAnyH_ready (rs := [9]) (by kernel_rfl) (by simp) ?_
            refine AllReadyH.cons (o := { dst := Option.some 31, op := Op.call { callee := Callee.value (Operand.func 22), args := #[Operand.tmp 23, Operand.tmp 25, Operand.tmp 27, Operand.tmp 30], argTypes := #[29, 3, 3, 27] }, type := 55, pos := "law.go:215", after := #[{ on := 1, ground := Ground.data }, { on := 3, ground := Ground.data }, { on := 5, ground := Ground.data }, { on := 8, ground := Ground.data }, { on := 8, ground := Ground.chain }], guard := Option.none }) rfl (fun K hK => ?_) AllReadyH.nil
            go_simp
            refine (HMg.out _ _ _ _ _ E1.out E2.out).mono ?_
            rintro y wF ⟨A3, c3, zz, rfl, hi, hsb, hzz⟩
            have hbz : Below W1.heap.size W1 wF := Ku3.out.trans (hsb.mono Ku3.out.size)
            refine hK.out _ _ hbz (fun hHeld2 => ?_)
            clear hK K hHeld
            have hHeld := hHeld2
            clear hHeld2
            have KwF := Lib.hid hbz
            have E3 := Lib.hid (EntsT.move hi.1 (T' := fun k => k < wF.heap.size ∧ k ≠ gx) (fun _ _ _ => rfl) fun k hk => ⟨hk.2, by have := hk.1; have := obj_lt EQ.out; omega⟩)
            have E1 := Lib.hid (E1.out.below hsb)
            have E2 := Lib.hid (E2.out.below hsb)
            have EQ := Lib.hid ((hsb.block gx (obj_lt EQ.out)).trans EQ.out)
            have EO := Lib.hid hi.2
            have EZ := Lib.hid hzz
            clear hzz
            clear hbz hsb hi
            refine wpAnyH_take (i := 10) (oi := { dst := Option.some 21, op := Op.move (Operand.tmp 31), type := 55, pos := "law.go:215", after := #[{ on := 9, ground := Ground.data }], guard := Option.none }) (v := .tuple #[.agg #[.int .i64 m.base, .int .i64 m.term, .slice A3 q c3], .int .i64 zz, .bool ok]) rfl (by kernel_rfl) (by kernel_rfl) (by kernel_rfl) (fun _ _ _ h => h) (Or.inl ⟨by rfl, ?_⟩) hHeld ?_
            · intro W hSw
              go_simp
            simp only [Act.put, List.setIfInBounds_toArray, List.set_cons_zero, List.set_cons_succ]
            refine wpAnyH_take (i := 11) (oi := { dst := Option.some 32, op := Op.extract (Operand.tmp 21) 0, type := 29, pos := "law.go:215", after := #[{ on := 10, ground := Ground.data }], guard := Option.none }) (v := .agg #[.int .i64 m.base, .int .i64 m.term, .slice A3 q c3]) rfl (by kernel_rfl) (by kernel_rfl) (by kernel_rfl) (fun _ _ _ h => h) (Or.inl ⟨by rfl, ?_⟩) hHeld ?_
            · intro W hSw
              go_simp
            simp only [Act.put, List.setIfInBounds_toArray, List.set_cons_zero, List.set_cons_succ]
            refine wpAnyH_take (i := 12) (oi := { dst := Option.some 33, op := Op.extract (Operand.tmp 21) 1, type := 3, pos := "law.go:215", after := #[{ on := 10, ground := Ground.data }, { on := 15, ground := Ground.gcOnly Departure.lateStores }], guard := Option.none }) (v := .int .i64 zz) rfl (by kernel_rfl) (by kernel_rfl) (by kernel_rfl) (fun _ _ _ h => h) (Or.inl ⟨by rfl, ?_⟩) hHeld ?_
            · intro W hSw
              go_simp
            simp only [Act.put, List.setIfInBounds_toArray, List.set_cons_zero, List.set_cons_succ]
            refine wpAnyH_take (i := 13) (oi := { dst := Option.some 34, op := Op.extract (Operand.tmp 21) 2, type := 4, pos := "law.go:215", after := #[{ on := 10, ground := Ground.data }, { on := 16, ground := Ground.gcOnly Departure.lateStores }], guard := Option.none }) (v := .bool ok) rfl (by kernel_rfl) (by kernel_rfl) (by kernel_rfl) (fun _ _ _ h => h) (Or.inl ⟨by rfl, ?_⟩) hHeld ?_
            · intro W hSw
              go_simp
            simp only [Act.put, List.setIfInBounds_toArray, List.set_cons_zero, List.set_cons_succ]
          rotate_left
          focus
            go_simp
            refine (HMg.out _ _ _ _ _ E1.out E2.out).mono ?_
            rintro y v3 ⟨A3, c3, zz, rfl, hi, hsb, hzz⟩
            have hbz : Below W1.heap.size W1 v3 := Kv2.out.trans (hsb.mono Kv2.out.size)
            refine hK.out _ _ hbz (fun hHeld2 => ?_)
            clear hK K hHeld
            have hHeld := hHeld2
            clear hHeld2
            have Kv3 := Lib.hid hbz
            have E1 := Lib.hid (E1.out.below hsb)
            have E2 := Lib.hid (E2.out.below hsb)
            have E3 := Lib.hid hi
            have EO := Lib.hid hi.2
            have EZ := Lib.hid hzz
            clear hzz
            clear hbz hsb hi
            refine wpAnyH_take (i := 10) (oi := { dst := Option.some 21, op := Op.move (Operand.tmp 31), type := 55, pos := "law.go:215", after := #[{ on := 9, ground := Ground.data }], guard := Option.none }) (v := .tuple #[.agg #[.int .i64 m.base, .int .i64 m.term, .slice A3 q c3], .int .i64 zz, .bool ok]) rfl (by kernel_rfl) (by kernel_rfl) (by kernel_rfl) (fun _ _ _ h => h) (Or.inl ⟨by rfl, ?_⟩) hHeld ?_
            · intro W hSw
              go_simp
            simp only [Act.put, List.setIfInBounds_toArray, List.set_cons_zero, List.set_cons_succ]
            refine wpAnyH_take (i := 11) (oi := { dst := Option.some 32, op := Op.extract (Operand.tmp 21) 0, type := 29, pos := "law.go:215", after := #[{ on := 10, ground := Ground.data }], guard := Option.none }) (v := .agg #[.int .i64 m.base, .int .i64 m.term, .slice A3 q c3]) rfl (by kernel_rfl) (by kernel_rfl) (by kernel_rfl) (fun _ _ _ h => h) (Or.inl ⟨by rfl, ?_⟩) hHeld ?_
            · intro W hSw
              go_simp
            simp only [Act.put, List.setIfInBounds_toArray, List.set_cons_zero, List.set_cons_succ]
            refine wpAnyH_take (i := 12) (oi := { dst := Option.some 33, op := Op.extract (Operand.tmp 21) 1, type := 3, pos := "law.go:215", after := #[{ on := 10, ground := Ground.data }, { on := 15, ground := Ground.gcOnly Departure.lateStores }], guard := Option.none }) (v := .int .i64 zz) rfl (by kernel_rfl) (by kernel_rfl) (by kernel_rfl) (fun _ _ _ h => h) (Or.inl ⟨by rfl, ?_⟩) hHeld ?_
            · intro W hSw
              go_simp
            simp only [Act.put, List.setIfInBounds_toArray, List.set_cons_zero, List.set_cons_succ]
            refine wpAnyH_take (i := 13) (oi := { dst := Option.some 34, op := Op.extract (Operand.tmp 21) 2, type := 4, pos := "law.go:215", after := #[{ on := 10, ground := Ground.data }, { on := 16, ground := Ground.gcOnly Departure.lateStores }], guard := Option.none }) (v := .bool ok) rfl (by kernel_rfl) (by kernel_rfl) (by kernel_rfl) (fun _ _ _ h => h) (Or.inl ⟨by rfl, ?_⟩) hHeld ?_
            · intro W hSw
              go_simp
            simp only [Act.put, List.setIfInBounds_toArray, List.set_cons_zero, List.set_cons_succ]
            refine wpAnyH_ready (rs := [14]) (by kernel_rfl) (by simp) ?_
            refine AllReadyH.cons (o := { dst := Option.some 5, op := Op.alloc 29, type := 0, pos := "law.go:215", after := #[], guard := Option.none }) rfl (fun K hK => ?_) AllReadyH.nil
            go_simp
            have hbz : Below W1.heap.size W1 (v3.alloc (.cells #[.int .i64 0, .int .i64 0, .slice none 0 0] 29)) := Kv3.out.alloc Kv3.out.size _
            have hqz := heap_alloc_new v3 (.cells #[.int .i64 0, .int .i64 0, .slice none 0 0] 29)
            have hsb := below_alloc v3 (.cells #[.int .i64 0, .int .i64 0, .slice none 0 0] 29)
            refine hK.out _ _ hbz (fun hHeld2 => ?_)
            clear hK K hHeld
            have hHeld := hHeld2
            clear hHeld2
            obtain ⟨wF, hVA⟩ : ∃ W, W = v3.alloc (.cells #[.int .i64 0, .int .i64 0, .slice none 0 0] 29) := ⟨_, rfl⟩
            obtain ⟨gx, hgx⟩ : ∃ g, g = v3.heap.size := ⟨_, rfl⟩
            rw [← hVA] at hbz hqz hsb hHeld ⊢
            rw [← hgx] at hqz ⊢
            have KwF := Lib.hid hbz
            have EG := Lib.hid (show W1.heap.size ≤ gx by rw [hgx]; exact Kv3.out.size)
            have E1 := Lib.hid (E1.out.below hsb)
            have E2 := Lib.hid (E2.out.below hsb)
            have E3 := Lib.hid (EntsT.move E3.out.1 (T' := fun k => k < wF.heap.size ∧ k ≠ gx) (fun k hk _ => hsb.block k hk.2) fun k hk => ⟨Nat.lt_of_lt_of_le hk.2 hsb.size, by have := hk.2; omega⟩)
            have EQ := Lib.hid hqz
            clear hbz hqz hsb hVA hgx
      all_goals
        obtain ⟨z0, z1, z2⟩ := cells3 EQ.out
        have f0 := frozen_own EQ.out 0
        have f1 := frozen_own EQ.out 1
        have f2 := frozen_own EQ.out 2
        refine wpAnyH_ready (rs := [15]) (by kernel_rfl) (by simp) ?_
        refine AllReadyH.cons (o := { dst := Option.none, op := Op.store 29 (Operand.tmp 5) (Operand.tmp 32), type := 0, pos := "law.go:215", after := #[{ on := 14, ground := Ground.data }, { on := 11, ground := Ground.data }, { on := 9, ground := Ground.chain }, { on := 0, ground := Ground.phase }, { on := 1, ground := Ground.phase }, { on := 2, ground := Ground.phase }, { on := 3, ground := Ground.phase }, { on := 4, ground := Ground.phase }, { on := 5, ground := Ground.phase }, { on := 6, ground := Ground.phase }, { on := 7, ground := Ground.phase }, { on := 8, ground := Ground.phase }, { on := 9, ground := Ground.phase }, { on := 10, ground := Ground.phase }, { on := 11, ground := Ground.phase }, { on := 12, ground := Ground.textOnly Departure.lateStores }, { on := 13, ground := Ground.textOnly Departure.lateStores }, { on := 14, ground := Ground.phase }], guard := Option.none }) rfl (fun K hK => ?_) AllReadyH.nil
        go_simp
        obtain ⟨WS, hWS⟩ : ∃ W, W = put3 wF gx (.int .i64 m.base) (.int .i64 m.term) (.slice A3 q c3) := ⟨_, rfl⟩
        have hbS := put3_below (b := gx) (v0 := .int .i64 m.base) (v1 := .int .i64 m.term) (v2 := .slice A3 q c3) KwF.out EG.out
        have hqS := put3_own EQ.out (.int .i64 m.base) (.int .i64 m.term) (.slice A3 q c3)
        have heS : EntsT (put3 wF gx (.int .i64 m.base) (.int .i64 m.term) (.slice A3 q c3)) (fun k => k < (put3 wF gx (.int .i64 m.base) (.int .i64 m.term) (.slice A3 q c3)).heap.size) (.slice A3 q c3) m.l := EntsT.move E3.out (fun k hk _ => put3_other _ _ _ _ _ k hk.2) fun k hk => by rw [put3_size]; exact hk.1
        rw [← hWS] at hbS hqS heS
        unfold put3 at hWS
        rw [← hWS]
        refine hK.out _ _ hbS (fun hHeld2 => ?_)
        clear hK K hHeld
        have hHeld := hHeld2
        clear hHeld2 hWS z0 z1 z2 f0 f1 f2
        refine wpAnyH_take (i := 16) (oi := { dst := Option.some 6, op := Op.assign (Operand.tmp 33), type := 3, pos := "law.go:215", after := #[{ on := 12, ground := Ground.data }, { on := 15, ground := Ground.chain }, { on := 0, ground := Ground.phase }, { on := 1, ground := Ground.phase }, { on := 2, ground := Ground.phase }, { on := 3, ground := Ground.phase }, { on := 4, ground := Ground.phase }, { on := 5, ground := Ground.phase }, { on := 6, ground := Ground.phase }, { on := 7, ground := Ground.phase }, { on := 8, ground := Ground.phase }, { on := 9, ground := Ground.phase }, { on := 10, ground := Ground.phase }, { on := 11, ground := Ground.phase }, { on := 12, ground := Ground.phase }, { on := 13, ground := Ground.textOnly Departure.lateStores }, { on := 14, ground := Ground.phase }, { on := 15, ground := Ground.phase }], guard := Option.none }) (v := .int .i64 zz) rfl (by kernel_rfl) (by kernel_rfl) (by kernel_rfl) (fun _ _ _ h => h) (Or.inl ⟨by rfl, ?_⟩) hHeld ?_
        · intro W hSw
          go_simp
        simp only [Act.put, List.setIfInBounds_toArray, List.set_cons_zero, List.set_cons_succ]
        refine wpAnyH_take (i := 17) (oi := { dst := Option.some 7, op := Op.assign (Operand.tmp 34), type := 4, pos := "law.go:215", after := #[{ on := 13, ground := Ground.data }, { on := 16, ground := Ground.chain }, { on := 0, ground := Ground.phase }, { on := 1, ground := Ground.phase }, { on := 2, ground := Ground.phase }, { on := 3, ground := Ground.phase }, { on := 4, ground := Ground.phase }, { on := 5, ground := Ground.phase }, { on := 6, ground := Ground.phase }, { on := 7, ground := Ground.phase }, { on := 8, ground := Ground.phase }, { on := 9, ground := Ground.phase }, { on := 10, ground := Ground.phase }, { on := 11, ground := Ground.phase }, { on := 12, ground := Ground.phase }, { on := 13, ground := Ground.phase }, { on := 14, ground := Ground.phase }, { on := 15, ground := Ground.phase }, { on := 16, ground := Ground.phase }], guard := Option.none }) (v := .bool ok) rfl (by kernel_rfl) (by kernel_rfl) (by kernel_rfl) (fun _ _ _ h => h) (Or.inl ⟨by rfl, ?_⟩) hHeld ?_
        · intro W hSw
          go_simp
        simp only [Act.put, List.setIfInBounds_toArray, List.set_cons_zero, List.set_cons_succ]
        clear hHeld
        have HR := Lib.hid (And.intro hbS (And.intro hqS heS))
        clear hbS hqS heS
        refine wpAnyH_done (by kernel_rfl) ?_ _
        go_wp2_with fail
        go_meet
        exact ⟨gx, A3, c3, zz, _, rfl, rfl, rfl, rfl, HR.out.1, HR.out.2.1, ⟨HR.out.2.2, EO.out⟩, EZ.out⟩
    case rest =>
      obtain ⟨gx, A3, c3, zz, WS, rfl, rfl, rfl, rfl, hbS, hqS, heS, hzz⟩ := hcut
      have hall : ∀ W, Below WS.heap.size WS W → ((W.cell? ⟨g, 0, none⟩ = some (.int .i64 l.base) ∧ W.cell? ⟨g, 1, none⟩ = some (.int .i64 l.term) ∧ W.cell? ⟨g, 2, none⟩ = some (.slice A n c)) ∧ (W.cell? ⟨gm, 0, none⟩ = some (.int .i64 mi) ∧ W.cell? ⟨gm, 1, none⟩ = some (.int .i64 mt) ∧ W.cell? ⟨gm, 2, none⟩ = some (.slice A' n' c'))) ∧ (W.cell? ⟨gx, 0, none⟩ = some (.int .i64 m.base) ∧ W.cell? ⟨gx, 1, none⟩ = some (.int .i64 m.term) ∧ W.cell? ⟨gx, 2, none⟩ = some (.slice A3 q c3)) ∧ Ents W (.slice A3 q c3) m.l ∧ Below w.heap.size w W := fun W hW =>
        ⟨HCL.out W (hbS.trans (hW.mono hbS.size)), cells3 ((hW.block gx (obj_lt hqS)).trans hqS), heS.below hW, HE.out.trans ((hbS.trans (hW.mono hbS.size)).mono HE.out.size)⟩
      have HA := Lib.hid hall
      have HQS := Lib.hid hqS
      clear hall hbS hqS heS HG HMg HL HL' x0 x1 x2 y0 y1 y2
      cases ok with
      | false =>
        go_wp2_with (go_at_call 9; go_must (refine (sureG C _).mono ?_; rintro y w9 ⟨rfl, hb9⟩; have H9 := Lib.hid hb9; clear hb9))
        go_ret
        exact ⟨rfl, (HA.out _ H9.out).2.2.2⟩
      | true =>
        obtain rfl : zz = z := hzz rfl
        have hme := okE_yes HM.out.2.1.symm
        rw [← HM.out.1, ← HM.out.2.2.1] at hme
        have hme2 := merge_again hme
        have hmay := (merge_some hme).2.2.2.2.2.2.1
        have hir : inI m.base := by have := mayE_parts hmay; exact inI_of_le this.1 (by omega)
        have htr : inI m.term := by have := mayE_parts hmay; exact inI_of_le this.2.2.1 (by omega)
        have HMg2 := Lib.hid fun W (hW : Below WS.heap.size WS W) A2 c2 (h2 : Ents W (.slice A2 n' c2) mo) => C.gMergeS m A3 q c3 mi mt A2 n' c2 mo W (HA.out W hW).2.2.1 hir htr HM.out.2.2.2.2 HN.out.2.2.2.2.1 HN.out.2.2.2.2.2 h2 (small_more HS.out.2 (by omega) (by omega)) m zz hme2 q HM.out.2.2.2.1
        have HZ := Lib.hid hme
        clear hme hme2 hmay hir htr
        go_upto_region 6 with fail
        go_cut [8, 9, 10] (fun s8 s9 s10 W => ∃ (gy : Nat) (A5 : Option Addr) (c5 : Nat) (V : World), V = W ∧ s8 = .pointer (some ⟨gy, 0, none⟩) ∧ s9 = .int .i64 zz ∧ s10 = .bool true ∧ Below WS.heap.size WS V ∧ V.heap[gy]? = some (.cells #[.int .i64 m.base, .int .i64 m.term, .slice A5 q c5] 29 (0, 0)) ∧ Ents V (.slice A5 q c5) m.l)
        case first =>
          have hd0 : Below WS.heap.size WS WS.drew := (Below.refl _ _).drew
          refine wp_region_held_drew (S := fun W => Below WS.heap.size WS W) (by kernel_rfl) hd0 (fun hHeld => ?_)
          obtain ⟨r0, hv0⟩ : ∃ V, V = WS.drew := ⟨_, rfl⟩
          rw [← hv0] at hd0 hHeld ⊢
          have Kr0 := Lib.hid hd0
          clear hd0 hv0
          refine wpAnyH_take (i := 0) (oi := { dst := Option.some 39, op := Op.load 29 (Operand.tmp 5), type := 29, pos := "law.go:219", after := #[], guard := Option.none }) (v := .agg #[.int .i64 m.base, .int .i64 m.term, .slice A3 q c3]) rfl (by kernel_rfl) (by kernel_rfl) (by kernel_rfl) (fun _ _ _ h => h) (Or.inl ⟨by rfl, ?_⟩) hHeld ?_
          · intro W hSw
            obtain ⟨-, ⟨z0, z1, z2⟩, -⟩ := HA.out _ hSw
            go_simp
          simp only [Act.put, List.setIfInBounds_toArray, List.set_cons_zero, List.set_cons_succ]
          refine wpAnyH_take (i := 1) (oi := { dst := Option.some 40, op := Op.fieldAddr 54 (Operand.tmp 3) 0, type := 0, pos := "law.go:219", after := #[], guard := Option.none }) (v := .pointer (some ⟨gm, 0, none⟩)) rfl (by kernel_rfl) (by kernel_rfl) (by kernel_rfl) (fun _ _ _ h => h) (Or.inl ⟨by rfl, ?_⟩) hHeld ?_
          · intro W hSw
            obtain ⟨⟨-, ⟨z0, z1, z2⟩⟩, -⟩ := HA.out _ hSw
            go_simp
          simp only [Act.put, List.setIfInBounds_toArray, List.set_cons_zero, List.set_cons_succ]
          refine wpAnyH_take (i := 2) (oi := { dst := Option.some 41, op := Op.load 3 (Operand.tmp 40), type := 3, pos := "law.go:219", after := #[{ on := 1, ground := Ground.data }], guard := Option.none }) (v := .int .i64 mi) rfl (by kernel_rfl) (by kernel_rfl) (by kernel_rfl) (fun _ _ _ h => h) (Or.inl ⟨by rfl, ?_⟩) hHeld ?_
          · intro W hSw
            obtain ⟨⟨-, ⟨z0, z1, z2⟩⟩, -⟩ := HA.out _ hSw
            go_simp
          simp only [Act.put, List.setIfInBounds_toArray, List.set_cons_zero, List.set_cons_succ]
          refine wpAnyH_take (i := 3) (oi := { dst := Option.some 42, op := Op.fieldAddr 54 (Operand.tmp 3) 1, type := 0, pos := "law.go:219", after := #[], guard := Option.none }) (v := .pointer (some ⟨gm, 1, none⟩)) rfl (by kernel_rfl) (by kernel_rfl) (by kernel_rfl) (fun _ _ _ h => h) (Or.inl ⟨by rfl, ?_⟩) hHeld ?_
          · intro W hSw
            obtain ⟨⟨-, ⟨z0, z1, z2⟩⟩, -⟩ := HA.out _ hSw
            go_simp
          simp only [Act.put, List.setIfInBounds_toArray, List.set_cons_zero, List.set_cons_succ]
          refine wpAnyH_take (i := 4) (oi := { dst := Option.some 43, op := Op.load 3 (Operand.tmp 42), type := 3, pos := "law.go:219", after := #[{ on := 3, ground := Ground.data }], guard := Option.none }) (v := .int .i64 mt) rfl (by kernel_rfl) (by kernel_rfl) (by kernel_rfl) (fun _ _ _ h => h) (Or.inl ⟨by rfl, ?_⟩) hHeld ?_
          · intro W hSw
            obtain ⟨⟨-, ⟨z0, z1, z2⟩⟩, -⟩ := HA.out _ hSw
            go_simp
          simp only [Act.put, List.setIfInBounds_toArray, List.set_cons_zero, List.set_cons_succ]
          refine wpAnyH_take (i := 5) (oi := { dst := Option.some 44, op := Op.fieldAddr 54 (Operand.tmp 3) 2, type := 0, pos := "law.go:219", after := #[], guard := Option.none }) (v := .pointer (some ⟨gm, 2, none⟩)) rfl (by kernel_rfl) (by kernel_rfl) (by kernel_rfl) (fun _ _ _ h => h) (Or.inl ⟨by rfl, ?_⟩) hHeld ?_
          · intro W hSw
            obtain ⟨⟨-, ⟨z0, z1, z2⟩⟩, -⟩ := HA.out _ hSw
            go_simp
          simp only [Act.put, List.setIfInBounds_toArray, List.set_cons_zero, List.set_cons_succ]
          refine wpAnyH_take (i := 6) (oi := { dst := Option.some 45, op := Op.load 22 (Operand.tmp 44), type := 22, pos := "law.go:219", after := #[{ on := 5, ground := Ground.data }], guard := Option.none }) (v := .slice A' n' c') rfl (by kernel_rfl) (by kernel_rfl) (by kernel_rfl) (fun _ _ _ h => h) (Or.inl ⟨by rfl, ?_⟩) hHeld ?_
          · intro W hSw
            obtain ⟨⟨-, ⟨z0, z1, z2⟩⟩, -⟩ := HA.out _ hSw
            go_simp
          simp only [Act.put, List.setIfInBounds_toArray, List.set_cons_zero, List.set_cons_succ]
          refine wpAnyH_ready (rs := [7, 13]) (by kernel_rfl) (by simp) ?_
          refine AllReadyH.cons (o := { dst := Option.some 46, op := Op.call { callee := Callee.value (Operand.func 23), args := #[Operand.tmp 45], argTypes := #[22] }, type := 27, pos := "law.go:219", after := #[{ on := 6, ground := Ground.data }], guard := Option.none }) rfl (fun K hK => ?_) (AllReadyH.cons (o := { dst := Option.some 8, op := Op.alloc 29, type := 0, pos := "law.go:219", after := #[], guard := Option.none }) rfl (fun K hK => ?_) AllReadyH.nil)
          rotate_left
          focus
            go_simp
            have hbz : Below WS.heap.size WS (r0.alloc (.cells #[.int .i64 0, .int .i64 0, .slice none 0 0] 29)) := Kr0.out.alloc Kr0.out.size _
            have hqz := heap_alloc_new r0 (.cells #[.int .i64 0, .int .i64 0, .slice none 0 0] 29)
            have hsb := below_alloc r0 (.cells #[.int .i64 0, .int .i64 0, .slice none 0 0] 29)
            refine hK.out _ _ hbz (fun hHeld2 => ?_)
            clear hK K hHeld
            have hHeld := hHeld2
            clear hHeld2
            obtain ⟨s1, hVA⟩ : ∃ W, W = r0.alloc (.cells #[.int .i64 0, .int .i64 0, .slice none 0 0] 29) := ⟨_, rfl⟩
            obtain ⟨gy, hgy⟩ : ∃ g, g = r0.heap.size := ⟨_, rfl⟩
            rw [← hVA] at hbz hqz hsb hHeld ⊢
            rw [← hgy] at hqz ⊢
            have Ks1 := Lib.hid hbz
            have FG := Lib.hid (show WS.heap.size ≤ gy by rw [hgy]; exact Kr0.out.size)
            have FQ := Lib.hid hqz
            clear hbz hqz hsb hVA hgy
            refine wpAnyH_ready (rs := [7]) (by kernel_rfl) (by simp) ?_
            refine AllReadyH.cons (o := { dst := Option.some 46, op := Op.call { callee := Callee.value (Operand.func 23), args := #[Operand.tmp 45], argTypes := #[22] }, type := 27, pos := "law.go:219", after := #[{ on := 6, ground := Ground.data }], guard := Option.none }) rfl (fun K hK => ?_) AllReadyH.nil
            go_simp
            refine (HG'.out _ ((HA.out _ Ks1.out).2.2.2)).mono ?_
            rintro y r2 ⟨A2, c2, rfl, hi, hsb⟩
            have hbz : Below WS.heap.size WS r2 := Ks1.out.trans (hsb.mono Ks1.out.size)
            refine hK.out _ _ hbz (fun hHeld2 => ?_)
            clear hK K hHeld
            have hHeld := hHeld2
            clear hHeld2
            have Kr2 := Lib.hid hbz
            have FQ := Lib.hid ((hsb.block gy (obj_lt FQ.out)).trans FQ.out)
            have F2 := Lib.hid (show Ents r2 (.slice A2 n' c2) mo from hi)
            clear hbz hsb hi
            refine wpAnyH_ready (rs := [8]) (by kernel_rfl) (by simp) ?_
            refine AllReadyH.cons (o := { dst := Option.some 47, op := Op.call { callee := Callee.value (Operand.func 22), args := #[Operand.tmp 39, Operand.tmp 41, Operand.tmp 43, Operand.tmp 46], argTypes := #[29, 3, 3, 27] }, type := 55, pos := "law.go:219", after := #[{ on := 0, ground := Ground.data }, { on := 2, ground := Ground.data }, { on := 4, ground := Ground.data }, { on := 7, ground := Ground.data }, { on := 7, ground := Ground.chain }], guard := Option.none }) rfl (fun K hK => ?_) AllReadyH.nil
            go_simp
            refine (HMg2.out _ Kr2.out _ _ F2.out).mono ?_
            rintro y wG ⟨A5, c5, rfl, hi, hsb⟩
            have hbz : Below WS.heap.size WS wG := Kr2.out.trans (hsb.mono Kr2.out.size)
            refine hK.out _ _ hbz (fun hHeld2 => ?_)
            clear hK K hHeld
            have hHeld := hHeld2
            clear hHeld2
            have KwG := Lib.hid hbz
            have F3 := Lib.hid (EntsT.move hi.1 (T' := fun k => k < wG.heap.size ∧ k ≠ gy) (fun _ _ _ => rfl) fun k hk => ⟨hk.2, by have := hk.1; have := obj_lt FQ.out; omega⟩)
            have F2 := Lib.hid (F2.out.below hsb)
            have FQ := Lib.hid ((hsb.block gy (obj_lt FQ.out)).trans FQ.out)
            have FO := Lib.hid hi.2
            clear hbz hsb hi
            refine wpAnyH_take (i := 9) (oi := { dst := Option.some 38, op := Op.move (Operand.tmp 47), type := 55, pos := "law.go:219", after := #[{ on := 8, ground := Ground.data }], guard := Option.none }) (v := .tuple #[.agg #[.int .i64 m.base, .int .i64 m.term, .slice A5 q c5], .int .i64 zz, .bool true]) rfl (by kernel_rfl) (by kernel_rfl) (by kernel_rfl) (fun _ _ _ h => h) (Or.inl ⟨by rfl, ?_⟩) hHeld ?_
            · intro W hSw
              go_simp
            simp only [Act.put, List.setIfInBounds_toArray, List.set_cons_zero, List.set_cons_succ]
            refine wpAnyH_take (i := 10) (oi := { dst := Option.some 48, op := Op.extract (Operand.tmp 38) 0, type := 29, pos := "law.go:219", after := #[{ on := 9, ground := Ground.data }], guard := Option.none }) (v := .agg #[.int .i64 m.base, .int .i64 m.term, .slice A5 q c5]) rfl (by kernel_rfl) (by kernel_rfl) (by kernel_rfl) (fun _ _ _ h => h) (Or.inl ⟨by rfl, ?_⟩) hHeld ?_
            · intro W hSw
              go_simp
            simp only [Act.put, List.setIfInBounds_toArray, List.set_cons_zero, List.set_cons_succ]
            refine wpAnyH_take (i := 11) (oi := { dst := Option.some 49, op := Op.extract (Operand.tmp 38) 1, type := 3, pos := "law.go:219", after := #[{ on := 9, ground := Ground.data }, { on := 14, ground := Ground.gcOnly Departure.lateStores }], guard := Option.none }) (v := .int .i64 zz) rfl (by kernel_rfl) (by kernel_rfl) (by kernel_rfl) (fun _ _ _ h => h) (Or.inl ⟨by rfl, ?_⟩) hHeld ?_
            · intro W hSw
              go_simp
            simp only [Act.put, List.setIfInBounds_toArray, List.set_cons_zero, List.set_cons_succ]
            refine wpAnyH_take (i := 12) (oi := { dst := Option.some 50, op := Op.extract (Operand.tmp 38) 2, type := 4, pos := "law.go:219", after := #[{ on := 9, ground := Ground.data }, { on := 15, ground := Ground.gcOnly Departure.lateStores }], guard := Option.none }) (v := .bool true) rfl (by kernel_rfl) (by kernel_rfl) (by kernel_rfl) (fun _ _ _ h => h) (Or.inl ⟨by rfl, ?_⟩) hHeld ?_
            · intro W hSw
              go_simp
            simp only [Act.put, List.setIfInBounds_toArray, List.set_cons_zero, List.set_cons_succ]
          rotate_left
          focus
            go_simp
            refine (HG'.out _ ((HA.out _ Kr0.out).2.2.2)).mono ?_
            rintro y r1 ⟨A2, c2, rfl, hi, hsb⟩
            have hbz : Below WS.heap.size WS r1 := Kr0.out.trans (hsb.mono Kr0.out.size)
            refine hK.out _ _ hbz (fun hHeld2 => ?_)
            clear hK K hHeld
            have hHeld := hHeld2
            clear hHeld2
            have Kr1 := Lib.hid hbz
            have F2 := Lib.hid (show Ents r1 (.slice A2 n' c2) mo from hi)
            clear hbz hsb hi
            refine wpAnyH_ready (rs := [8, 13]) (by kernel_rfl) (by simp) ?_
            refine AllReadyH.cons (o := { dst := Option.some 47, op := Op.call { callee := Callee.value (Operand.func 22), args := #[Operand.tmp 39, Operand.tmp 41, Operand.tmp 43, Operand.tmp 46], argTypes := #[29, 3, 3, 27] }, type := 55, pos := "law.go:219", after := #[{ on := 0, ground := Ground.data }, { on := 2, ground := Ground.data }, { on := 4, ground := Ground.data }, { on := 7, ground := Ground.data }, { on := 7, ground := Ground.chain }], guard := Option.none }) rfl (fun K hK => ?_) (AllReadyH.cons (o := { dst := Option.some 8, op := Op.alloc 29, type := 0, pos := "law.go:219", after := #[], guard := Option.none }) rfl (fun K hK => ?_) AllReadyH.nil)
            rotate_left
            focus
              go_simp
              have hbz : Below WS.heap.size WS (r1.alloc (.cells #[.int .i64 0, .int .i64 0, .slice none 0 0] 29)) := Kr1.out.alloc Kr1.out.size _
              have hqz := heap_alloc_new r1 (.cells #[.int .i64 0, .int .i64 0, .slice none 0 0] 29)
              have hsb := below_alloc r1 (.cells #[.int .i64 0, .int .i64 0, .slice none 0 0] 29)
              refine hK.out _ _ hbz (fun hHeld2 => ?_)
              clear hK K hHeld
              have hHeld := hHeld2
              clear hHeld2
              obtain ⟨s2, hVA⟩ : ∃ W, W = r1.alloc (.cells #[.int .i64 0, .int .i64 0, .slice none 0 0] 29) := ⟨_, rfl⟩
              obtain ⟨gy, hgy⟩ : ∃ g, g = r1.heap.size := ⟨_, rfl⟩
              rw [← hVA] at hbz hqz hsb hHeld ⊢
              rw [← hgy] at hqz ⊢
              have Ks2 := Lib.hid hbz
              have FG := Lib.hid (show WS.heap.size ≤ gy by rw [hgy]; exact Kr1.out.size)
              have F2 := Lib.hid (F2.out.below hsb)
              have FQ := Lib.hid hqz
              clear hbz hqz hsb hVA hgy
              refine wpAnyH_ready (rs := [8]) (by kernel_rfl) (by simp) ?_
              refine AllReadyH.cons (o := { dst := Option.some 47, op := Op.call { callee := Callee.value (Operand.func 22), args := #[Operand.tmp 39, Operand.tmp 41, Operand.tmp 43, Operand.tmp 46], argTypes := #[29, 3, 3, 27] }, type := 55, pos := "law.go:219", after := #[{ on := 0, ground := Ground.data }, { on := 2, ground := Ground.data }, { on := 4, ground := Ground.data }, { on := 7, ground := Ground.data }, { on := 7, ground := Ground.chain }], guard := Option.none }) rfl (fun K hK => ?_) AllReadyH.nil
              go_simp
              refine (HMg2.out _ Ks2.out _ _ F2.out).mono ?_
              rintro y wG ⟨A5, c5, rfl, hi, hsb⟩
              have hbz : Below WS.heap.size WS wG := Ks2.out.trans (hsb.mono Ks2.out.size)
              refine hK.out _ _ hbz (fun hHeld2 => ?_)
              clear hK K hHeld
              have hHeld := hHeld2
              clear hHeld2
              have KwG := Lib.hid hbz
              have F3 := Lib.hid (EntsT.move hi.1 (T' := fun k => k < wG.heap.size ∧ k ≠ gy) (fun _ _ _ => rfl) fun k hk => ⟨hk.2, by have := hk.1; have := obj_lt FQ.out; omega⟩)
              have F2 := Lib.hid (F2.out.below hsb)
              have FQ := Lib.hid ((hsb.block gy (obj_lt FQ.out)).trans FQ.out)
              have FO := Lib.hid hi.2
              clear hbz hsb hi
              refine wpAnyH_take (i := 9) (oi := { dst := Option.some 38, op := Op.move (Operand.tmp 47), type := 55, pos := "law.go:219", after := #[{ on := 8, ground := Ground.data }], guard := Option.none }) (v := .tuple #[.agg #[.int .i64 m.base, .int .i64 m.term, .slice A5 q c5], .int .i64 zz, .bool true]) rfl (by kernel_rfl) (by kernel_rfl) (by kernel_rfl) (fun _ _ _ h => h) (Or.inl ⟨by rfl, ?_⟩) hHeld ?_
              · intro W hSw
                go_simp
              simp only [Act.put, List.setIfInBounds_toArray, List.set_cons_zero, List.set_cons_succ]
              refine wpAnyH_take (i := 10) (oi := { dst := Option.some 48, op := Op.extract (Operand.tmp 38) 0, type := 29, pos := "law.go:219", after := #[{ on := 9, ground := Ground.data }], guard := Option.none }) (v := .agg #[.int .i64 m.base, .int .i64 m.term, .slice A5 q c5]) rfl (by kernel_rfl) (by kernel_rfl) (by kernel_rfl) (fun _ _ _ h => h) (Or.inl ⟨by rfl, ?_⟩) hHeld ?_
              · intro W hSw
                go_simp
              simp only [Act.put, List.setIfInBounds_toArray, List.set_cons_zero, List.set_cons_succ]
              refine wpAnyH_take (i := 11) (oi := { dst := Option.some 49, op := Op.extract (Operand.tmp 38) 1, type := 3, pos := "law.go:219", after := #[{ on := 9, ground := Ground.data }, { on := 14, ground := Ground.gcOnly Departure.lateStores }], guard := Option.none }) (v := .int .i64 zz) rfl (by kernel_rfl) (by kernel_rfl) (by kernel_rfl) (fun _ _ _ h => h) (Or.inl ⟨by rfl, ?_⟩) hHeld ?_
              · intro W hSw
                go_simp
              simp only [Act.put, List.setIfInBounds_toArray, List.set_cons_zero, List.set_cons_succ]
              refine wpAnyH_take (i := 12) (oi := { dst := Option.some 50, op := Op.extract (Operand.tmp 38) 2, type := 4, pos := "law.go:219", after := #[{ on := 9, ground := Ground.data }, { on := 15, ground := Ground.gcOnly Departure.lateStores }], guard := Option.none }) (v := .bool true) rfl (by kernel_rfl) (by kernel_rfl) (by kernel_rfl) (fun _ _ _ h => h) (Or.inl ⟨by rfl, ?_⟩) hHeld ?_
              · intro W hSw
                go_simp
              simp only [Act.put, List.setIfInBounds_toArray, List.set_cons_zero, List.set_cons_succ]
            rotate_left
            focus
              go_simp
              refine (HMg2.out _ Kr1.out _ _ F2.out).mono ?_
              rintro y r2 ⟨A5, c5, rfl, hi, hsb⟩
              have hbz : Below WS.heap.size WS r2 := Kr1.out.trans (hsb.mono Kr1.out.size)
              refine hK.out _ _ hbz (fun hHeld2 => ?_)
              clear hK K hHeld
              have hHeld := hHeld2
              clear hHeld2
              have Kr2 := Lib.hid hbz
              have F2 := Lib.hid (F2.out.below hsb)
              have F3 := Lib.hid hi
              have FO := Lib.hid hi.2
              clear hbz hsb hi
              refine wpAnyH_take (i := 9) (oi := { dst := Option.some 38, op := Op.move (Operand.tmp 47), type := 55, pos := "law.go:219", after := #[{ on := 8, ground := Ground.data }], guard := Option.none }) (v := .tuple #[.agg #[.int .i64 m.base, .int .i64 m.term, .slice A5 q c5], .int .i64 zz, .bool true]) rfl (by kernel_rfl) (by kernel_rfl) (by kernel_rfl) (fun _ _ _ h => h) (Or.inl ⟨by rfl, ?_⟩) hHeld ?_
              · intro W hSw
                go_simp
              simp only [Act.put, List.setIfInBounds_toArray, List.set_cons_zero, List.set_cons_succ]
              refine wpAnyH_take (i := 10) (oi := { dst := Option.some 48, op := Op.extract (Operand.tmp 38) 0, type := 29, pos := "law.go:219", after := #[{ on := 9, ground := Ground.data }], guard := Option.none }) (v := .agg #[.int .i64 m.base, .int .i64 m.term, .slice A5 q c5]) rfl (by kernel_rfl) (by kernel_rfl) (by kernel_rfl) (fun _ _ _ h => h) (Or.inl ⟨by rfl, ?_⟩) hHeld ?_
              · intro W hSw
                go_simp
              simp only [Act.put, List.setIfInBounds_toArray, List.set_cons_zero, List.set_cons_succ]
              refine wpAnyH_take (i := 11) (oi := { dst := Option.some 49, op := Op.extract (Operand.tmp 38) 1, type := 3, pos := "law.go:219", after := #[{ on := 9, ground := Ground.data }, { on := 14, ground := Ground.gcOnly Departure.lateStores }], guard := Option.none }) (v := .int .i64 zz) rfl (by kernel_rfl) (by kernel_rfl) (by kernel_rfl) (fun _ _ _ h => h) (Or.inl ⟨by rfl, ?_⟩) hHeld ?_
              · intro W hSw
                go_simp
              simp only [Act.put, List.setIfInBounds_toArray, List.set_cons_zero, List.set_cons_succ]
              refine wpAnyH_take (i := 12) (oi := { dst := Option.some 50, op := Op.extract (Operand.tmp 38) 2, type := 4, pos := "law.go:219", after := #[{ on := 9, ground := Ground.data }, { on := 15, ground := Ground.gcOnly Departure.lateStores }], guard := Option.none }) (v := .bool true) rfl (by kernel_rfl) (by kernel_rfl) (by kernel_rfl) (fun _ _ _ h => h) (Or.inl ⟨by rfl, ?_⟩) hHeld ?_
              · intro W hSw
                go_simp
              simp only [Act.put, List.setIfInBounds_toArray, List.set_cons_zero, List.set_cons_succ]
              refine wpAnyH_ready (rs := [13]) (by kernel_rfl) (by simp) ?_
              refine AllReadyH.cons (o := { dst := Option.some 8, op := Op.alloc 29, type := 0, pos := "law.go:219", after := #[], guard := Option.none }) rfl (fun K hK => ?_) AllReadyH.nil
              go_simp
              have hbz : Below WS.heap.size WS (r2.alloc (.cells #[.int .i64 0, .int .i64 0, .slice none 0 0] 29)) := Kr2.out.alloc Kr2.out.size _
              have hqz := heap_alloc_new r2 (.cells #[.int .i64 0, .int .i64 0, .slice none 0 0] 29)
              have hsb := below_alloc r2 (.cells #[.int .i64 0, .int .i64 0, .slice none 0 0] 29)
              refine hK.out _ _ hbz (fun hHeld2 => ?_)
              clear hK K hHeld
              have hHeld := hHeld2
              clear hHeld2
              obtain ⟨wG, hVA⟩ : ∃ W, W = r2.alloc (.cells #[.int .i64 0, .int .i64 0, .slice none 0 0] 29) := ⟨_, rfl⟩
              obtain ⟨gy, hgy⟩ : ∃ g, g = r2.heap.size := ⟨_, rfl⟩
              rw [← hVA] at hbz hqz hsb hHeld ⊢
              rw [← hgy] at hqz ⊢
              have KwG := Lib.hid hbz
              have FG := Lib.hid (show WS.heap.size ≤ gy by rw [hgy]; exact Kr2.out.size)
              have F2 := Lib.hid (F2.out.below hsb)
              have F3 := Lib.hid (EntsT.move F3.out.1 (T' := fun k => k < wG.heap.size ∧ k ≠ gy) (fun k hk _ => hsb.block k hk.2) fun k hk => ⟨Nat.lt_of_lt_of_le hk.2 hsb.size, by have := hk.2; omega⟩)
              have FQ := Lib.hid hqz
              clear hbz hqz hsb hVA hgy
          all_goals
            obtain ⟨z0, z1, z2⟩ := cells3 FQ.out
            have f0 := frozen_own FQ.out 0
            have f1 := frozen_own FQ.out 1
            have f2 := frozen_own FQ.out 2
            refine wpAnyH_ready (rs := [14]) (by kernel_rfl) (by simp) ?_
            refine AllReadyH.cons (o := { dst := Option.none, op := Op.store 29 (Operand.tmp 8) (Operand.tmp 48), type := 0, pos := "law.go:219", after := #[{ on := 13, ground := Ground.data }, { on := 10, ground := Ground.data }, { on := 8, ground := Ground.chain }, { on := 0, ground := Ground.phase }, { on := 1, ground := Ground.phase }, { on := 2, ground := Ground.phase }, { on := 3, ground := Ground.phase }, { on := 4, ground := Ground.phase }, { on := 5, ground := Ground.phase }, { on := 6, ground := Ground.phase }, { on := 7, ground := Ground.phase }, { on := 8, ground := Ground.phase }, { on := 9, ground := Ground.phase }, { on := 10, ground := Ground.phase }, { on := 11, ground := Ground.textOnly Departure.lateStores }, { on := 12, ground := Ground.textOnly Departure.lateStores }, { on := 13, ground := Ground.phase }], guard := Option.none }) rfl (fun K hK => ?_) AllReadyH.nil
            go_simp
            obtain ⟨WT, hWT⟩ : ∃ W, W = put3 wG gy (.int .i64 m.base) (.int .i64 m.term) (.slice A5 q c5) := ⟨_, rfl⟩
            have hbS := put3_below (b := gy) (v0 := .int .i64 m.base) (v1 := .int .i64 m.term) (v2 := .slice A5 q c5) KwG.out FG.out
            have hqS := put3_own FQ.out (.int .i64 m.base) (.int .i64 m.term) (.slice A5 q c5)
            have heS : EntsT (put3 wG gy (.int .i64 m.base) (.int .i64 m.term) (.slice A5 q c5)) (fun k => k < (put3 wG gy (.int .i64 m.base) (.int .i64 m.term) (.slice A5 q c5)).heap.size) (.slice A5 q c5) m.l := EntsT.move F3.out (fun k hk _ => put3_other _ _ _ _ _ k hk.2) fun k hk => by rw [put3_size]; exact hk.1
            rw [← hWT] at hbS hqS heS
            unfold put3 at hWT
            rw [← hWT]
            refine hK.out _ _ hbS (fun hHeld2 => ?_)
            clear hK K hHeld
            have hHeld := hHeld2
            clear hHeld2 hWT z0 z1 z2 f0 f1 f2
            refine wpAnyH_take (i := 15) (oi := { dst := Option.some 9, op := Op.assign (Operand.tmp 49), type := 3, pos := "law.go:219", after := #[{ on := 11, ground := Ground.data }, { on := 14, ground := Ground.chain }, { on := 0, ground := Ground.phase }, { on := 1, ground := Ground.phase }, { on := 2, ground := Ground.phase }, { on := 3, ground := Ground.phase }, { on := 4, ground := Ground.phase }, { on := 5, ground := Ground.phase }, { on := 6, ground := Ground.phase }, { on := 7, ground := Ground.phase }, { on := 8, ground := Ground.phase }, { on := 9, ground := Ground.phase }, { on := 10, ground := Ground.phase }, { on := 11, ground := Ground.phase }, { on := 12, ground := Ground.textOnly Departure.lateStores }, { on := 13, ground := Ground.phase }, { on := 14, ground := Ground.phase }], guard := Option.none }) (v := .int .i64 zz) rfl (by kernel_rfl) (by kernel_rfl) (by kernel_rfl) (fun _ _ _ h => h) (Or.inl ⟨by rfl, ?_⟩) hHeld ?_
            · intro W hSw
              go_simp
            simp only [Act.put, List.setIfInBounds_toArray, List.set_cons_zero, List.set_cons_succ]
            refine wpAnyH_take (i := 16) (oi := { dst := Option.some 10, op := Op.assign (Operand.tmp 50), type := 4, pos := "law.go:219", after := #[{ on := 12, ground := Ground.data }, { on := 15, ground := Ground.chain }, { on := 0, ground := Ground.phase }, { on := 1, ground := Ground.phase }, { on := 2, ground := Ground.phase }, { on := 3, ground := Ground.phase }, { on := 4, ground := Ground.phase }, { on := 5, ground := Ground.phase }, { on := 6, ground := Ground.phase }, { on := 7, ground := Ground.phase }, { on := 8, ground := Ground.phase }, { on := 9, ground := Ground.phase }, { on := 10, ground := Ground.phase }, { on := 11, ground := Ground.phase }, { on := 12, ground := Ground.phase }, { on := 13, ground := Ground.phase }, { on := 14, ground := Ground.phase }, { on := 15, ground := Ground.phase }], guard := Option.none }) (v := .bool true) rfl (by kernel_rfl) (by kernel_rfl) (by kernel_rfl) (fun _ _ _ h => h) (Or.inl ⟨by rfl, ?_⟩) hHeld ?_
            · intro W hSw
              go_simp
            simp only [Act.put, List.setIfInBounds_toArray, List.set_cons_zero, List.set_cons_succ]
            clear hHeld
            have HR := Lib.hid (And.intro hbS (And.intro hqS heS))
            clear hbS hqS heS
            refine wpAnyH_done (by kernel_rfl) ?_ _
            go_wp2_with fail
            go_meet
            exact ⟨gy, A5, c5, _, rfl, rfl, rfl, rfl, HR.out.1, HR.out.2.1, ⟨HR.out.2.2, FO.out⟩⟩
        case rest =>
          obtain ⟨gy, A5, c5, WT, rfl, rfl, rfl, rfl, hbT, hqT, heT⟩ := hcut
          have hqx := (hbT.block gx (obj_lt HQS.out)).trans HQS.out
          have hall : ∀ W, Below WT.heap.size WT W → ((W.cell? ⟨gx, 0, none⟩ = some (.int .i64 m.base) ∧ W.cell? ⟨gx, 1, none⟩ = some (.int .i64 m.term) ∧ W.cell? ⟨gx, 2, none⟩ = some (.slice A3 q c3)) ∧ (W.cell? ⟨gy, 0, none⟩ = some (.int .i64 m.base) ∧ W.cell? ⟨gy, 1, none⟩ = some (.int .i64 m.term) ∧ W.cell? ⟨gy, 2, none⟩ = some (.slice A5 q c5))) ∧ Ents W (.slice A3 q c3) m.l ∧ Ents W (.slice A5 q c5) m.l ∧ Below w.heap.size w W := fun W hW =>
            ⟨⟨cells3 ((hW.block gx (obj_lt hqx)).trans hqx), cells3 ((hW.block gy (obj_lt hqT)).trans hqT)⟩, ((HA.out WS (Below.refl _ _)).2.2.1.below hbT).below hW, heT.below hW, (HA.out W (hbT.trans (hW.mono hbT.size))).2.2.2⟩
          have HB := Lib.hid hall
          have hml := heT.len_
          have in1 : (q : Int) ≤ 9223372036854775807 := by omega
          have in3 : (q : Int) ≤ (c5 : Int) := by omega
          have in4 : (q : Int) ≤ (c3 : Int) := by have := (HA.out WS (Below.refl _ _)).2.2.1.len_; omega
          obtain ⟨⟨⟨x0, x1, x2⟩, ⟨y0, y1, y2⟩⟩, -⟩ := hall WT (Below.refl _ _)
          clear hall hbT hqT heT hqx HMg2 HG' hml
          go_wp2_with fail
          clear x0 x1 x2 y0 y1 y2
          go_loopw [11] (fun ii wr => ∃ (j : Nat), j ≤ q ∧ ii = .int .i64 (j : Int) ∧ Below WT.heap.size WT wr) (fun ii _ => q - (intOf ii).toNat)
          case atStart => exact ⟨0, Nat.zero_le _, rfl, Below.refl _ _⟩
          case round =>
            obtain ⟨j, hj, rfl, hbw⟩ := hrel
            obtain ⟨⟨⟨x0, x1, x2⟩, ⟨y0, y1, y2⟩⟩, -⟩ := HB.out wr hbw
            have HBW := Lib.hid hbw
            clear hbw
            by_cases hlt : j < q
            · have ii : (j : Int) < (q : Int) := by omega
              have hjl : j < m.l.length := by have := HM.out.2.2.2.1; omega
              obtain ⟨ba, offa, Aa, ca, rfl, hba, -, q0, q1, q2, q3, hda⟩ := (HB.out wr HBW.out).2.1.at_ j hjl
              obtain ⟨bb, offb, Ab, cb, rfl, hbb, -, r0, r1, r2, r3, hdb⟩ := (HB.out wr HBW.out).2.2.1.at_ j hjl
              have hsa := HM.out.2.2.2.2.2 _ (List.getElem_mem hjl)
              obtain ⟨x, hx⟩ : ∃ x, x = m.l[j] := ⟨_, rfl⟩
              rw [← hx] at q0 q1 q2 q3 hda hsa r0 r1 r2 r3 hdb
              obtain ⟨ma, hma⟩ : ∃ m, m = x.data.length := ⟨_, rfl⟩
              rw [← hma] at q3 hda hsa r3 hdb
              have hall : ∀ W, Below wr.heap.size wr W → ((W.cell? ⟨ba, offa + j * 4, none⟩ = some (.int .i64 x.index) ∧ W.cell? ⟨ba, offa + j * 4 + 1, none⟩ = some (.int .i64 x.term) ∧ W.cell? ⟨ba, offa + j * 4 + 2, none⟩ = some (.int .i64 x.kind) ∧ W.cell? ⟨ba, offa + j * 4 + 3, none⟩ = some (.slice Aa ma ca)) ∧
                  (W.cell? ⟨bb, offb + j * 4, none⟩ = some (.int .i64 x.index) ∧ W.cell? ⟨bb, offb + j * 4 + 1, none⟩ = some (.int .i64 x.term) ∧ W.cell? ⟨bb, offb + j * 4 + 2, none⟩ = some (.int .i64 x.kind) ∧ W.cell? ⟨bb, offb + j * 4 + 3, none⟩ = some (.slice Ab ma cb))) ∧ Bys W (.slice Aa ma ca) x.data ∧ Bys W (.slice Ab ma cb) x.data ∧ Below WT.heap.size WT W := fun W hW =>
                ⟨⟨⟨(hW.cell (p := ⟨ba, offa + j * 4, none⟩) hba).trans q0, (hW.cell (p := ⟨ba, offa + j * 4 + 1, none⟩) hba).trans q1, (hW.cell (p := ⟨ba, offa + j * 4 + 2, none⟩) hba).trans q2, (hW.cell (p := ⟨ba, offa + j * 4 + 3, none⟩) hba).trans q3⟩,
                  (hW.cell (p := ⟨bb, offb + j * 4, none⟩) hbb).trans r0, (hW.cell (p := ⟨bb, offb + j * 4 + 1, none⟩) hbb).trans r1, (hW.cell (p := ⟨bb, offb + j * 4 + 2, none⟩) hbb).trans r2, (hW.cell (p := ⟨bb, offb + j * 4 + 3, none⟩) hbb).trans r3⟩, hda.below hW, hdb.below hW, HBW.out.trans (hW.mono HBW.out.size)⟩
              have HAL := Lib.hid hall
              obtain ⟨na, hna⟩ : ∃ m, m = (encE x).length := ⟨_, rfl⟩
              have CA := Lib.hid fun A1 c1 W (hg0 : StdG W) (hW : Bys W (.slice A1 ma c1) x.data) => C.gEncode x A1 ma c1 W hg0 hW hsa na hna
              obtain ⟨X, hX⟩ : ∃ X : ByteArray, X = ⟨(encE x).toArray⟩ := ⟨_, rfl⟩
              have HX := Lib.hid hX
              clear q0 q1 q2 q3 r0 r1 r2 r3 hda hdb hsa hba hbb hx hall hna hma hX hjl
              go_upto_region 12 with fail
              have hd0 : Below wr.heap.size wr wr.drew := (Below.refl _ _).drew
              refine wp_region_held_drew (S := fun W => Below wr.heap.size wr W) (by kernel_rfl) hd0 (fun hHeld => ?_)
              refine wpAnyH_take (i := 0) (oi := { dst := Option.some 74, op := Op.fieldAddr 29 (Operand.tmp 5) 2, type := 0, pos := "law.go:224", after := #[], guard := Option.none }) (v := .pointer (some ⟨gx, 2, none⟩)) rfl (by kernel_rfl) (by kernel_rfl) (by kernel_rfl) (fun _ _ _ h => h) (Or.inl ⟨by rfl, ?_⟩) hHeld ?_
              · intro W hSw
                go_simp
              simp only [Act.put, List.setIfInBounds_toArray, List.set_cons_zero, List.set_cons_succ]
              refine wpAnyH_take (i := 1) (oi := { dst := Option.some 75, op := Op.load 27 (Operand.tmp 74), type := 27, pos := "law.go:224", after := #[{ on := 0, ground := Ground.data }], guard := Option.none }) (v := .slice (some ⟨ba, offa, none⟩) q c3) rfl (by kernel_rfl) (by kernel_rfl) (by kernel_rfl) (fun _ _ _ h => h) (Or.inl ⟨by rfl, ?_⟩) hHeld ?_
              · intro W hSw
                obtain ⟨⟨⟨x0, x1, x2⟩, -⟩, -⟩ := HB.out _ (HAL.out _ hSw).2.2.2
                go_simp
              simp only [Act.put, List.setIfInBounds_toArray, List.set_cons_zero, List.set_cons_succ]
              refine wpAnyH_take (i := 2) (oi := { dst := Option.some 76, op := Op.move (Operand.tmp 11), type := 3, pos := "law.go:224", after := #[], guard := Option.none }) (v := .int .i64 (j : Int)) rfl (by kernel_rfl) (by kernel_rfl) (by kernel_rfl) (fun _ _ _ h => h) (Or.inl ⟨by rfl, ?_⟩) hHeld ?_
              · intro W hSw
                obtain ⟨⟨⟨x0, x1, x2, x3⟩, -⟩, -⟩ := HAL.out _ hSw
                go_simp
              simp only [Act.put, List.setIfInBounds_toArray, List.set_cons_zero, List.set_cons_succ]
              refine wpAnyH_take (i := 3) (oi := { dst := Option.some 77, op := Op.indexAddr 27 (Operand.tmp 75) (Operand.tmp 76), type := 0, pos := "law.go:224", after := #[{ on := 1, ground := Ground.data }, { on := 2, ground := Ground.data }], guard := Option.none }) (v := .pointer (some ⟨ba, offa + j * 4, none⟩)) rfl (by kernel_rfl) (by kernel_rfl) (by kernel_rfl) (fun _ _ _ h => h) (Or.inl ⟨by rfl, ?_⟩) hHeld ?_
              · intro W hSw
                obtain ⟨⟨⟨x0, x1, x2, x3⟩, -⟩, -⟩ := HAL.out _ hSw
                go_simp
              simp only [Act.put, List.setIfInBounds_toArray, List.set_cons_zero, List.set_cons_succ]
              refine wpAnyH_take (i := 4) (oi := { dst := Option.some 78, op := Op.load 41 (Operand.tmp 77), type := 41, pos := "law.go:224", after := #[{ on := 3, ground := Ground.data }], guard := Option.none }) (v := .agg #[.int .i64 x.index, .int .i64 x.term, .int .i64 x.kind, .slice Aa ma ca]) rfl (by kernel_rfl) (by kernel_rfl) (by kernel_rfl) (fun _ _ _ h => h) (Or.inl ⟨by rfl, ?_⟩) hHeld ?_
              · intro W hSw
                obtain ⟨⟨⟨x0, x1, x2, x3⟩, -⟩, -⟩ := HAL.out _ hSw
                go_simp
              simp only [Act.put, List.setIfInBounds_toArray, List.set_cons_zero, List.set_cons_succ]
              refine wpAnyH_take (i := 7) (oi := { dst := Option.some 81, op := Op.fieldAddr 29 (Operand.tmp 8) 2, type := 0, pos := "law.go:224", after := #[], guard := Option.none }) (v := .pointer (some ⟨gy, 2, none⟩)) rfl (by kernel_rfl) (by kernel_rfl) (by kernel_rfl) (fun _ _ _ h => h) (Or.inl ⟨by rfl, ?_⟩) hHeld ?_
              · intro W hSw
                go_simp
              simp only [Act.put, List.setIfInBounds_toArray, List.set_cons_zero, List.set_cons_succ]
              refine wpAnyH_take (i := 8) (oi := { dst := Option.some 82, op := Op.load 27 (Operand.tmp 81), type := 27, pos := "law.go:224", after := #[{ on := 7, ground := Ground.data }], guard := Option.none }) (v := .slice (some ⟨bb, offb, none⟩) q c5) rfl (by kernel_rfl) (by kernel_rfl) (by kernel_rfl) (fun _ _ _ h => h) (Or.inl ⟨by rfl, ?_⟩) hHeld ?_
              · intro W hSw
                obtain ⟨⟨-, ⟨x0, x1, x2⟩⟩, -⟩ := HB.out _ (HAL.out _ hSw).2.2.2
                go_simp
              simp only [Act.put, List.setIfInBounds_toArray, List.set_cons_zero, List.set_cons_succ]
              refine wpAnyH_take (i := 9) (oi := { dst := Option.some 83, op := Op.move (Operand.tmp 11), type := 3, pos := "law.go:224", after := #[], guard := Option.none }) (v := .int .i64 (j : Int)) rfl (by kernel_rfl) (by kernel_rfl) (by kernel_rfl) (fun _ _ _ h => h) (Or.inl ⟨by rfl, ?_⟩) hHeld ?_
              · intro W hSw
                obtain ⟨⟨-, ⟨x0, x1, x2, x3⟩⟩, -⟩ := HAL.out _ hSw
                go_simp
              simp only [Act.put, List.setIfInBounds_toArray, List.set_cons_zero, List.set_cons_succ]
              refine wpAnyH_take (i := 10) (oi := { dst := Option.some 84, op := Op.indexAddr 27 (Operand.tmp 82) (Operand.tmp 83), type := 0, pos := "law.go:224", after := #[{ on := 8, ground := Ground.data }, { on := 9, ground := Ground.data }], guard := Option.none }) (v := .pointer (some ⟨bb, offb + j * 4, none⟩)) rfl (by kernel_rfl) (by kernel_rfl) (by kernel_rfl) (fun _ _ _ h => h) (Or.inl ⟨by rfl, ?_⟩) hHeld ?_
              · intro W hSw
                obtain ⟨⟨-, ⟨x0, x1, x2, x3⟩⟩, -⟩ := HAL.out _ hSw
                go_simp
              simp only [Act.put, List.setIfInBounds_toArray, List.set_cons_zero, List.set_cons_succ]
              refine wpAnyH_take (i := 11) (oi := { dst := Option.some 85, op := Op.load 41 (Operand.tmp 84), type := 41, pos := "law.go:224", after := #[{ on := 10, ground := Ground.data }], guard := Option.none }) (v := .agg #[.int .i64 x.index, .int .i64 x.term, .int .i64 x.kind, .slice Ab ma cb]) rfl (by kernel_rfl) (by kernel_rfl) (by kernel_rfl) (fun _ _ _ h => h) (Or.inl ⟨by rfl, ?_⟩) hHeld ?_
              · intro W hSw
                obtain ⟨⟨-, ⟨x0, x1, x2, x3⟩⟩, -⟩ := HAL.out _ hSw
                go_simp
              simp only [Act.put, List.setIfInBounds_toArray, List.set_cons_zero, List.set_cons_succ]
              refine wpAnyH_ready (rs := [5]) (by kernel_rfl) (by simp) ?_
              refine AllReadyH.cons (o := { dst := Option.some 79, op := Op.call { callee := Callee.value (Operand.func 20), args := #[Operand.tmp 78], argTypes := #[41] }, type := 39, pos := "law.go:224", after := #[{ on := 4, ground := Ground.data }], guard := Option.none }) rfl (fun K hK => ?_) AllReadyH.nil
              go_simp
              refine (CA.out _ _ _ (hG.below (HB.out _ (HAL.out _ hd0).2.2.2).2.2.2) (HAL.out _ hd0).2.1).mono ?_
              rintro y1 w1 ⟨A1, c1, rfl, hi1, hb1⟩
              have hb1 : Below wr.heap.size wr w1 := hd0.trans hb1
              refine hK.out _ _ hb1 (fun hHeld2 => ?_)
              clear hK K hHeld hHeld2
              have H1 := Lib.hid (And.intro hi1 hb1)
              refine wpAnyH_strong (S' := fun W => Below w1.heap.size w1 W) (fun W hW => H1.out.2.trans (hW.mono H1.out.2.size)) _ _ _ _ ?_
              have hHeld : Below w1.heap.size w1 w1 := Below.refl _ _
              clear hi1 hb1
              refine wpAnyH_take (i := 6) (oi := { dst := Option.some 80, op := Op.convert 39 9 (Operand.tmp 79), type := 9, pos := "law.go:224", after := #[{ on := 5, ground := Ground.data }], guard := Option.none }) (v := .string X) rfl (by kernel_rfl) (by kernel_rfl) (by kernel_rfl) (fun _ _ _ h => h) (Or.inl ⟨by rfl, ?_⟩) hHeld ?_
              · intro W hSw
                have hv := conv_bytes (H1.out.1.below hSw).sl_; rw [← HX.out] at hv
                go_simp
              simp only [Act.put, List.setIfInBounds_toArray, List.set_cons_zero, List.set_cons_succ]
              refine wpAnyH_ready (rs := [12]) (by kernel_rfl) (by simp) ?_
              refine AllReadyH.cons (o := { dst := Option.some 86, op := Op.call { callee := Callee.value (Operand.func 20), args := #[Operand.tmp 85], argTypes := #[41] }, type := 39, pos := "law.go:224", after := #[{ on := 11, ground := Ground.data }, { on := 5, ground := Ground.chain }], guard := Option.none }) rfl (fun K hK => ?_) AllReadyH.nil
              go_simp
              refine (CA.out _ _ _ (hG.below (HB.out _ (HAL.out _ H1.out.2).2.2.2).2.2.2) (HAL.out _ H1.out.2).2.2.1).mono ?_
              rintro y2 w2 ⟨A2, c2, rfl, hi2, hb2⟩
              refine hK.out _ _ hb2 (fun hHeld2 => ?_)
              clear hK K hHeld hHeld2
              have H2 := Lib.hid (And.intro hi2 (H1.out.2.trans (hb2.mono H1.out.2.size)))
              have H3 := Lib.hid hb2
              refine wpAnyH_strong (S' := fun W => Below w2.heap.size w2 W) (fun W hW => H3.out.trans (hW.mono H3.out.size)) _ _ _ _ ?_
              have hHeld : Below w2.heap.size w2 w2 := Below.refl _ _
              clear hi2 hb2
              refine wpAnyH_take (i := 13) (oi := { dst := Option.some 87, op := Op.convert 39 9 (Operand.tmp 86), type := 9, pos := "law.go:224", after := #[{ on := 12, ground := Ground.data }], guard := Option.none }) (v := .string X) rfl (by kernel_rfl) (by kernel_rfl) (by kernel_rfl) (fun _ _ _ h => h) (Or.inl ⟨by rfl, ?_⟩) hHeld ?_
              · intro W hSw
                have hv := conv_bytes (H2.out.1.below hSw).sl_; rw [← HX.out] at hv
                go_simp
              simp only [Act.put, List.setIfInBounds_toArray, List.set_cons_zero, List.set_cons_succ]
              refine wpAnyH_take (i := 14) (oi := { dst := Option.some 88, op := Op.binOp BinOp.neq 9 (Operand.tmp 80) (Operand.tmp 87) 9, type := 4, pos := "law.go:224", after := #[{ on := 6, ground := Ground.data }, { on := 13, ground := Ground.data }], guard := Option.none }) (v := .bool false) rfl (by kernel_rfl) (by kernel_rfl) (by kernel_rfl) (fun _ _ _ h => h) (Or.inl ⟨by rfl, ?_⟩) hHeld ?_
              · intro W hSw
                go_simp
              simp only [Act.put, List.setIfInBounds_toArray, List.set_cons_zero, List.set_cons_succ]
              clear hHeld x0 x1 x2 y0 y1 y2
              have HBF := Lib.hid (HBW.out.trans (H2.out.2.mono HBW.out.size))
              refine wpAnyH_done (by kernel_rfl) ?_ _
              go_wp2_with fail
              go_roundw
              case rel => exact ⟨j + 1, by omega, by go_num, HBF.out⟩
              case measure => simp [intOf]; omega
            · obtain rfl : j = q := by omega
              have ii : ¬ (j : Int) < (j : Int) := by omega
              go_wp2_with (go_at_call 9; go_must (refine (sureG C _).mono ?_; rintro y w9 ⟨rfl, hb9⟩; have H9 := Lib.hid (HBW.out.trans (hb9.mono HBW.out.size)); clear hb9))
              go_ret
              exact ⟨rfl, (HB.out _ H9.out).2.2.2⟩

end Go.Proofs.YtlngcfaadfkbnaaDoor.pk
