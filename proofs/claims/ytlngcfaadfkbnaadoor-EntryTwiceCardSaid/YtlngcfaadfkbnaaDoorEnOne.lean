/-
  The law EntryOne: walked.
-/
import Derived.Test.YtlngcfaadfkbnaaDoorEnFroms
namespace Go.Proofs.YtlngcfaadfkbnaaDoor.pk
open Go Go.RowKit
set_option maxRecDepth 100000

theorem outE_small {l : Lg} {i t : Int} {more : List En} (h : SmallE 200 25663 l.l) (h' : SmallE 200 25663 more) : SmallE 1000 100000 (outE l i t more).l := by
  unfold outE
  split
  · rename_i r hr
    obtain ⟨m, z⟩ := r
    obtain ⟨-, -, -, -, -, rfl, -, -⟩ := merge_some hr
    exact small_more (merged_small h h') (by omega) (by omega)
  · split
    · exact small_more h (by omega) (by omega)
    · exact ⟨Nat.zero_le _, fun e he => by cases he⟩
theorem okE_yes {l : Lg} {i t : Int} {more : List En} (h : okE l i t more = true) : mergeE l i t more = some (outE l i t more, atM l i t more) := by
  unfold okE at h
  unfold outE atM
  cases hm : mergeE l i t more with
  | none => rw [hm] at h; cases h
  | some r => rfl
theorem okE_no {l : Lg} {i t : Int} {more : List En} (h : okE l i t more = false) : outE l i t more = if mayE l = true then l else zl := by
  unfold okE at h
  unfold outE
  cases hm : mergeE l i t more with
  | none => rfl
  | some r => rw [hm] at h; cases h

set_option maxHeartbeats 64000000 in
theorem one_true (C : ConG) (l : Lg) (A : Option Addr) (n c : Nat) (mi mt : Int) (A' : Option Addr) (n' c' : Nat) (mo : List En) (w : World) (hG : StdG w) (h : Ents w (.slice A n c) l.l) (h' : Ents w (.slice A' n' c') mo) (hi : inI l.base) (ht : inI l.term) (hmi : inI mi) (hmt : inI mt) (hd : ∀ e ∈ l.l, e.data.length ≤ 140737488355328) (hd' : ∀ e ∈ mo, e.data.length ≤ 140737488355328) :
    Calls Tryd.prog 4 #[.agg #[.int .i64 l.base, .int .i64 l.term, .slice A n c], .agg #[.int .i64 mi, .int .i64 mt, .slice A' n' c']] w fun y w' => y = .returned (.bool true) ∧ Below w.heap.size w w' := by
  obtain ⟨W1, g, gm, hW1, hg, hgm, hb1, hq, hq2, hsz⟩ := two_box w (.cells #[.int .i64 l.base, .int .i64 l.term, .slice A n c] 24) (.cells #[.int .i64 mi, .int .i64 mt, .slice A' n' c'] 54)
  have HW := Lib.hid (And.intro hW1 (And.intro hg hgm))
  have HE := Lib.hid hb1
  have hcells : ∀ W, Below W1.heap.size W1 W → (W.cell? ⟨g, 0, none⟩ = some (.int .i64 l.base) ∧ W.cell? ⟨g, 1, none⟩ = some (.int .i64 l.term) ∧ W.cell? ⟨g, 2, none⟩ = some (.slice A n c)) ∧ (W.cell? ⟨gm, 0, none⟩ = some (.int .i64 mi) ∧ W.cell? ⟨gm, 1, none⟩ = some (.int .i64 mt) ∧ W.cell? ⟨gm, 2, none⟩ = some (.slice A' n' c')) := fun W hW => ⟨cells3 ((hW.block g (obj_lt hq)).trans hq), cells3 ((hW.block gm (obj_lt hq2)).trans hq2)⟩
  have HCL := Lib.hid hcells
  obtain ⟨⟨x0, x1, x2⟩, ⟨y0, y1, y2⟩⟩ := hcells W1 (Below.refl _ _)
  obtain ⟨lo, hlo⟩ : ∃ b, b = longE l.l := ⟨_, rfl⟩
  obtain ⟨lo', hlo'⟩ : ∃ b, b = longE mo := ⟨_, rfl⟩
  have HL := Lib.hid (long_any A n c l.l W1 (h.below hb1) hd lo hlo)
  have HL' := Lib.hid (long_any A' n' c' mo W1 (h'.below hb1) hd' lo' hlo')
  by_cases hlong : lo = true ∨ (lo = false ∧ lo' = true)
  · clear h h' hi ht hmi hmt hd hd' hlo hlo' hW1 hg hgm hb1 hq hq2 hsz hcells
    rcases hlong with rfl | ⟨rfl, rfl⟩
    all_goals
      go_enter Tryd.func4, Tryd.ntmps4
      go_upto_region 1 with fail
      rw [← HW.out.1, ← HW.out.2.1, ← HW.out.2.2]
      go_wp2_with (first
        | (go_at_call 8; first
            | (with_reducible refine HL.out.mono ?_; rintro y w1 ⟨rfl, rfl⟩)
            | (with_reducible refine HL'.out.mono ?_; rintro y w1 ⟨rfl, rfl⟩))
        | (go_at_call 9; go_must (refine (sureG C _).mono ?_; rintro y w2 ⟨rfl, hb2⟩; have HB2 := Lib.hid (HE.out.trans (hb2.mono HE.out.size)); clear hb2)))
      go_ret
      exact ⟨rfl, HB2.out⟩
  · obtain ⟨rfl, rfl⟩ : lo = false ∧ lo' = false := by
      cases lo <;> cases lo' <;> simp_all
    have hsm := longE_small hlo.symm
    have hsm' := longE_small hlo'.symm
    have HG := Lib.hid fun W (hW : Below w.heap.size w W) => giveLog_any l A n c W (h.below hW) (small_more hsm (by omega) (by omega))
    have HG' := Lib.hid fun W (hW : Below w.heap.size w W) => (giveEntries_any A' n' c' mo W (h'.below hW) (small_more hsm' (by omega) (by omega))).mono fun y w' ⟨A1, c1, hy, he, hb⟩ => show ∃ A1 c1, y = Ending.returned (.slice A1 n' c1) ∧ Ents w' (.slice A1 n' c1) mo ∧ Below W.heap.size W w' from ⟨A1, c1, hy, ⟨he.move (fun _ _ _ => rfl) fun _ hk => hk.2, h'.2⟩, hb⟩
    obtain ⟨m, hm⟩ : ∃ m, m = outE l mi mt mo := ⟨_, rfl⟩
    obtain ⟨ok, hok⟩ : ∃ b, b = okE l mi mt mo := ⟨_, rfl⟩
    obtain ⟨z, hz⟩ : ∃ z, z = atM l mi mt mo := ⟨_, rfl⟩
    obtain ⟨q, hq'⟩ : ∃ q, q = m.l.length := ⟨_, rfl⟩
    have HMg := Lib.hid fun A1 c1 A2 c2 W (h1 : Ents W (.slice A1 n c1) l.l) (h2 : Ents W (.slice A2 n' c2) mo) => gMerge_any C l A1 n c1 mi mt A2 n' c2 mo W h1 hi ht (small_more hsm (by omega) (by omega)) hmi hmt h2 (small_more hsm' (by omega) (by omega)) m hm ok hok z hz q hq'
    have hmsm : SmallE 1000 100000 m.l := by rw [hm]; exact outE_small hsm hsm'
    have HM := Lib.hid (And.intro hm (And.intro hok (And.intro hz (And.intro hq' hmsm))))
    have HS := Lib.hid (And.intro hsm hsm')
    have HN := Lib.hid (And.intro h (And.intro h' (And.intro hi (And.intro ht (And.intro hmi hmt)))))
    clear h h' hi ht hmi hmt hd hd' hlo hlo' hlong hW1 hg hgm hb1 hq hq2 hsz hcells hsm hsm' hm hok hz hq' hmsm
    go_enter Tryd.func4, Tryd.ntmps4
    go_upto_region 1 with fail
    rw [← HW.out.1, ← HW.out.2.1, ← HW.out.2.2]
    go_upto_region 3 with (go_at_call 8; first
      | (with_reducible refine HL.out.mono ?_; rintro y w1 ⟨rfl, rfl⟩)
      | (with_reducible refine HL'.out.mono ?_; rintro y w1 ⟨rfl, rfl⟩))
    have hd0 : Below W1.heap.size W1 W1.drew := (Below.refl _ _).drew
    refine wp_region_held_drew (S := fun W => Below W1.heap.size W1 W) (by kernel_rfl) hd0 (fun hHeld => ?_)
    obtain ⟨v0, hv0⟩ : ∃ V, V = W1.drew := ⟨_, rfl⟩
    rw [← hv0] at hd0 hHeld ⊢
    have Kv0 := Lib.hid hd0
    clear hd0 hv0 x0 x1 x2 y0 y1 y2
    refine wpAnyH_take (i := 0) (oi := { dst := Option.some 21, op := Op.load 24 (Operand.tmp 2), type := 24, pos := "law.go:194", after := #[], guard := Option.none }) (v := .agg #[.int .i64 l.base, .int .i64 l.term, .slice A n c]) rfl (by kernel_rfl) (by kernel_rfl) (by kernel_rfl) (fun _ _ _ h => h) (Or.inl ⟨by rfl, ?_⟩) hHeld ?_
    · intro W hSw
      obtain ⟨⟨z0, z1, z2⟩, -⟩ := HCL.out _ hSw
      go_simp
    simp only [Act.put, List.setIfInBounds_toArray, List.set_cons_zero, List.set_cons_succ]
    refine wpAnyH_take (i := 2) (oi := { dst := Option.some 23, op := Op.fieldAddr 54 (Operand.tmp 3) 0, type := 0, pos := "law.go:194", after := #[], guard := Option.none }) (v := .pointer (some ⟨gm, 0, none⟩)) rfl (by kernel_rfl) (by kernel_rfl) (by kernel_rfl) (fun _ _ _ h => h) (Or.inl ⟨by rfl, ?_⟩) hHeld ?_
    · intro W hSw
      obtain ⟨-, ⟨z0, z1, z2⟩⟩ := HCL.out _ hSw
      go_simp
    simp only [Act.put, List.setIfInBounds_toArray, List.set_cons_zero, List.set_cons_succ]
    refine wpAnyH_take (i := 3) (oi := { dst := Option.some 24, op := Op.load 3 (Operand.tmp 23), type := 3, pos := "law.go:194", after := #[{ on := 2, ground := Ground.data }], guard := Option.none }) (v := .int .i64 mi) rfl (by kernel_rfl) (by kernel_rfl) (by kernel_rfl) (fun _ _ _ h => h) (Or.inl ⟨by rfl, ?_⟩) hHeld ?_
    · intro W hSw
      obtain ⟨-, ⟨z0, z1, z2⟩⟩ := HCL.out _ hSw
      go_simp
    simp only [Act.put, List.setIfInBounds_toArray, List.set_cons_zero, List.set_cons_succ]
    refine wpAnyH_take (i := 4) (oi := { dst := Option.some 25, op := Op.fieldAddr 54 (Operand.tmp 3) 1, type := 0, pos := "law.go:194", after := #[], guard := Option.none }) (v := .pointer (some ⟨gm, 1, none⟩)) rfl (by kernel_rfl) (by kernel_rfl) (by kernel_rfl) (fun _ _ _ h => h) (Or.inl ⟨by rfl, ?_⟩) hHeld ?_
    · intro W hSw
      obtain ⟨-, ⟨z0, z1, z2⟩⟩ := HCL.out _ hSw
      go_simp
    simp only [Act.put, List.setIfInBounds_toArray, List.set_cons_zero, List.set_cons_succ]
    refine wpAnyH_take (i := 5) (oi := { dst := Option.some 26, op := Op.load 3 (Operand.tmp 25), type := 3, pos := "law.go:194", after := #[{ on := 4, ground := Ground.data }], guard := Option.none }) (v := .int .i64 mt) rfl (by kernel_rfl) (by kernel_rfl) (by kernel_rfl) (fun _ _ _ h => h) (Or.inl ⟨by rfl, ?_⟩) hHeld ?_
    · intro W hSw
      obtain ⟨-, ⟨z0, z1, z2⟩⟩ := HCL.out _ hSw
      go_simp
    simp only [Act.put, List.setIfInBounds_toArray, List.set_cons_zero, List.set_cons_succ]
    refine wpAnyH_take (i := 6) (oi := { dst := Option.some 27, op := Op.fieldAddr 54 (Operand.tmp 3) 2, type := 0, pos := "law.go:194", after := #[], guard := Option.none }) (v := .pointer (some ⟨gm, 2, none⟩)) rfl (by kernel_rfl) (by kernel_rfl) (by kernel_rfl) (fun _ _ _ h => h) (Or.inl ⟨by rfl, ?_⟩) hHeld ?_
    · intro W hSw
      obtain ⟨-, ⟨z0, z1, z2⟩⟩ := HCL.out _ hSw
      go_simp
    simp only [Act.put, List.setIfInBounds_toArray, List.set_cons_zero, List.set_cons_succ]
    refine wpAnyH_take (i := 7) (oi := { dst := Option.some 28, op := Op.load 22 (Operand.tmp 27), type := 22, pos := "law.go:194", after := #[{ on := 6, ground := Ground.data }], guard := Option.none }) (v := .slice A' n' c') rfl (by kernel_rfl) (by kernel_rfl) (by kernel_rfl) (fun _ _ _ h => h) (Or.inl ⟨by rfl, ?_⟩) hHeld ?_
    · intro W hSw
      obtain ⟨-, ⟨z0, z1, z2⟩⟩ := HCL.out _ hSw
      go_simp
    simp only [Act.put, List.setIfInBounds_toArray, List.set_cons_zero, List.set_cons_succ]
    refine wpAnyH_ready (rs := [1, 14]) (by kernel_rfl) (by simp) ?_
    refine AllReadyH.cons (o := { dst := Option.some 22, op := Op.call { callee := Callee.value (Operand.func 10), args := #[Operand.tmp 21], argTypes := #[24] }, type := 29, pos := "law.go:194", after := #[{ on := 0, ground := Ground.data }], guard := Option.none }) rfl (fun K hK => ?_) (AllReadyH.cons (o := { dst := Option.some 5, op := Op.alloc 29, type := 0, pos := "law.go:194", after := #[], guard := Option.none }) rfl (fun K hK => ?_) AllReadyH.nil)
    rotate_left
    focus
      go_simp
      have hbz : Below W1.heap.size W1 (v0.alloc (.cells #[.int .i64 0, .int .i64 0, .slice none 0 0] 29)) := Kv0.out.alloc Kv0.out.size _
      have hqz := heap_alloc_new v0 (.cells #[.int .i64 0, .int .i64 0, .slice none 0 0] 29)
      have hsb := below_alloc v0 (.cells #[.int .i64 0, .int .i64 0, .slice none 0 0] 29)
      refine hK.out _ _ hbz (fun hHeld2 => ?_)
      clear hK K hHeld
      have hHeld := hHeld2
      clear hHeld2
      obtain ⟨u1, hVA⟩ : ∃ W, W = v0.alloc (.cells #[.int .i64 0, .int .i64 0, .slice none 0 0] 29) := ⟨_, rfl⟩
      obtain ⟨gx, hgx⟩ : ∃ g, g = v0.heap.size := ⟨_, rfl⟩
      rw [← hVA] at hbz hqz hsb hHeld ⊢
      rw [← hgx] at hqz ⊢
      have Ku1 := Lib.hid hbz
      have EG := Lib.hid (show W1.heap.size ≤ gx by rw [hgx]; exact Kv0.out.size)
      have EQ := Lib.hid hqz
      clear hbz hqz hsb hVA hgx
      refine wpAnyH_ready (rs := [1]) (by kernel_rfl) (by simp) ?_
      refine AllReadyH.cons (o := { dst := Option.some 22, op := Op.call { callee := Callee.value (Operand.func 10), args := #[Operand.tmp 21], argTypes := #[24] }, type := 29, pos := "law.go:194", after := #[{ on := 0, ground := Ground.data }], guard := Option.none }) rfl (fun K hK => ?_) AllReadyH.nil
      go_simp
      refine (HG.out _ (HE.out.trans (Ku1.out.mono HE.out.size))).mono ?_
      rintro y v2 ⟨A1, c1, rfl, hi, hsb⟩
      have hbz : Below W1.heap.size W1 v2 := Ku1.out.trans (hsb.mono Ku1.out.size)
      refine hK.out _ _ hbz (fun hHeld2 => ?_)
      clear hK K hHeld
      have hHeld := hHeld2
      clear hHeld2
      have Kv2 := Lib.hid hbz
      have EQ := Lib.hid ((hsb.block gx (obj_lt EQ.out)).trans EQ.out)
      have E1 := Lib.hid hi
      clear hbz hsb hi
      refine wpAnyH_ready (rs := [8]) (by kernel_rfl) (by simp) ?_
      refine AllReadyH.cons (o := { dst := Option.some 29, op := Op.call { callee := Callee.value (Operand.func 23), args := #[Operand.tmp 28], argTypes := #[22] }, type := 27, pos := "law.go:194", after := #[{ on := 7, ground := Ground.data }, { on := 1, ground := Ground.chain }], guard := Option.none }) rfl (fun K hK => ?_) AllReadyH.nil
      go_simp
      refine (HG'.out _ (HE.out.trans (Kv2.out.mono HE.out.size))).mono ?_
      rintro y v3 ⟨A2, c2, rfl, hi, hsb⟩
      have hbz : Below W1.heap.size W1 v3 := Kv2.out.trans (hsb.mono Kv2.out.size)
      refine hK.out _ _ hbz (fun hHeld2 => ?_)
      clear hK K hHeld
      have hHeld := hHeld2
      clear hHeld2
      have Kv3 := Lib.hid hbz
      have E1 := Lib.hid (E1.out.below hsb)
      have EQ := Lib.hid ((hsb.block gx (obj_lt EQ.out)).trans EQ.out)
      have E2 := Lib.hid (show Ents v3 (.slice A2 n' c2) mo from hi)
      clear hbz hsb hi
      refine wpAnyH_ready (rs := [9]) (by kernel_rfl) (by simp) ?_
      refine AllReadyH.cons (o := { dst := Option.some 30, op := Op.call { callee := Callee.value (Operand.func 22), args := #[Operand.tmp 22, Operand.tmp 24, Operand.tmp 26, Operand.tmp 29], argTypes := #[29, 3, 3, 27] }, type := 55, pos := "law.go:194", after := #[{ on := 1, ground := Ground.data }, { on := 3, ground := Ground.data }, { on := 5, ground := Ground.data }, { on := 8, ground := Ground.data }, { on := 8, ground := Ground.chain }], guard := Option.none }) rfl (fun K hK => ?_) AllReadyH.nil
      go_simp
      refine (HMg.out _ _ _ _ _ E1.out E2.out).mono ?_
      rintro y wF ⟨A3, c3, zz, rfl, hi, hsb, hzz⟩
      have hbz : Below W1.heap.size W1 wF := Kv3.out.trans (hsb.mono Kv3.out.size)
      refine hK.out _ _ hbz (fun hHeld2 => ?_)
      clear hK K hHeld
      have hHeld := hHeld2
      clear hHeld2
      have KwF := Lib.hid hbz
      have E3 := Lib.hid (EntsT.move hi.1 (T' := fun k => k < wF.heap.size ∧ k ≠ gx) (fun _ _ _ => rfl) fun k hk => ⟨hk.2, by have := hk.1; have := obj_lt EQ.out; omega⟩)
      have E1 := Lib.hid (E1.out.below hsb)
      have E2 := Lib.hid (E2.out.below hsb)
      have EQ := Lib.hid ((hsb.block gx (obj_lt EQ.out)).trans EQ.out)
      have EO := Lib.hid hi.2
      have EZ := Lib.hid hzz
      clear hzz
      clear hbz hsb hi
      refine wpAnyH_take (i := 10) (oi := { dst := Option.some 20, op := Op.move (Operand.tmp 30), type := 55, pos := "law.go:194", after := #[{ on := 9, ground := Ground.data }], guard := Option.none }) (v := .tuple #[.agg #[.int .i64 m.base, .int .i64 m.term, .slice A3 q c3], .int .i64 zz, .bool ok]) rfl (by kernel_rfl) (by kernel_rfl) (by kernel_rfl) (fun _ _ _ h => h) (Or.inl ⟨by rfl, ?_⟩) hHeld ?_
      · intro W hSw
        go_simp
      simp only [Act.put, List.setIfInBounds_toArray, List.set_cons_zero, List.set_cons_succ]
      refine wpAnyH_take (i := 11) (oi := { dst := Option.some 31, op := Op.extract (Operand.tmp 20) 0, type := 29, pos := "law.go:194", after := #[{ on := 10, ground := Ground.data }], guard := Option.none }) (v := .agg #[.int .i64 m.base, .int .i64 m.term, .slice A3 q c3]) rfl (by kernel_rfl) (by kernel_rfl) (by kernel_rfl) (fun _ _ _ h => h) (Or.inl ⟨by rfl, ?_⟩) hHeld ?_
      · intro W hSw
        go_simp
      simp only [Act.put, List.setIfInBounds_toArray, List.set_cons_zero, List.set_cons_succ]
      refine wpAnyH_take (i := 12) (oi := { dst := Option.some 32, op := Op.extract (Operand.tmp 20) 1, type := 3, pos := "law.go:194", after := #[{ on := 10, ground := Ground.data }, { on := 15, ground := Ground.gcOnly Departure.lateStores }], guard := Option.none }) (v := .int .i64 zz) rfl (by kernel_rfl) (by kernel_rfl) (by kernel_rfl) (fun _ _ _ h => h) (Or.inl ⟨by rfl, ?_⟩) hHeld ?_
      · intro W hSw
        go_simp
      simp only [Act.put, List.setIfInBounds_toArray, List.set_cons_zero, List.set_cons_succ]
      refine wpAnyH_take (i := 13) (oi := { dst := Option.some 33, op := Op.extract (Operand.tmp 20) 2, type := 4, pos := "law.go:194", after := #[{ on := 10, ground := Ground.data }, { on := 16, ground := Ground.gcOnly Departure.lateStores }], guard := Option.none }) (v := .bool ok) rfl (by kernel_rfl) (by kernel_rfl) (by kernel_rfl) (fun _ _ _ h => h) (Or.inl ⟨by rfl, ?_⟩) hHeld ?_
      · intro W hSw
        go_simp
      simp only [Act.put, List.setIfInBounds_toArray, List.set_cons_zero, List.set_cons_succ]
    rotate_left
    focus
      go_simp
      refine (HG.out _ (HE.out.trans (Kv0.out.mono HE.out.size))).mono ?_
      rintro y v1 ⟨A1, c1, rfl, hi, hsb⟩
      have hbz : Below W1.heap.size W1 v1 := Kv0.out.trans (hsb.mono Kv0.out.size)
      refine hK.out _ _ hbz (fun hHeld2 => ?_)
      clear hK K hHeld
      have hHeld := hHeld2
      clear hHeld2
      have Kv1 := Lib.hid hbz
      have E1 := Lib.hid hi
      clear hbz hsb hi
      refine wpAnyH_ready (rs := [8, 14]) (by kernel_rfl) (by simp) ?_
      refine AllReadyH.cons (o := { dst := Option.some 29, op := Op.call { callee := Callee.value (Operand.func 23), args := #[Operand.tmp 28], argTypes := #[22] }, type := 27, pos := "law.go:194", after := #[{ on := 7, ground := Ground.data }, { on := 1, ground := Ground.chain }], guard := Option.none }) rfl (fun K hK => ?_) (AllReadyH.cons (o := { dst := Option.some 5, op := Op.alloc 29, type := 0, pos := "law.go:194", after := #[], guard := Option.none }) rfl (fun K hK => ?_) AllReadyH.nil)
      rotate_left
      focus
        go_simp
        have hbz : Below W1.heap.size W1 (v1.alloc (.cells #[.int .i64 0, .int .i64 0, .slice none 0 0] 29)) := Kv1.out.alloc Kv1.out.size _
        have hqz := heap_alloc_new v1 (.cells #[.int .i64 0, .int .i64 0, .slice none 0 0] 29)
        have hsb := below_alloc v1 (.cells #[.int .i64 0, .int .i64 0, .slice none 0 0] 29)
        refine hK.out _ _ hbz (fun hHeld2 => ?_)
        clear hK K hHeld
        have hHeld := hHeld2
        clear hHeld2
        obtain ⟨u2, hVA⟩ : ∃ W, W = v1.alloc (.cells #[.int .i64 0, .int .i64 0, .slice none 0 0] 29) := ⟨_, rfl⟩
        obtain ⟨gx, hgx⟩ : ∃ g, g = v1.heap.size := ⟨_, rfl⟩
        rw [← hVA] at hbz hqz hsb hHeld ⊢
        rw [← hgx] at hqz ⊢
        have Ku2 := Lib.hid hbz
        have EG := Lib.hid (show W1.heap.size ≤ gx by rw [hgx]; exact Kv1.out.size)
        have E1 := Lib.hid (E1.out.below hsb)
        have EQ := Lib.hid hqz
        clear hbz hqz hsb hVA hgx
        refine wpAnyH_ready (rs := [8]) (by kernel_rfl) (by simp) ?_
        refine AllReadyH.cons (o := { dst := Option.some 29, op := Op.call { callee := Callee.value (Operand.func 23), args := #[Operand.tmp 28], argTypes := #[22] }, type := 27, pos := "law.go:194", after := #[{ on := 7, ground := Ground.data }, { on := 1, ground := Ground.chain }], guard := Option.none }) rfl (fun K hK => ?_) AllReadyH.nil
        go_simp
        refine (HG'.out _ (HE.out.trans (Ku2.out.mono HE.out.size))).mono ?_
        rintro y v3 ⟨A2, c2, rfl, hi, hsb⟩
        have hbz : Below W1.heap.size W1 v3 := Ku2.out.trans (hsb.mono Ku2.out.size)
        refine hK.out _ _ hbz (fun hHeld2 => ?_)
        clear hK K hHeld
        have hHeld := hHeld2
        clear hHeld2
        have Kv3 := Lib.hid hbz
        have E1 := Lib.hid (E1.out.below hsb)
        have EQ := Lib.hid ((hsb.block gx (obj_lt EQ.out)).trans EQ.out)
        have E2 := Lib.hid (show Ents v3 (.slice A2 n' c2) mo from hi)
        clear hbz hsb hi
        refine wpAnyH_ready (rs := [9]) (by kernel_rfl) (by simp) ?_
        refine AllReadyH.cons (o := { dst := Option.some 30, op := Op.call { callee := Callee.value (Operand.func 22), args := #[Operand.tmp 22, Operand.tmp 24, Operand.tmp 26, Operand.tmp 29], argTypes := #[29, 3, 3, 27] }, type := 55, pos := "law.go:194", after := #[{ on := 1, ground := Ground.data }, { on := 3, ground := Ground.data }, { on := 5, ground := Ground.data }, { on := 8, ground := Ground.data }, { on := 8, ground := Ground.chain }], guard := Option.none }) rfl (fun K hK => ?_) AllReadyH.nil
        go_simp
        refine (HMg.out _ _ _ _ _ E1.out E2.out).mono ?_
        rintro y wF ⟨A3, c3, zz, rfl, hi, hsb, hzz⟩
        have hbz : Below W1.heap.size W1 wF := Kv3.out.trans (hsb.mono Kv3.out.size)
        refine hK.out _ _ hbz (fun hHeld2 => ?_)
        clear hK K hHeld
        have hHeld := hHeld2
        clear hHeld2
        have KwF := Lib.hid hbz
        have E3 := Lib.hid (EntsT.move hi.1 (T' := fun k => k < wF.heap.size ∧ k ≠ gx) (fun _ _ _ => rfl) fun k hk => ⟨hk.2, by have := hk.1; have := obj_lt EQ.out; omega⟩)
        have E1 := Lib.hid (E1.out.below hsb)
        have E2 := Lib.hid (E2.out.below hsb)
        have EQ := Lib.hid ((hsb.block gx (obj_lt EQ.out)).trans EQ.out)
        have EO := Lib.hid hi.2
        have EZ := Lib.hid hzz
        clear hzz
        clear hbz hsb hi
        refine wpAnyH_take (i := 10) (oi := { dst := Option.some 20, op := Op.move (Operand.tmp 30), type := 55, pos := "law.go:194", after := #[{ on := 9, ground := Ground.data }], guard := Option.none }) (v := .tuple #[.agg #[.int .i64 m.base, .int .i64 m.term, .slice A3 q c3], .int .i64 zz, .bool ok]) rfl (by kernel_rfl) (by kernel_rfl) (by kernel_rfl) (fun _ _ _ h => h) (Or.inl ⟨by rfl, ?_⟩) hHeld ?_
        · intro W hSw
          go_simp
        simp only [Act.put, List.setIfInBounds_toArray, List.set_cons_zero, List.set_cons_succ]
        refine wpAnyH_take (i := 11) (oi := { dst := Option.some 31, op := Op.extract (Operand.tmp 20) 0, type := 29, pos := "law.go:194", after := #[{ on := 10, ground := Ground.data }], guard := Option.none }) (v := .agg #[.int .i64 m.base, .int .i64 m.term, .slice A3 q c3]) rfl (by kernel_rfl) (by kernel_rfl) (by kernel_rfl) (fun _ _ _ h => h) (Or.inl ⟨by rfl, ?_⟩) hHeld ?_
        · intro W hSw
          go_simp
        simp only [Act.put, List.setIfInBounds_toArray, List.set_cons_zero, List.set_cons_succ]
        refine wpAnyH_take (i := 12) (oi := { dst := Option.some 32, op := Op.extract (Operand.tmp 20) 1, type := 3, pos := "law.go:194", after := #[{ on := 10, ground := Ground.data }, { on := 15, ground := Ground.gcOnly Departure.lateStores }], guard := Option.none }) (v := .int .i64 zz) rfl (by kernel_rfl) (by kernel_rfl) (by kernel_rfl) (fun _ _ _ h => h) (Or.inl ⟨by rfl, ?_⟩) hHeld ?_
        · intro W hSw
          go_simp
        simp only [Act.put, List.setIfInBounds_toArray, List.set_cons_zero, List.set_cons_succ]
        refine wpAnyH_take (i := 13) (oi := { dst := Option.some 33, op := Op.extract (Operand.tmp 20) 2, type := 4, pos := "law.go:194", after := #[{ on := 10, ground := Ground.data }, { on := 16, ground := Ground.gcOnly Departure.lateStores }], guard := Option.none }) (v := .bool ok) rfl (by kernel_rfl) (by kernel_rfl) (by kernel_rfl) (fun _ _ _ h => h) (Or.inl ⟨by rfl, ?_⟩) hHeld ?_
        · intro W hSw
          go_simp
        simp only [Act.put, List.setIfInBounds_toArray, List.set_cons_zero, List.set_cons_succ]
      rotate_left
      focus
        go_simp
        refine (HG'.out _ (HE.out.trans (Kv1.out.mono HE.out.size))).mono ?_
        rintro y v2 ⟨A2, c2, rfl, hi, hsb⟩
        have hbz : Below W1.heap.size W1 v2 := Kv1.out.trans (hsb.mono Kv1.out.size)
        refine hK.out _ _ hbz (fun hHeld2 => ?_)
        clear hK K hHeld
        have hHeld := hHeld2
        clear hHeld2
        have Kv2 := Lib.hid hbz
        have E1 := Lib.hid (E1.out.below hsb)
        have E2 := Lib.hid (show Ents v2 (.slice A2 n' c2) mo from hi)
        clear hbz hsb hi
        refine wpAnyH_ready (rs := [9, 14]) (by kernel_rfl) (by simp) ?_
        refine AllReadyH.cons (o := { dst := Option.some 30, op := Op.call { callee := Callee.value (Operand.func 22), args := #[Operand.tmp 22, Operand.tmp 24, Operand.tmp 26, Operand.tmp 29], argTypes := #[29, 3, 3, 27] }, type := 55, pos := "law.go:194", after := #[{ on := 1, ground := Ground.data }, { on := 3, ground := Ground.data }, { on := 5, ground := Ground.data }, { on := 8, ground := Ground.data }, { on := 8, ground := Ground.chain }], guard := Option.none }) rfl (fun K hK => ?_) (AllReadyH.cons (o := { dst := Option.some 5, op := Op.alloc 29, type := 0, pos := "law.go:194", after := #[], guard := Option.none }) rfl (fun K hK => ?_) AllReadyH.nil)
        rotate_left
        focus
          go_simp
          have hbz : Below W1.heap.size W1 (v2.alloc (.cells #[.int .i64 0, .int .i64 0, .slice none 0 0] 29)) := Kv2.out.alloc Kv2.out.size _
          have hqz := heap_alloc_new v2 (.cells #[.int .i64 0, .int .i64 0, .slice none 0 0] 29)
          have hsb := below_alloc v2 (.cells #[.int .i64 0, .int .i64 0, .slice none 0 0] 29)
          refine hK.out _ _ hbz (fun hHeld2 => ?_)
          clear hK K hHeld
          have hHeld := hHeld2
          clear hHeld2
          obtain ⟨u3, hVA⟩ : ∃ W, W = v2.alloc (.cells #[.int .i64 0, .int .i64 0, .slice none 0 0] 29) := ⟨_, rfl⟩
          obtain ⟨gx, hgx⟩ : ∃ g, g = v2.heap.size := ⟨_, rfl⟩
          rw [← hVA] at hbz hqz hsb hHeld ⊢
          rw [← hgx] at hqz ⊢
          have Ku3 := Lib.hid hbz
          have EG := Lib.hid (show W1.heap.size ≤ gx by rw [hgx]; exact Kv2.out.size)
          have E1 := Lib.hid (E1.out.below hsb)
          have E2 := Lib.hid (E2.out.below hsb)
          have EQ := Lib.hid hqz
          clear hbz hqz hsb hVA hgx
          refine wpAnyH_ready (rs := [9]) (by kernel_rfl) (by simp) ?_
          refine AllReadyH.cons (o := { dst := Option.some 30, op := Op.call { callee := Callee.value (Operand.func 22), args := #[Operand.tmp 22, Operand.tmp 24, Operand.tmp 26, Operand.tmp 29], argTypes := #[29, 3, 3, 27] }, type := 55, pos := "law.go:194", after := #[{ on := 1, ground := Ground.data }, { on := 3, ground := Ground.data }, { on := 5, ground := Ground.data }, { on := 8, ground := Ground.data }, { on := 8, ground := Ground.chain }], guard := Option.none }) rfl (fun K hK => ?_) AllReadyH.nil
          go_simp
          refine (HMg.out _ _ _ _ _ E1.out E2.out).mono ?_
          rintro y wF ⟨A3, c3, zz, rfl, hi, hsb, hzz⟩
          have hbz : Below W1.heap.size W1 wF := Ku3.out.trans (hsb.mono Ku3.out.size)
          refine hK.out _ _ hbz (fun hHeld2 => ?_)
          clear hK K hHeld
          have hHeld := hHeld2
          clear hHeld2
          have KwF := Lib.hid hbz
          have E3 := Lib.hid (EntsT.move hi.1 (T' := fun k => k < wF.heap.size ∧ k ≠ gx) (fun _ _ _ => rfl) fun k hk => ⟨hk.2, by have := hk.1; have := obj_lt EQ.out; omega⟩)
          have E1 := Lib.hid (E1.out.below hsb)
          have E2 := Lib.hid (E2.out.below hsb)
          have EQ := Lib.hid ((hsb.block gx (obj_lt EQ.out)).trans EQ.out)
          have EO := Lib.hid hi.2
          have EZ := Lib.hid hzz
          clear hzz
          clear hbz hsb hi
          refine wpAnyH_take (i := 10) (oi := { dst := Option.some 20, op := Op.move (Operand.tmp 30), type := 55, pos := "law.go:194", after := #[{ on := 9, ground := Ground.data }], guard := Option.none }) (v := .tuple #[.agg #[.int .i64 m.base, .int .i64 m.term, .slice A3 q c3], .int .i64 zz, .bool ok]) rfl (by kernel_rfl) (by kernel_rfl) (by kernel_rfl) (fun _ _ _ h => h) (Or.inl ⟨by rfl, ?_⟩) hHeld ?_
          · intro W hSw
            go_simp
          simp only [Act.put, List.setIfInBounds_toArray, List.set_cons_zero, List.set_cons_succ]
          refine wpAnyH_take (i := 11) (oi := { dst := Option.some 31, op := Op.extract (Operand.tmp 20) 0, type := 29, pos := "law.go:194", after := #[{ on := 10, ground := Ground.data }], guard := Option.none }) (v := .agg #[.int .i64 m.base, .int .i64 m.term, .slice A3 q c3]) rfl (by kernel_rfl) (by kernel_rfl) (by kernel_rfl) (fun _ _ _ h => h) (Or.inl ⟨by rfl, ?_⟩) hHeld ?_
          · intro W hSw
            go_simp
          simp only [Act.put, List.setIfInBounds_toArray, List.set_cons_zero, List.set_cons_succ]
          refine wpAnyH_take (i := 12) (oi := { dst := Option.some 32, op := Op.extract (Operand.tmp 20) 1, type := 3, pos := "law.go:194", after := #[{ on := 10, ground := Ground.data }, { on := 15, ground := Ground.gcOnly Departure.lateStores }], guard := Option.none }) (v := .int .i64 zz) rfl (by kernel_rfl) (by kernel_rfl) (by kernel_rfl) (fun _ _ _ h => h) (Or.inl ⟨by rfl, ?_⟩) hHeld ?_
          · intro W hSw
            go_simp
          simp only [Act.put, List.setIfInBounds_toArray, List.set_cons_zero, List.set_cons_succ]
          refine wpAnyH_take (i := 13) (oi := { dst := Option.some 33, op := Op.extract (Operand.tmp 20) 2, type := 4, pos := "law.go:194", after := #[{ on := 10, ground := Ground.data }, { on := 16, ground := Ground.gcOnly Departure.lateStores }], guard := Option.none }) (v := .bool ok) rfl (by kernel_rfl) (by kernel_rfl) (by kernel_rfl) (fun _ _ _ h => h) (Or.inl ⟨by rfl, ?_⟩) hHeld ?_
          · intro W hSw
            go_simp
          simp only [Act.put, List.setIfInBounds_toArray, List.set_cons_zero, List.set_cons_succ]
        rotate_left
        focus
          go_simp
          refine (HMg.out _ _ _ _ _ E1.out E2.out).mono ?_
          rintro y v3 ⟨A3, c3, zz, rfl, hi, hsb, hzz⟩
          have hbz : Below W1.heap.size W1 v3 := Kv2.out.trans (hsb.mono Kv2.out.size)
          refine hK.out _ _ hbz (fun hHeld2 => ?_)
          clear hK K hHeld
          have hHeld := hHeld2
          clear hHeld2
          have Kv3 := Lib.hid hbz
          have E1 := Lib.hid (E1.out.below hsb)
          have E2 := Lib.hid (E2.out.below hsb)
          have E3 := Lib.hid hi
          have EO := Lib.hid hi.2
          have EZ := Lib.hid hzz
          clear hzz
          clear hbz hsb hi
          refine wpAnyH_take (i := 10) (oi := { dst := Option.some 20, op := Op.move (Operand.tmp 30), type := 55, pos := "law.go:194", after := #[{ on := 9, ground := Ground.data }], guard := Option.none }) (v := .tuple #[.agg #[.int .i64 m.base, .int .i64 m.term, .slice A3 q c3], .int .i64 zz, .bool ok]) rfl (by kernel_rfl) (by kernel_rfl) (by kernel_rfl) (fun _ _ _ h => h) (Or.inl ⟨by rfl, ?_⟩) hHeld ?_
          · intro W hSw
            go_simp
          simp only [Act.put, List.setIfInBounds_toArray, List.set_cons_zero, List.set_cons_succ]
          refine wpAnyH_take (i := 11) (oi := { dst := Option.some 31, op := Op.extract (Operand.tmp 20) 0, type := 29, pos := "law.go:194", after := #[{ on := 10, ground := Ground.data }], guard := Option.none }) (v := .agg #[.int .i64 m.base, .int .i64 m.term, .slice A3 q c3]) rfl (by kernel_rfl) (by kernel_rfl) (by kernel_rfl) (fun _ _ _ h => h) (Or.inl ⟨by rfl, ?_⟩) hHeld ?_
          · intro W hSw
            go_simp
          simp only [Act.put, List.setIfInBounds_toArray, List.set_cons_zero, List.set_cons_succ]
          refine wpAnyH_take (i := 12) (oi := { dst := Option.some 32, op := Op.extract (Operand.tmp 20) 1, type := 3, pos := "law.go:194", after := #[{ on := 10, ground := Ground.data }, { on := 15, ground := Ground.gcOnly Departure.lateStores }], guard := Option.none }) (v := .int .i64 zz) rfl (by kernel_rfl) (by kernel_rfl) (by kernel_rfl) (fun _ _ _ h => h) (Or.inl ⟨by rfl, ?_⟩) hHeld ?_
          · intro W hSw
            go_simp
          simp only [Act.put, List.setIfInBounds_toArray, List.set_cons_zero, List.set_cons_succ]
          refine wpAnyH_take (i := 13) (oi := { dst := Option.some 33, op := Op.extract (Operand.tmp 20) 2, type := 4, pos := "law.go:194", after := #[{ on := 10, ground := Ground.data }, { on := 16, ground := Ground.gcOnly Departure.lateStores }], guard := Option.none }) (v := .bool ok) rfl (by kernel_rfl) (by kernel_rfl) (by kernel_rfl) (fun _ _ _ h => h) (Or.inl ⟨by rfl, ?_⟩) hHeld ?_
          · intro W hSw
            go_simp
          simp only [Act.put, List.setIfInBounds_toArray, List.set_cons_zero, List.set_cons_succ]
          refine wpAnyH_ready (rs := [14]) (by kernel_rfl) (by simp) ?_
          refine AllReadyH.cons (o := { dst := Option.some 5, op := Op.alloc 29, type := 0, pos := "law.go:194", after := #[], guard := Option.none }) rfl (fun K hK => ?_) AllReadyH.nil
          go_simp
          have hbz : Below W1.heap.size W1 (v3.alloc (.cells #[.int .i64 0, .int .i64 0, .slice none 0 0] 29)) := Kv3.out.alloc Kv3.out.size _
          have hqz := heap_alloc_new v3 (.cells #[.int .i64 0, .int .i64 0, .slice none 0 0] 29)
          have hsb := below_alloc v3 (.cells #[.int .i64 0, .int .i64 0, .slice none 0 0] 29)
          refine hK.out _ _ hbz (fun hHeld2 => ?_)
          clear hK K hHeld
          have hHeld := hHeld2
          clear hHeld2
          obtain ⟨wF, hVA⟩ : ∃ W, W = v3.alloc (.cells #[.int .i64 0, .int .i64 0, .slice none 0 0] 29) := ⟨_, rfl⟩
          obtain ⟨gx, hgx⟩ : ∃ g, g = v3.heap.size := ⟨_, rfl⟩
          rw [← hVA] at hbz hqz hsb hHeld ⊢
          rw [← hgx] at hqz ⊢
          have KwF := Lib.hid hbz
          have EG := Lib.hid (show W1.heap.size ≤ gx by rw [hgx]; exact Kv3.out.size)
          have E1 := Lib.hid (E1.out.below hsb)
          have E2 := Lib.hid (E2.out.below hsb)
          have E3 := Lib.hid (EntsT.move E3.out.1 (T' := fun k => k < wF.heap.size ∧ k ≠ gx) (fun k hk _ => hsb.block k hk.2) fun k hk => ⟨Nat.lt_of_lt_of_le hk.2 hsb.size, by have := hk.2; omega⟩)
          have EQ := Lib.hid hqz
          clear hbz hqz hsb hVA hgx
    all_goals
      obtain ⟨z0, z1, z2⟩ := cells3 EQ.out
      have f0 := frozen_own EQ.out 0
      have f1 := frozen_own EQ.out 1
      have f2 := frozen_own EQ.out 2
      refine wpAnyH_ready (rs := [15]) (by kernel_rfl) (by simp) ?_
      refine AllReadyH.cons (o := { dst := Option.none, op := Op.store 29 (Operand.tmp 5) (Operand.tmp 31), type := 0, pos := "law.go:194", after := #[{ on := 14, ground := Ground.data }, { on := 11, ground := Ground.data }, { on := 9, ground := Ground.chain }, { on := 0, ground := Ground.phase }, { on := 1, ground := Ground.phase }, { on := 2, ground := Ground.phase }, { on := 3, ground := Ground.phase }, { on := 4, ground := Ground.phase }, { on := 5, ground := Ground.phase }, { on := 6, ground := Ground.phase }, { on := 7, ground := Ground.phase }, { on := 8, ground := Ground.phase }, { on := 9, ground := Ground.phase }, { on := 10, ground := Ground.phase }, { on := 11, ground := Ground.phase }, { on := 12, ground := Ground.textOnly Departure.lateStores }, { on := 13, ground := Ground.textOnly Departure.lateStores }, { on := 14, ground := Ground.phase }], guard := Option.none }) rfl (fun K hK => ?_) AllReadyH.nil
      go_simp
      obtain ⟨WS, hWS⟩ : ∃ W, W = put3 wF gx (.int .i64 m.base) (.int .i64 m.term) (.slice A3 q c3) := ⟨_, rfl⟩
      have hbS := put3_below (b := gx) (v0 := .int .i64 m.base) (v1 := .int .i64 m.term) (v2 := .slice A3 q c3) KwF.out EG.out
      have hqS := put3_own EQ.out (.int .i64 m.base) (.int .i64 m.term) (.slice A3 q c3)
      have heS : EntsT (put3 wF gx (.int .i64 m.base) (.int .i64 m.term) (.slice A3 q c3)) (fun k => k < (put3 wF gx (.int .i64 m.base) (.int .i64 m.term) (.slice A3 q c3)).heap.size) (.slice A3 q c3) m.l := EntsT.move E3.out (fun k hk _ => put3_other _ _ _ _ _ k hk.2) fun k hk => by rw [put3_size]; exact hk.1
      rw [← hWS] at hbS hqS heS
      unfold put3 at hWS
      rw [← hWS]
      refine hK.out _ _ hbS (fun hHeld2 => ?_)
      clear hK K hHeld
      have hHeld := hHeld2
      clear hHeld2 hWS z0 z1 z2 f0 f1 f2
      have hall : ∀ W, Below WS.heap.size WS W → ((W.cell? ⟨g, 0, none⟩ = some (.int .i64 l.base) ∧ W.cell? ⟨g, 1, none⟩ = some (.int .i64 l.term) ∧ W.cell? ⟨g, 2, none⟩ = some (.slice A n c)) ∧ (W.cell? ⟨gm, 0, none⟩ = some (.int .i64 mi) ∧ W.cell? ⟨gm, 1, none⟩ = some (.int .i64 mt) ∧ W.cell? ⟨gm, 2, none⟩ = some (.slice A' n' c'))) ∧ (W.cell? ⟨gx, 0, none⟩ = some (.int .i64 m.base) ∧ W.cell? ⟨gx, 1, none⟩ = some (.int .i64 m.term) ∧ W.cell? ⟨gx, 2, none⟩ = some (.slice A3 q c3)) ∧ EntsT W (fun k => k < W.heap.size) (.slice A3 q c3) m.l ∧ Below w.heap.size w W := fun W hW =>
        ⟨HCL.out W (hbS.trans (hW.mono hbS.size)), cells3 ((hW.block gx (obj_lt hqS)).trans hqS), heS.move (fun k hk _ => hW.block k hk) fun k hk => Nat.lt_of_lt_of_le hk hW.size, HE.out.trans ((hbS.trans (hW.mono hbS.size)).mono HE.out.size)⟩
      have HA := Lib.hid hall
      clear hall hbS hqS heS
      refine wpAnyH_take (i := 16) (oi := { dst := Option.some 6, op := Op.assign (Operand.tmp 32), type := 3, pos := "law.go:194", after := #[{ on := 12, ground := Ground.data }, { on := 15, ground := Ground.chain }, { on := 0, ground := Ground.phase }, { on := 1, ground := Ground.phase }, { on := 2, ground := Ground.phase }, { on := 3, ground := Ground.phase }, { on := 4, ground := Ground.phase }, { on := 5, ground := Ground.phase }, { on := 6, ground := Ground.phase }, { on := 7, ground := Ground.phase }, { on := 8, ground := Ground.phase }, { on := 9, ground := Ground.phase }, { on := 10, ground := Ground.phase }, { on := 11, ground := Ground.phase }, { on := 12, ground := Ground.phase }, { on := 13, ground := Ground.textOnly Departure.lateStores }, { on := 14, ground := Ground.phase }, { on := 15, ground := Ground.phase }], guard := Option.none }) (v := .int .i64 zz) rfl (by kernel_rfl) (by kernel_rfl) (by kernel_rfl) (fun _ _ _ h => h) (Or.inl ⟨by rfl, ?_⟩) hHeld ?_
      · intro W hSw
        go_simp
      simp only [Act.put, List.setIfInBounds_toArray, List.set_cons_zero, List.set_cons_succ]
      refine wpAnyH_take (i := 17) (oi := { dst := Option.some 7, op := Op.assign (Operand.tmp 33), type := 4, pos := "law.go:194", after := #[{ on := 13, ground := Ground.data }, { on := 16, ground := Ground.chain }, { on := 0, ground := Ground.phase }, { on := 1, ground := Ground.phase }, { on := 2, ground := Ground.phase }, { on := 3, ground := Ground.phase }, { on := 4, ground := Ground.phase }, { on := 5, ground := Ground.phase }, { on := 6, ground := Ground.phase }, { on := 7, ground := Ground.phase }, { on := 8, ground := Ground.phase }, { on := 9, ground := Ground.phase }, { on := 10, ground := Ground.phase }, { on := 11, ground := Ground.phase }, { on := 12, ground := Ground.phase }, { on := 13, ground := Ground.phase }, { on := 14, ground := Ground.phase }, { on := 15, ground := Ground.phase }, { on := 16, ground := Ground.phase }], guard := Option.none }) (v := .bool ok) rfl (by kernel_rfl) (by kernel_rfl) (by kernel_rfl) (fun _ _ _ h => h) (Or.inl ⟨by rfl, ?_⟩) hHeld ?_
      · intro W hSw
        go_simp
      simp only [Act.put, List.setIfInBounds_toArray, List.set_cons_zero, List.set_cons_succ]
      clear hHeld
      refine wpAnyH_done (by kernel_rfl) ?_ _
      clear E1 E2 E3 EQ EG HG HG' HMg HL HL'
      have hdS : Below WS.heap.size WS WS.drew := (Below.refl _ _).drew
      cases ok with
      | false =>
        have hmo := HM.out.1.trans (okE_no HM.out.2.1.symm)
        go_upto_region 5 with fail
        cases hmy : mayE l with
        | true =>
          rw [if_pos hmy] at hmo
          subst hmo
          have HSa := Lib.hid fun W (hW : Below WS.heap.size WS W) => sameLog_any C m A3 q c3 m A n c W (hG.below (HA.out W hW).2.2.2) ⟨(HA.out W hW).2.2.1, EO.out⟩ (HN.out.1.below (HA.out W hW).2.2.2) HM.out.2.2.2.2 (small_more HS.out.1 (by omega) (by omega)) true (sameE_refl m).symm
          have HMa := Lib.hid fun W (hW : Below WS.heap.size WS W) => May_any m A n c W (HN.out.1.below (HA.out W hW).2.2.2) HN.out.2.2.1 HN.out.2.2.2.1 true hmy.symm
          clear hmy
          refine wp_region_held_drew (S := fun W => Below WS.heap.size WS W) (by kernel_rfl) hdS (fun hHeld => ?_)
          refine wpAnyH_take (i := 0) (oi := { dst := Option.some 36, op := Op.load 29 (Operand.tmp 5), type := 29, pos := "law.go:196", after := #[], guard := Option.none }) (v := .agg #[.int .i64 m.base, .int .i64 m.term, .slice A3 q c3]) rfl (by kernel_rfl) (by kernel_rfl) (by kernel_rfl) (fun _ _ _ h => h) (Or.inl ⟨by rfl, ?_⟩) hHeld ?_
          · intro W hSw
            obtain ⟨⟨⟨x0, x1, x2⟩, ⟨y0, y1, y2⟩⟩, ⟨z0, z1, z2⟩, -⟩ := HA.out _ hSw
            go_simp
          simp only [Act.put, List.setIfInBounds_toArray, List.set_cons_zero, List.set_cons_succ]
          refine wpAnyH_take (i := 1) (oi := { dst := Option.some 37, op := Op.load 24 (Operand.tmp 2), type := 24, pos := "law.go:196", after := #[], guard := Option.none }) (v := .agg #[.int .i64 m.base, .int .i64 m.term, .slice A n c]) rfl (by kernel_rfl) (by kernel_rfl) (by kernel_rfl) (fun _ _ _ h => h) (Or.inl ⟨by rfl, ?_⟩) hHeld ?_
          · intro W hSw
            obtain ⟨⟨⟨x0, x1, x2⟩, ⟨y0, y1, y2⟩⟩, ⟨z0, z1, z2⟩, -⟩ := HA.out _ hSw
            go_simp
          simp only [Act.put, List.setIfInBounds_toArray, List.set_cons_zero, List.set_cons_succ]
          refine wpAnyH_take (i := 3) (oi := { dst := Option.some 39, op := Op.load 24 (Operand.tmp 2), type := 24, pos := "law.go:196", after := #[], guard := Option.none }) (v := .agg #[.int .i64 m.base, .int .i64 m.term, .slice A n c]) rfl (by kernel_rfl) (by kernel_rfl) (by kernel_rfl) (fun _ _ _ h => h) (Or.inl ⟨by rfl, ?_⟩) hHeld ?_
          · intro W hSw
            obtain ⟨⟨⟨x0, x1, x2⟩, ⟨y0, y1, y2⟩⟩, ⟨z0, z1, z2⟩, -⟩ := HA.out _ hSw
            go_simp
          simp only [Act.put, List.setIfInBounds_toArray, List.set_cons_zero, List.set_cons_succ]
          refine wpAnyH_ready (rs := [2]) (by kernel_rfl) (by simp) ?_
          refine AllReadyH.cons (o := { dst := Option.some 38, op := Op.call { callee := Callee.value (Operand.func 24), args := #[Operand.tmp 36, Operand.tmp 37], argTypes := #[29, 24] }, type := 4, pos := "law.go:196", after := #[{ on := 0, ground := Ground.data }, { on := 1, ground := Ground.data }], guard := Option.none }) rfl (fun K hK => ?_) AllReadyH.nil
          go_simp
          refine (HSa.out _ hdS).mono ?_
          rintro y w5 ⟨rfl, hbz⟩
          have hbz : Below WS.heap.size WS w5 := hdS.trans hbz
          refine hK.out _ _ hbz (fun hHeld2 => ?_)
          clear hK K hHeld
          have hHeld := hHeld2
          clear hHeld2
          have Kw5 := Lib.hid hbz
          clear hbz
          refine wpAnyH_ready (rs := [4]) (by kernel_rfl) (by simp) ?_
          refine AllReadyH.cons (o := { dst := Option.some 40, op := Op.call { callee := Callee.value (Operand.func 18), args := #[Operand.tmp 39], argTypes := #[24] }, type := 4, pos := "law.go:196", after := #[{ on := 3, ground := Ground.data }, { on := 2, ground := Ground.chain }], guard := Option.none }) rfl (fun K hK => ?_) AllReadyH.nil
          go_simp
          refine (HMa.out _ Kw5.out).mono ?_
          rintro y w6 ⟨rfl, hbz⟩
          have hbz : Below WS.heap.size WS w6 := Kw5.out.trans (hbz.mono Kw5.out.size)
          refine hK.out _ _ hbz (fun hHeld2 => ?_)
          clear hK K hHeld
          have hHeld := hHeld2
          clear hHeld2
          have Kw6 := Lib.hid hbz
          clear hbz
          refine wpAnyH_take (i := 5) (oi := { dst := Option.some 41, op := Op.binOp BinOp.eql 4 (Operand.tmp 38) (Operand.tmp 40) 4, type := 4, pos := "law.go:196", after := #[{ on := 2, ground := Ground.data }, { on := 4, ground := Ground.data }], guard := Option.none }) (v := .bool true) rfl (by kernel_rfl) (by kernel_rfl) (by kernel_rfl) (fun _ _ _ h => h) (Or.inl ⟨by rfl, ?_⟩) hHeld ?_
          · intro W hSw
            go_simp
          simp only [Act.put, List.setIfInBounds_toArray, List.set_cons_zero, List.set_cons_succ]
          refine wpAnyH_take (i := 6) (oi := { dst := Option.some 42, op := Op.move (Operand.tmp 41), type := 4, pos := "law.go:196", after := #[{ on := 5, ground := Ground.data }, { on := 4, ground := Ground.chain }], guard := Option.none }) (v := .bool true) rfl (by kernel_rfl) (by kernel_rfl) (by kernel_rfl) (fun _ _ _ h => h) (Or.inl ⟨by rfl, ?_⟩) hHeld ?_
          · intro W hSw
            go_simp
          simp only [Act.put, List.setIfInBounds_toArray, List.set_cons_zero, List.set_cons_succ]
          refine wpAnyH_ready (rs := [7]) (by kernel_rfl) (by simp) ?_
          refine AllReadyH.cons (o := { dst := Option.some 43, op := Op.call { callee := Callee.value (Operand.func 9), args := #[], argTypes := #[] }, type := 4, pos := "law.go:196", after := #[{ on := 6, ground := Ground.chain }, { on := 6, ground := Ground.guard }], guard := Option.some (6, true) }) rfl (fun K hK => ?_) AllReadyH.nil
          go_simp
          refine (sureG C _).mono ?_
          rintro y w7 ⟨rfl, hbz⟩
          have hbz : Below WS.heap.size WS w7 := Kw6.out.trans (hbz.mono Kw6.out.size)
          refine hK.out _ _ hbz (fun hHeld2 => ?_)
          clear hK K hHeld
          have hHeld := hHeld2
          clear hHeld2
          have Kw7 := Lib.hid hbz
          clear hbz
          refine wpAnyH_take (i := 8) (oi := { dst := Option.some 44, op := Op.pick (Operand.tmp 42) (Operand.tmp 43) (Operand.const (Value.bool false)), type := 4, pos := "law.go:196", after := #[{ on := 6, ground := Ground.data }, { on := 7, ground := Ground.data }], guard := Option.none }) (v := .bool true) rfl (by kernel_rfl) (by kernel_rfl) (by kernel_rfl) (fun _ _ _ h => h) (Or.inl ⟨by rfl, ?_⟩) hHeld ?_
          · intro W hSw
            go_simp
          simp only [Act.put, List.setIfInBounds_toArray, List.set_cons_zero, List.set_cons_succ]
          refine wpAnyH_take (i := 9) (oi := { dst := Option.some 45, op := Op.move (Operand.tmp 44), type := 4, pos := "law.go:196", after := #[{ on := 8, ground := Ground.data }, { on := 7, ground := Ground.chain }], guard := Option.none }) (v := .bool true) rfl (by kernel_rfl) (by kernel_rfl) (by kernel_rfl) (fun _ _ _ h => h) (Or.inl ⟨by rfl, ?_⟩) hHeld ?_
          · intro W hSw
            go_simp
          simp only [Act.put, List.setIfInBounds_toArray, List.set_cons_zero, List.set_cons_succ]
          refine wpAnyH_take (i := 10) (oi := { dst := Option.some 46, op := Op.load 24 (Operand.tmp 2), type := 24, pos := "law.go:196", after := #[{ on := 9, ground := Ground.guard }], guard := Option.some (9, false) }) (v := undef) rfl (by kernel_rfl) (by kernel_rfl) (by kernel_rfl) (fun _ _ _ h => h) (Or.inr ⟨by rfl, rfl⟩) hHeld ?_
          simp only [Act.put, List.setIfInBounds_toArray, List.set_cons_zero, List.set_cons_succ]
          refine wpAnyH_take (i := 11) (oi := { dst := Option.some 47, op := Op.call { callee := Callee.value (Operand.func 18), args := #[Operand.tmp 46], argTypes := #[24] }, type := 4, pos := "law.go:196", after := #[{ on := 10, ground := Ground.data }, { on := 9, ground := Ground.chain }, { on := 9, ground := Ground.guard }], guard := Option.some (9, false) }) (v := undef) rfl (by kernel_rfl) (by kernel_rfl) (by kernel_rfl) (fun _ _ _ h => h) (Or.inr ⟨by rfl, rfl⟩) hHeld ?_
          simp only [Act.put, List.setIfInBounds_toArray, List.set_cons_zero, List.set_cons_succ]
          refine wpAnyH_take (i := 12) (oi := { dst := Option.some 48, op := Op.unOp UnOp.not 4 (Operand.tmp 47), type := 4, pos := "law.go:196", after := #[{ on := 11, ground := Ground.data }, { on := 9, ground := Ground.guard }], guard := Option.some (9, false) }) (v := undef) rfl (by kernel_rfl) (by kernel_rfl) (by kernel_rfl) (fun _ _ _ h => h) (Or.inr ⟨by rfl, rfl⟩) hHeld ?_
          simp only [Act.put, List.setIfInBounds_toArray, List.set_cons_zero, List.set_cons_succ]
          refine wpAnyH_take (i := 13) (oi := { dst := Option.some 49, op := Op.move (Operand.tmp 48), type := 4, pos := "law.go:196", after := #[{ on := 12, ground := Ground.data }, { on := 11, ground := Ground.chain }, { on := 9, ground := Ground.guard }], guard := Option.some (9, false) }) (v := undef) rfl (by kernel_rfl) (by kernel_rfl) (by kernel_rfl) (fun _ _ _ h => h) (Or.inr ⟨by rfl, rfl⟩) hHeld ?_
          simp only [Act.put, List.setIfInBounds_toArray, List.set_cons_zero, List.set_cons_succ]
          refine wpAnyH_take (i := 14) (oi := { dst := Option.some 50, op := Op.fieldAddr 29 (Operand.tmp 5) 2, type := 0, pos := "law.go:196", after := #[{ on := 13, ground := Ground.guard }], guard := Option.some (13, true) }) (v := undef) rfl (by kernel_rfl) (by kernel_rfl) (by kernel_rfl) (fun _ _ _ h => h) (Or.inr ⟨by rfl, rfl⟩) hHeld ?_
          simp only [Act.put, List.setIfInBounds_toArray, List.set_cons_zero, List.set_cons_succ]
          refine wpAnyH_take (i := 15) (oi := { dst := Option.some 51, op := Op.load 27 (Operand.tmp 50), type := 27, pos := "law.go:196", after := #[{ on := 14, ground := Ground.data }, { on := 13, ground := Ground.guard }], guard := Option.some (13, true) }) (v := undef) rfl (by kernel_rfl) (by kernel_rfl) (by kernel_rfl) (fun _ _ _ h => h) (Or.inr ⟨by rfl, rfl⟩) hHeld ?_
          simp only [Act.put, List.setIfInBounds_toArray, List.set_cons_zero, List.set_cons_succ]
          refine wpAnyH_take (i := 16) (oi := { dst := Option.some 52, op := Op.call { callee := Callee.builtin Builtin.len, args := #[Operand.tmp 51], argTypes := #[27] }, type := 3, pos := "law.go:196", after := #[{ on := 15, ground := Ground.data }, { on := 13, ground := Ground.guard }], guard := Option.some (13, true) }) (v := undef) rfl (by kernel_rfl) (by kernel_rfl) (by kernel_rfl) (fun _ _ _ h => h) (Or.inr ⟨by rfl, rfl⟩) hHeld ?_
          simp only [Act.put, List.setIfInBounds_toArray, List.set_cons_zero, List.set_cons_succ]
          refine wpAnyH_take (i := 17) (oi := { dst := Option.some 53, op := Op.binOp BinOp.eql 3 (Operand.tmp 52) (Operand.const (Value.int IntKind.i64 0)) 3, type := 4, pos := "law.go:196", after := #[{ on := 16, ground := Ground.data }, { on := 13, ground := Ground.guard }], guard := Option.some (13, true) }) (v := undef) rfl (by kernel_rfl) (by kernel_rfl) (by kernel_rfl) (fun _ _ _ h => h) (Or.inr ⟨by rfl, rfl⟩) hHeld ?_
          simp only [Act.put, List.setIfInBounds_toArray, List.set_cons_zero, List.set_cons_succ]
          refine wpAnyH_take (i := 18) (oi := { dst := Option.some 54, op := Op.pick (Operand.tmp 49) (Operand.tmp 53) (Operand.const (Value.bool false)), type := 4, pos := "law.go:196", after := #[{ on := 13, ground := Ground.data }, { on := 17, ground := Ground.data }, { on := 9, ground := Ground.guard }], guard := Option.some (9, false) }) (v := undef) rfl (by kernel_rfl) (by kernel_rfl) (by kernel_rfl) (fun _ _ _ h => h) (Or.inr ⟨by rfl, rfl⟩) hHeld ?_
          simp only [Act.put, List.setIfInBounds_toArray, List.set_cons_zero, List.set_cons_succ]
          refine wpAnyH_take (i := 19) (oi := { dst := Option.some 55, op := Op.move (Operand.tmp 54), type := 4, pos := "law.go:196", after := #[{ on := 18, ground := Ground.data }, { on := 13, ground := Ground.chain }, { on := 9, ground := Ground.guard }], guard := Option.some (9, false) }) (v := undef) rfl (by kernel_rfl) (by kernel_rfl) (by kernel_rfl) (fun _ _ _ h => h) (Or.inr ⟨by rfl, rfl⟩) hHeld ?_
          simp only [Act.put, List.setIfInBounds_toArray, List.set_cons_zero, List.set_cons_succ]
          refine wpAnyH_take (i := 20) (oi := { dst := Option.some 56, op := Op.call { callee := Callee.value (Operand.func 9), args := #[], argTypes := #[] }, type := 4, pos := "law.go:196", after := #[{ on := 19, ground := Ground.chain }, { on := 19, ground := Ground.guard }], guard := Option.some (19, true) }) (v := undef) rfl (by kernel_rfl) (by kernel_rfl) (by kernel_rfl) (fun _ _ _ h => h) (Or.inr ⟨by rfl, rfl⟩) hHeld ?_
          simp only [Act.put, List.setIfInBounds_toArray, List.set_cons_zero, List.set_cons_succ]
          refine wpAnyH_take (i := 21) (oi := { dst := Option.some 57, op := Op.pick (Operand.tmp 55) (Operand.tmp 56) (Operand.const (Value.bool false)), type := 4, pos := "law.go:196", after := #[{ on := 19, ground := Ground.data }, { on := 20, ground := Ground.data }, { on := 9, ground := Ground.guard }], guard := Option.some (9, false) }) (v := undef) rfl (by kernel_rfl) (by kernel_rfl) (by kernel_rfl) (fun _ _ _ h => h) (Or.inr ⟨by rfl, rfl⟩) hHeld ?_
          simp only [Act.put, List.setIfInBounds_toArray, List.set_cons_zero, List.set_cons_succ]
          refine wpAnyH_take (i := 22) (oi := { dst := Option.some 58, op := Op.pick (Operand.tmp 45) (Operand.const (Value.bool true)) (Operand.tmp 57), type := 4, pos := "law.go:196", after := #[{ on := 9, ground := Ground.data }, { on := 21, ground := Ground.data }], guard := Option.none }) (v := .bool true) rfl (by kernel_rfl) (by kernel_rfl) (by kernel_rfl) (fun _ _ _ h => h) (Or.inl ⟨by rfl, ?_⟩) hHeld ?_
          · intro W hSw
            go_simp
          simp only [Act.put, List.setIfInBounds_toArray, List.set_cons_zero, List.set_cons_succ]
          refine wpAnyH_take (i := 23) (oi := { dst := Option.some 4, op := Op.assign (Operand.tmp 58), type := 4, pos := "law.go:196", after := #[{ on := 22, ground := Ground.data }, { on := 20, ground := Ground.chain }, { on := 0, ground := Ground.phase }, { on := 1, ground := Ground.phase }, { on := 2, ground := Ground.phase }, { on := 3, ground := Ground.phase }, { on := 4, ground := Ground.phase }, { on := 5, ground := Ground.phase }, { on := 6, ground := Ground.phase }, { on := 7, ground := Ground.phase }, { on := 8, ground := Ground.phase }, { on := 9, ground := Ground.phase }, { on := 10, ground := Ground.phase }, { on := 11, ground := Ground.phase }, { on := 12, ground := Ground.phase }, { on := 13, ground := Ground.phase }, { on := 14, ground := Ground.phase }, { on := 15, ground := Ground.phase }, { on := 16, ground := Ground.phase }, { on := 17, ground := Ground.phase }, { on := 18, ground := Ground.phase }, { on := 19, ground := Ground.phase }, { on := 20, ground := Ground.phase }, { on := 21, ground := Ground.phase }, { on := 22, ground := Ground.phase }], guard := Option.none }) (v := .bool true) rfl (by kernel_rfl) (by kernel_rfl) (by kernel_rfl) (fun _ _ _ h => h) (Or.inl ⟨by rfl, ?_⟩) hHeld ?_
          · intro W hSw
            go_simp
          simp only [Act.put, List.setIfInBounds_toArray, List.set_cons_zero, List.set_cons_succ]
          clear hHeld
          refine wpAnyH_done (by kernel_rfl) ?_ _
          go_wp2_with fail
          go_ret
          exact ⟨rfl, (HA.out _ Kw7.out).2.2.2⟩
        | false =>
          rw [if_neg (by rw [hmy]; simp)] at hmo
          subst hmo
          obtain rfl : q = 0 := HM.out.2.2.2.1
          obtain ⟨b, hb⟩ : ∃ b, b = sameE zl l := ⟨_, rfl⟩
          have HSa : Hid (∀ W, Below WS.heap.size WS W → Calls Tryd.prog 24 #[.agg #[.int .i64 0, .int .i64 0, .slice A3 0 c3], .agg #[.int .i64 l.base, .int .i64 l.term, .slice A n c]] W fun y w' => y = .returned (.bool b) ∧ Below W.heap.size W w') := Lib.hid fun W hW => sameLog_any C zl A3 0 c3 l A n c W (hG.below (HA.out W hW).2.2.2) ⟨(HA.out W hW).2.2.1, EO.out⟩ (HN.out.1.below (HA.out W hW).2.2.2) HM.out.2.2.2.2 (small_more HS.out.1 (by omega) (by omega)) b hb
          have HMa := Lib.hid fun W (hW : Below WS.heap.size WS W) => May_any l A n c W (HN.out.1.below (HA.out W hW).2.2.2) HN.out.2.2.1 HN.out.2.2.2.1 false hmy.symm
          have hz0 : zl.base = 0 := rfl
          have hz1 : zl.term = 0 := rfl
          simp only [hz0, hz1] at HA ⊢
          clear hmy hz0 hz1 hb
          cases b with
          | false =>
            refine wp_region_held_drew (S := fun W => Below WS.heap.size WS W) (by kernel_rfl) hdS (fun hHeld => ?_)
            refine wpAnyH_take (i := 0) (oi := { dst := Option.some 36, op := Op.load 29 (Operand.tmp 5), type := 29, pos := "law.go:196", after := #[], guard := Option.none }) (v := .agg #[.int .i64 0, .int .i64 0, .slice A3 0 c3]) rfl (by kernel_rfl) (by kernel_rfl) (by kernel_rfl) (fun _ _ _ h => h) (Or.inl ⟨by rfl, ?_⟩) hHeld ?_
            · intro W hSw
              obtain ⟨⟨⟨x0, x1, x2⟩, ⟨y0, y1, y2⟩⟩, ⟨z0, z1, z2⟩, -⟩ := HA.out _ hSw
              go_simp
            simp only [Act.put, List.setIfInBounds_toArray, List.set_cons_zero, List.set_cons_succ]
            refine wpAnyH_take (i := 1) (oi := { dst := Option.some 37, op := Op.load 24 (Operand.tmp 2), type := 24, pos := "law.go:196", after := #[], guard := Option.none }) (v := .agg #[.int .i64 l.base, .int .i64 l.term, .slice A n c]) rfl (by kernel_rfl) (by kernel_rfl) (by kernel_rfl) (fun _ _ _ h => h) (Or.inl ⟨by rfl, ?_⟩) hHeld ?_
            · intro W hSw
              obtain ⟨⟨⟨x0, x1, x2⟩, ⟨y0, y1, y2⟩⟩, ⟨z0, z1, z2⟩, -⟩ := HA.out _ hSw
              go_simp
            simp only [Act.put, List.setIfInBounds_toArray, List.set_cons_zero, List.set_cons_succ]
            refine wpAnyH_take (i := 3) (oi := { dst := Option.some 39, op := Op.load 24 (Operand.tmp 2), type := 24, pos := "law.go:196", after := #[], guard := Option.none }) (v := .agg #[.int .i64 l.base, .int .i64 l.term, .slice A n c]) rfl (by kernel_rfl) (by kernel_rfl) (by kernel_rfl) (fun _ _ _ h => h) (Or.inl ⟨by rfl, ?_⟩) hHeld ?_
            · intro W hSw
              obtain ⟨⟨⟨x0, x1, x2⟩, ⟨y0, y1, y2⟩⟩, ⟨z0, z1, z2⟩, -⟩ := HA.out _ hSw
              go_simp
            simp only [Act.put, List.setIfInBounds_toArray, List.set_cons_zero, List.set_cons_succ]
            refine wpAnyH_ready (rs := [2]) (by kernel_rfl) (by simp) ?_
            refine AllReadyH.cons (o := { dst := Option.some 38, op := Op.call { callee := Callee.value (Operand.func 24), args := #[Operand.tmp 36, Operand.tmp 37], argTypes := #[29, 24] }, type := 4, pos := "law.go:196", after := #[{ on := 0, ground := Ground.data }, { on := 1, ground := Ground.data }], guard := Option.none }) rfl (fun K hK => ?_) AllReadyH.nil
            go_simp
            refine (HSa.out _ hdS).mono ?_
            rintro y w5 ⟨rfl, hbz⟩
            have hbz : Below WS.heap.size WS w5 := hdS.trans hbz
            refine hK.out _ _ hbz (fun hHeld2 => ?_)
            clear hK K hHeld
            have hHeld := hHeld2
            clear hHeld2
            have Kw5 := Lib.hid hbz
            clear hbz
            refine wpAnyH_ready (rs := [4]) (by kernel_rfl) (by simp) ?_
            refine AllReadyH.cons (o := { dst := Option.some 40, op := Op.call { callee := Callee.value (Operand.func 18), args := #[Operand.tmp 39], argTypes := #[24] }, type := 4, pos := "law.go:196", after := #[{ on := 3, ground := Ground.data }, { on := 2, ground := Ground.chain }], guard := Option.none }) rfl (fun K hK => ?_) AllReadyH.nil
            go_simp
            refine (HMa.out _ Kw5.out).mono ?_
            rintro y w6 ⟨rfl, hbz⟩
            have hbz : Below WS.heap.size WS w6 := Kw5.out.trans (hbz.mono Kw5.out.size)
            refine hK.out _ _ hbz (fun hHeld2 => ?_)
            clear hK K hHeld
            have hHeld := hHeld2
            clear hHeld2
            have Kw6 := Lib.hid hbz
            clear hbz
            refine wpAnyH_take (i := 5) (oi := { dst := Option.some 41, op := Op.binOp BinOp.eql 4 (Operand.tmp 38) (Operand.tmp 40) 4, type := 4, pos := "law.go:196", after := #[{ on := 2, ground := Ground.data }, { on := 4, ground := Ground.data }], guard := Option.none }) (v := .bool true) rfl (by kernel_rfl) (by kernel_rfl) (by kernel_rfl) (fun _ _ _ h => h) (Or.inl ⟨by rfl, ?_⟩) hHeld ?_
            · intro W hSw
              go_simp
            simp only [Act.put, List.setIfInBounds_toArray, List.set_cons_zero, List.set_cons_succ]
            refine wpAnyH_take (i := 6) (oi := { dst := Option.some 42, op := Op.move (Operand.tmp 41), type := 4, pos := "law.go:196", after := #[{ on := 5, ground := Ground.data }, { on := 4, ground := Ground.chain }], guard := Option.none }) (v := .bool true) rfl (by kernel_rfl) (by kernel_rfl) (by kernel_rfl) (fun _ _ _ h => h) (Or.inl ⟨by rfl, ?_⟩) hHeld ?_
            · intro W hSw
              go_simp
            simp only [Act.put, List.setIfInBounds_toArray, List.set_cons_zero, List.set_cons_succ]
            refine wpAnyH_ready (rs := [7]) (by kernel_rfl) (by simp) ?_
            refine AllReadyH.cons (o := { dst := Option.some 43, op := Op.call { callee := Callee.value (Operand.func 9), args := #[], argTypes := #[] }, type := 4, pos := "law.go:196", after := #[{ on := 6, ground := Ground.chain }, { on := 6, ground := Ground.guard }], guard := Option.some (6, true) }) rfl (fun K hK => ?_) AllReadyH.nil
            go_simp
            refine (sureG C _).mono ?_
            rintro y w7 ⟨rfl, hbz⟩
            have hbz : Below WS.heap.size WS w7 := Kw6.out.trans (hbz.mono Kw6.out.size)
            refine hK.out _ _ hbz (fun hHeld2 => ?_)
            clear hK K hHeld
            have hHeld := hHeld2
            clear hHeld2
            have Kw7 := Lib.hid hbz
            clear hbz
            refine wpAnyH_take (i := 8) (oi := { dst := Option.some 44, op := Op.pick (Operand.tmp 42) (Operand.tmp 43) (Operand.const (Value.bool false)), type := 4, pos := "law.go:196", after := #[{ on := 6, ground := Ground.data }, { on := 7, ground := Ground.data }], guard := Option.none }) (v := .bool true) rfl (by kernel_rfl) (by kernel_rfl) (by kernel_rfl) (fun _ _ _ h => h) (Or.inl ⟨by rfl, ?_⟩) hHeld ?_
            · intro W hSw
              go_simp
            simp only [Act.put, List.setIfInBounds_toArray, List.set_cons_zero, List.set_cons_succ]
            refine wpAnyH_take (i := 9) (oi := { dst := Option.some 45, op := Op.move (Operand.tmp 44), type := 4, pos := "law.go:196", after := #[{ on := 8, ground := Ground.data }, { on := 7, ground := Ground.chain }], guard := Option.none }) (v := .bool true) rfl (by kernel_rfl) (by kernel_rfl) (by kernel_rfl) (fun _ _ _ h => h) (Or.inl ⟨by rfl, ?_⟩) hHeld ?_
            · intro W hSw
              go_simp
            simp only [Act.put, List.setIfInBounds_toArray, List.set_cons_zero, List.set_cons_succ]
            refine wpAnyH_take (i := 10) (oi := { dst := Option.some 46, op := Op.load 24 (Operand.tmp 2), type := 24, pos := "law.go:196", after := #[{ on := 9, ground := Ground.guard }], guard := Option.some (9, false) }) (v := undef) rfl (by kernel_rfl) (by kernel_rfl) (by kernel_rfl) (fun _ _ _ h => h) (Or.inr ⟨by rfl, rfl⟩) hHeld ?_
            simp only [Act.put, List.setIfInBounds_toArray, List.set_cons_zero, List.set_cons_succ]
            refine wpAnyH_take (i := 11) (oi := { dst := Option.some 47, op := Op.call { callee := Callee.value (Operand.func 18), args := #[Operand.tmp 46], argTypes := #[24] }, type := 4, pos := "law.go:196", after := #[{ on := 10, ground := Ground.data }, { on := 9, ground := Ground.chain }, { on := 9, ground := Ground.guard }], guard := Option.some (9, false) }) (v := undef) rfl (by kernel_rfl) (by kernel_rfl) (by kernel_rfl) (fun _ _ _ h => h) (Or.inr ⟨by rfl, rfl⟩) hHeld ?_
            simp only [Act.put, List.setIfInBounds_toArray, List.set_cons_zero, List.set_cons_succ]
            refine wpAnyH_take (i := 12) (oi := { dst := Option.some 48, op := Op.unOp UnOp.not 4 (Operand.tmp 47), type := 4, pos := "law.go:196", after := #[{ on := 11, ground := Ground.data }, { on := 9, ground := Ground.guard }], guard := Option.some (9, false) }) (v := undef) rfl (by kernel_rfl) (by kernel_rfl) (by kernel_rfl) (fun _ _ _ h => h) (Or.inr ⟨by rfl, rfl⟩) hHeld ?_
            simp only [Act.put, List.setIfInBounds_toArray, List.set_cons_zero, List.set_cons_succ]
            refine wpAnyH_take (i := 13) (oi := { dst := Option.some 49, op := Op.move (Operand.tmp 48), type := 4, pos := "law.go:196", after := #[{ on := 12, ground := Ground.data }, { on := 11, ground := Ground.chain }, { on := 9, ground := Ground.guard }], guard := Option.some (9, false) }) (v := undef) rfl (by kernel_rfl) (by kernel_rfl) (by kernel_rfl) (fun _ _ _ h => h) (Or.inr ⟨by rfl, rfl⟩) hHeld ?_
            simp only [Act.put, List.setIfInBounds_toArray, List.set_cons_zero, List.set_cons_succ]
            refine wpAnyH_take (i := 14) (oi := { dst := Option.some 50, op := Op.fieldAddr 29 (Operand.tmp 5) 2, type := 0, pos := "law.go:196", after := #[{ on := 13, ground := Ground.guard }], guard := Option.some (13, true) }) (v := undef) rfl (by kernel_rfl) (by kernel_rfl) (by kernel_rfl) (fun _ _ _ h => h) (Or.inr ⟨by rfl, rfl⟩) hHeld ?_
            simp only [Act.put, List.setIfInBounds_toArray, List.set_cons_zero, List.set_cons_succ]
            refine wpAnyH_take (i := 15) (oi := { dst := Option.some 51, op := Op.load 27 (Operand.tmp 50), type := 27, pos := "law.go:196", after := #[{ on := 14, ground := Ground.data }, { on := 13, ground := Ground.guard }], guard := Option.some (13, true) }) (v := undef) rfl (by kernel_rfl) (by kernel_rfl) (by kernel_rfl) (fun _ _ _ h => h) (Or.inr ⟨by rfl, rfl⟩) hHeld ?_
            simp only [Act.put, List.setIfInBounds_toArray, List.set_cons_zero, List.set_cons_succ]
            refine wpAnyH_take (i := 16) (oi := { dst := Option.some 52, op := Op.call { callee := Callee.builtin Builtin.len, args := #[Operand.tmp 51], argTypes := #[27] }, type := 3, pos := "law.go:196", after := #[{ on := 15, ground := Ground.data }, { on := 13, ground := Ground.guard }], guard := Option.some (13, true) }) (v := undef) rfl (by kernel_rfl) (by kernel_rfl) (by kernel_rfl) (fun _ _ _ h => h) (Or.inr ⟨by rfl, rfl⟩) hHeld ?_
            simp only [Act.put, List.setIfInBounds_toArray, List.set_cons_zero, List.set_cons_succ]
            refine wpAnyH_take (i := 17) (oi := { dst := Option.some 53, op := Op.binOp BinOp.eql 3 (Operand.tmp 52) (Operand.const (Value.int IntKind.i64 0)) 3, type := 4, pos := "law.go:196", after := #[{ on := 16, ground := Ground.data }, { on := 13, ground := Ground.guard }], guard := Option.some (13, true) }) (v := undef) rfl (by kernel_rfl) (by kernel_rfl) (by kernel_rfl) (fun _ _ _ h => h) (Or.inr ⟨by rfl, rfl⟩) hHeld ?_
            simp only [Act.put, List.setIfInBounds_toArray, List.set_cons_zero, List.set_cons_succ]
            refine wpAnyH_take (i := 18) (oi := { dst := Option.some 54, op := Op.pick (Operand.tmp 49) (Operand.tmp 53) (Operand.const (Value.bool false)), type := 4, pos := "law.go:196", after := #[{ on := 13, ground := Ground.data }, { on := 17, ground := Ground.data }, { on := 9, ground := Ground.guard }], guard := Option.some (9, false) }) (v := undef) rfl (by kernel_rfl) (by kernel_rfl) (by kernel_rfl) (fun _ _ _ h => h) (Or.inr ⟨by rfl, rfl⟩) hHeld ?_
            simp only [Act.put, List.setIfInBounds_toArray, List.set_cons_zero, List.set_cons_succ]
            refine wpAnyH_take (i := 19) (oi := { dst := Option.some 55, op := Op.move (Operand.tmp 54), type := 4, pos := "law.go:196", after := #[{ on := 18, ground := Ground.data }, { on := 13, ground := Ground.chain }, { on := 9, ground := Ground.guard }], guard := Option.some (9, false) }) (v := undef) rfl (by kernel_rfl) (by kernel_rfl) (by kernel_rfl) (fun _ _ _ h => h) (Or.inr ⟨by rfl, rfl⟩) hHeld ?_
            simp only [Act.put, List.setIfInBounds_toArray, List.set_cons_zero, List.set_cons_succ]
            refine wpAnyH_take (i := 20) (oi := { dst := Option.some 56, op := Op.call { callee := Callee.value (Operand.func 9), args := #[], argTypes := #[] }, type := 4, pos := "law.go:196", after := #[{ on := 19, ground := Ground.chain }, { on := 19, ground := Ground.guard }], guard := Option.some (19, true) }) (v := undef) rfl (by kernel_rfl) (by kernel_rfl) (by kernel_rfl) (fun _ _ _ h => h) (Or.inr ⟨by rfl, rfl⟩) hHeld ?_
            simp only [Act.put, List.setIfInBounds_toArray, List.set_cons_zero, List.set_cons_succ]
            refine wpAnyH_take (i := 21) (oi := { dst := Option.some 57, op := Op.pick (Operand.tmp 55) (Operand.tmp 56) (Operand.const (Value.bool false)), type := 4, pos := "law.go:196", after := #[{ on := 19, ground := Ground.data }, { on := 20, ground := Ground.data }, { on := 9, ground := Ground.guard }], guard := Option.some (9, false) }) (v := undef) rfl (by kernel_rfl) (by kernel_rfl) (by kernel_rfl) (fun _ _ _ h => h) (Or.inr ⟨by rfl, rfl⟩) hHeld ?_
            simp only [Act.put, List.setIfInBounds_toArray, List.set_cons_zero, List.set_cons_succ]
            refine wpAnyH_take (i := 22) (oi := { dst := Option.some 58, op := Op.pick (Operand.tmp 45) (Operand.const (Value.bool true)) (Operand.tmp 57), type := 4, pos := "law.go:196", after := #[{ on := 9, ground := Ground.data }, { on := 21, ground := Ground.data }], guard := Option.none }) (v := .bool true) rfl (by kernel_rfl) (by kernel_rfl) (by kernel_rfl) (fun _ _ _ h => h) (Or.inl ⟨by rfl, ?_⟩) hHeld ?_
            · intro W hSw
              go_simp
            simp only [Act.put, List.setIfInBounds_toArray, List.set_cons_zero, List.set_cons_succ]
            refine wpAnyH_take (i := 23) (oi := { dst := Option.some 4, op := Op.assign (Operand.tmp 58), type := 4, pos := "law.go:196", after := #[{ on := 22, ground := Ground.data }, { on := 20, ground := Ground.chain }, { on := 0, ground := Ground.phase }, { on := 1, ground := Ground.phase }, { on := 2, ground := Ground.phase }, { on := 3, ground := Ground.phase }, { on := 4, ground := Ground.phase }, { on := 5, ground := Ground.phase }, { on := 6, ground := Ground.phase }, { on := 7, ground := Ground.phase }, { on := 8, ground := Ground.phase }, { on := 9, ground := Ground.phase }, { on := 10, ground := Ground.phase }, { on := 11, ground := Ground.phase }, { on := 12, ground := Ground.phase }, { on := 13, ground := Ground.phase }, { on := 14, ground := Ground.phase }, { on := 15, ground := Ground.phase }, { on := 16, ground := Ground.phase }, { on := 17, ground := Ground.phase }, { on := 18, ground := Ground.phase }, { on := 19, ground := Ground.phase }, { on := 20, ground := Ground.phase }, { on := 21, ground := Ground.phase }, { on := 22, ground := Ground.phase }], guard := Option.none }) (v := .bool true) rfl (by kernel_rfl) (by kernel_rfl) (by kernel_rfl) (fun _ _ _ h => h) (Or.inl ⟨by rfl, ?_⟩) hHeld ?_
            · intro W hSw
              go_simp
            simp only [Act.put, List.setIfInBounds_toArray, List.set_cons_zero, List.set_cons_succ]
            clear hHeld
            refine wpAnyH_done (by kernel_rfl) ?_ _
            go_wp2_with fail
            go_ret
            exact ⟨rfl, (HA.out _ Kw7.out).2.2.2⟩
          | true =>
            refine wp_region_held_drew (S := fun W => Below WS.heap.size WS W) (by kernel_rfl) hdS (fun hHeld => ?_)
            refine wpAnyH_take (i := 0) (oi := { dst := Option.some 36, op := Op.load 29 (Operand.tmp 5), type := 29, pos := "law.go:196", after := #[], guard := Option.none }) (v := .agg #[.int .i64 0, .int .i64 0, .slice A3 0 c3]) rfl (by kernel_rfl) (by kernel_rfl) (by kernel_rfl) (fun _ _ _ h => h) (Or.inl ⟨by rfl, ?_⟩) hHeld ?_
            · intro W hSw
              obtain ⟨⟨⟨x0, x1, x2⟩, ⟨y0, y1, y2⟩⟩, ⟨z0, z1, z2⟩, -⟩ := HA.out _ hSw
              go_simp
            simp only [Act.put, List.setIfInBounds_toArray, List.set_cons_zero, List.set_cons_succ]
            refine wpAnyH_take (i := 1) (oi := { dst := Option.some 37, op := Op.load 24 (Operand.tmp 2), type := 24, pos := "law.go:196", after := #[], guard := Option.none }) (v := .agg #[.int .i64 l.base, .int .i64 l.term, .slice A n c]) rfl (by kernel_rfl) (by kernel_rfl) (by kernel_rfl) (fun _ _ _ h => h) (Or.inl ⟨by rfl, ?_⟩) hHeld ?_
            · intro W hSw
              obtain ⟨⟨⟨x0, x1, x2⟩, ⟨y0, y1, y2⟩⟩, ⟨z0, z1, z2⟩, -⟩ := HA.out _ hSw
              go_simp
            simp only [Act.put, List.setIfInBounds_toArray, List.set_cons_zero, List.set_cons_succ]
            refine wpAnyH_take (i := 3) (oi := { dst := Option.some 39, op := Op.load 24 (Operand.tmp 2), type := 24, pos := "law.go:196", after := #[], guard := Option.none }) (v := .agg #[.int .i64 l.base, .int .i64 l.term, .slice A n c]) rfl (by kernel_rfl) (by kernel_rfl) (by kernel_rfl) (fun _ _ _ h => h) (Or.inl ⟨by rfl, ?_⟩) hHeld ?_
            · intro W hSw
              obtain ⟨⟨⟨x0, x1, x2⟩, ⟨y0, y1, y2⟩⟩, ⟨z0, z1, z2⟩, -⟩ := HA.out _ hSw
              go_simp
            simp only [Act.put, List.setIfInBounds_toArray, List.set_cons_zero, List.set_cons_succ]
            refine wpAnyH_ready (rs := [2]) (by kernel_rfl) (by simp) ?_
            refine AllReadyH.cons (o := { dst := Option.some 38, op := Op.call { callee := Callee.value (Operand.func 24), args := #[Operand.tmp 36, Operand.tmp 37], argTypes := #[29, 24] }, type := 4, pos := "law.go:196", after := #[{ on := 0, ground := Ground.data }, { on := 1, ground := Ground.data }], guard := Option.none }) rfl (fun K hK => ?_) AllReadyH.nil
            go_simp
            refine (HSa.out _ hdS).mono ?_
            rintro y w5 ⟨rfl, hbz⟩
            have hbz : Below WS.heap.size WS w5 := hdS.trans hbz
            refine hK.out _ _ hbz (fun hHeld2 => ?_)
            clear hK K hHeld
            have hHeld := hHeld2
            clear hHeld2
            have Kw5 := Lib.hid hbz
            clear hbz
            refine wpAnyH_ready (rs := [4]) (by kernel_rfl) (by simp) ?_
            refine AllReadyH.cons (o := { dst := Option.some 40, op := Op.call { callee := Callee.value (Operand.func 18), args := #[Operand.tmp 39], argTypes := #[24] }, type := 4, pos := "law.go:196", after := #[{ on := 3, ground := Ground.data }, { on := 2, ground := Ground.chain }], guard := Option.none }) rfl (fun K hK => ?_) AllReadyH.nil
            go_simp
            refine (HMa.out _ Kw5.out).mono ?_
            rintro y w6 ⟨rfl, hbz⟩
            have hbz : Below WS.heap.size WS w6 := Kw5.out.trans (hbz.mono Kw5.out.size)
            refine hK.out _ _ hbz (fun hHeld2 => ?_)
            clear hK K hHeld
            have hHeld := hHeld2
            clear hHeld2
            have Kw6 := Lib.hid hbz
            clear hbz
            refine wpAnyH_take (i := 5) (oi := { dst := Option.some 41, op := Op.binOp BinOp.eql 4 (Operand.tmp 38) (Operand.tmp 40) 4, type := 4, pos := "law.go:196", after := #[{ on := 2, ground := Ground.data }, { on := 4, ground := Ground.data }], guard := Option.none }) (v := .bool false) rfl (by kernel_rfl) (by kernel_rfl) (by kernel_rfl) (fun _ _ _ h => h) (Or.inl ⟨by rfl, ?_⟩) hHeld ?_
            · intro W hSw
              go_simp
            simp only [Act.put, List.setIfInBounds_toArray, List.set_cons_zero, List.set_cons_succ]
            refine wpAnyH_take (i := 6) (oi := { dst := Option.some 42, op := Op.move (Operand.tmp 41), type := 4, pos := "law.go:196", after := #[{ on := 5, ground := Ground.data }, { on := 4, ground := Ground.chain }], guard := Option.none }) (v := .bool false) rfl (by kernel_rfl) (by kernel_rfl) (by kernel_rfl) (fun _ _ _ h => h) (Or.inl ⟨by rfl, ?_⟩) hHeld ?_
            · intro W hSw
              go_simp
            simp only [Act.put, List.setIfInBounds_toArray, List.set_cons_zero, List.set_cons_succ]
            refine wpAnyH_take (i := 7) (oi := { dst := Option.some 43, op := Op.call { callee := Callee.value (Operand.func 9), args := #[], argTypes := #[] }, type := 4, pos := "law.go:196", after := #[{ on := 6, ground := Ground.chain }, { on := 6, ground := Ground.guard }], guard := Option.some (6, true) }) (v := undef) rfl (by kernel_rfl) (by kernel_rfl) (by kernel_rfl) (fun _ _ _ h => h) (Or.inr ⟨by rfl, rfl⟩) hHeld ?_
            simp only [Act.put, List.setIfInBounds_toArray, List.set_cons_zero, List.set_cons_succ]
            refine wpAnyH_take (i := 8) (oi := { dst := Option.some 44, op := Op.pick (Operand.tmp 42) (Operand.tmp 43) (Operand.const (Value.bool false)), type := 4, pos := "law.go:196", after := #[{ on := 6, ground := Ground.data }, { on := 7, ground := Ground.data }], guard := Option.none }) (v := .bool false) rfl (by kernel_rfl) (by kernel_rfl) (by kernel_rfl) (fun _ _ _ h => h) (Or.inl ⟨by rfl, ?_⟩) hHeld ?_
            · intro W hSw
              go_simp
            simp only [Act.put, List.setIfInBounds_toArray, List.set_cons_zero, List.set_cons_succ]
            refine wpAnyH_take (i := 9) (oi := { dst := Option.some 45, op := Op.move (Operand.tmp 44), type := 4, pos := "law.go:196", after := #[{ on := 8, ground := Ground.data }, { on := 7, ground := Ground.chain }], guard := Option.none }) (v := .bool false) rfl (by kernel_rfl) (by kernel_rfl) (by kernel_rfl) (fun _ _ _ h => h) (Or.inl ⟨by rfl, ?_⟩) hHeld ?_
            · intro W hSw
              go_simp
            simp only [Act.put, List.setIfInBounds_toArray, List.set_cons_zero, List.set_cons_succ]
            refine wpAnyH_take (i := 10) (oi := { dst := Option.some 46, op := Op.load 24 (Operand.tmp 2), type := 24, pos := "law.go:196", after := #[{ on := 9, ground := Ground.guard }], guard := Option.some (9, false) }) (v := .agg #[.int .i64 l.base, .int .i64 l.term, .slice A n c]) rfl (by kernel_rfl) (by kernel_rfl) (by kernel_rfl) (fun _ _ _ h => h) (Or.inl ⟨by rfl, ?_⟩) hHeld ?_
            · intro W hSw
              obtain ⟨⟨⟨x0, x1, x2⟩, ⟨y0, y1, y2⟩⟩, ⟨z0, z1, z2⟩, -⟩ := HA.out _ hSw
              go_simp
            simp only [Act.put, List.setIfInBounds_toArray, List.set_cons_zero, List.set_cons_succ]
            refine wpAnyH_ready (rs := [11]) (by kernel_rfl) (by simp) ?_
            refine AllReadyH.cons (o := { dst := Option.some 47, op := Op.call { callee := Callee.value (Operand.func 18), args := #[Operand.tmp 46], argTypes := #[24] }, type := 4, pos := "law.go:196", after := #[{ on := 10, ground := Ground.data }, { on := 9, ground := Ground.chain }, { on := 9, ground := Ground.guard }], guard := Option.some (9, false) }) rfl (fun K hK => ?_) AllReadyH.nil
            go_simp
            refine (HMa.out _ Kw6.out).mono ?_
            rintro y w7 ⟨rfl, hbz⟩
            have hbz : Below WS.heap.size WS w7 := Kw6.out.trans (hbz.mono Kw6.out.size)
            refine hK.out _ _ hbz (fun hHeld2 => ?_)
            clear hK K hHeld
            have hHeld := hHeld2
            clear hHeld2
            have Kw7 := Lib.hid hbz
            clear hbz
            refine wpAnyH_take (i := 12) (oi := { dst := Option.some 48, op := Op.unOp UnOp.not 4 (Operand.tmp 47), type := 4, pos := "law.go:196", after := #[{ on := 11, ground := Ground.data }, { on := 9, ground := Ground.guard }], guard := Option.some (9, false) }) (v := .bool true) rfl (by kernel_rfl) (by kernel_rfl) (by kernel_rfl) (fun _ _ _ h => h) (Or.inl ⟨by rfl, ?_⟩) hHeld ?_
            · intro W hSw
              go_simp
            simp only [Act.put, List.setIfInBounds_toArray, List.set_cons_zero, List.set_cons_succ]
            refine wpAnyH_take (i := 13) (oi := { dst := Option.some 49, op := Op.move (Operand.tmp 48), type := 4, pos := "law.go:196", after := #[{ on := 12, ground := Ground.data }, { on := 11, ground := Ground.chain }, { on := 9, ground := Ground.guard }], guard := Option.some (9, false) }) (v := .bool true) rfl (by kernel_rfl) (by kernel_rfl) (by kernel_rfl) (fun _ _ _ h => h) (Or.inl ⟨by rfl, ?_⟩) hHeld ?_
            · intro W hSw
              go_simp
            simp only [Act.put, List.setIfInBounds_toArray, List.set_cons_zero, List.set_cons_succ]
            refine wpAnyH_take (i := 14) (oi := { dst := Option.some 50, op := Op.fieldAddr 29 (Operand.tmp 5) 2, type := 0, pos := "law.go:196", after := #[{ on := 13, ground := Ground.guard }], guard := Option.some (13, true) }) (v := .pointer (some ⟨gx, 2, none⟩)) rfl (by kernel_rfl) (by kernel_rfl) (by kernel_rfl) (fun _ _ _ h => h) (Or.inl ⟨by rfl, ?_⟩) hHeld ?_
            · intro W hSw
              go_simp
            simp only [Act.put, List.setIfInBounds_toArray, List.set_cons_zero, List.set_cons_succ]
            refine wpAnyH_take (i := 15) (oi := { dst := Option.some 51, op := Op.load 27 (Operand.tmp 50), type := 27, pos := "law.go:196", after := #[{ on := 14, ground := Ground.data }, { on := 13, ground := Ground.guard }], guard := Option.some (13, true) }) (v := .slice A3 0 c3) rfl (by kernel_rfl) (by kernel_rfl) (by kernel_rfl) (fun _ _ _ h => h) (Or.inl ⟨by rfl, ?_⟩) hHeld ?_
            · intro W hSw
              obtain ⟨⟨⟨x0, x1, x2⟩, ⟨y0, y1, y2⟩⟩, ⟨z0, z1, z2⟩, -⟩ := HA.out _ hSw
              go_simp
            simp only [Act.put, List.setIfInBounds_toArray, List.set_cons_zero, List.set_cons_succ]
            refine wpAnyH_take (i := 16) (oi := { dst := Option.some 52, op := Op.call { callee := Callee.builtin Builtin.len, args := #[Operand.tmp 51], argTypes := #[27] }, type := 3, pos := "law.go:196", after := #[{ on := 15, ground := Ground.data }, { on := 13, ground := Ground.guard }], guard := Option.some (13, true) }) (v := .int .i64 0) rfl (by kernel_rfl) (by kernel_rfl) (by kernel_rfl) (fun _ _ _ h => h) (Or.inl ⟨by rfl, ?_⟩) hHeld ?_
            · intro W hSw
              go_simp
            simp only [Act.put, List.setIfInBounds_toArray, List.set_cons_zero, List.set_cons_succ]
            refine wpAnyH_take (i := 17) (oi := { dst := Option.some 53, op := Op.binOp BinOp.eql 3 (Operand.tmp 52) (Operand.const (Value.int IntKind.i64 0)) 3, type := 4, pos := "law.go:196", after := #[{ on := 16, ground := Ground.data }, { on := 13, ground := Ground.guard }], guard := Option.some (13, true) }) (v := .bool true) rfl (by kernel_rfl) (by kernel_rfl) (by kernel_rfl) (fun _ _ _ h => h) (Or.inl ⟨by rfl, ?_⟩) hHeld ?_
            · intro W hSw
              go_simp
            simp only [Act.put, List.setIfInBounds_toArray, List.set_cons_zero, List.set_cons_succ]
            refine wpAnyH_take (i := 18) (oi := { dst := Option.some 54, op := Op.pick (Operand.tmp 49) (Operand.tmp 53) (Operand.const (Value.bool false)), type := 4, pos := "law.go:196", after := #[{ on := 13, ground := Ground.data }, { on := 17, ground := Ground.data }, { on := 9, ground := Ground.guard }], guard := Option.some (9, false) }) (v := .bool true) rfl (by kernel_rfl) (by kernel_rfl) (by kernel_rfl) (fun _ _ _ h => h) (Or.inl ⟨by rfl, ?_⟩) hHeld ?_
            · intro W hSw
              go_simp
            simp only [Act.put, List.setIfInBounds_toArray, List.set_cons_zero, List.set_cons_succ]
            refine wpAnyH_take (i := 19) (oi := { dst := Option.some 55, op := Op.move (Operand.tmp 54), type := 4, pos := "law.go:196", after := #[{ on := 18, ground := Ground.data }, { on := 13, ground := Ground.chain }, { on := 9, ground := Ground.guard }], guard := Option.some (9, false) }) (v := .bool true) rfl (by kernel_rfl) (by kernel_rfl) (by kernel_rfl) (fun _ _ _ h => h) (Or.inl ⟨by rfl, ?_⟩) hHeld ?_
            · intro W hSw
              go_simp
            simp only [Act.put, List.setIfInBounds_toArray, List.set_cons_zero, List.set_cons_succ]
            refine wpAnyH_ready (rs := [20]) (by kernel_rfl) (by simp) ?_
            refine AllReadyH.cons (o := { dst := Option.some 56, op := Op.call { callee := Callee.value (Operand.func 9), args := #[], argTypes := #[] }, type := 4, pos := "law.go:196", after := #[{ on := 19, ground := Ground.chain }, { on := 19, ground := Ground.guard }], guard := Option.some (19, true) }) rfl (fun K hK => ?_) AllReadyH.nil
            go_simp
            refine (sureG C _).mono ?_
            rintro y w8 ⟨rfl, hbz⟩
            have hbz : Below WS.heap.size WS w8 := Kw7.out.trans (hbz.mono Kw7.out.size)
            refine hK.out _ _ hbz (fun hHeld2 => ?_)
            clear hK K hHeld
            have hHeld := hHeld2
            clear hHeld2
            have Kw8 := Lib.hid hbz
            clear hbz
            refine wpAnyH_take (i := 21) (oi := { dst := Option.some 57, op := Op.pick (Operand.tmp 55) (Operand.tmp 56) (Operand.const (Value.bool false)), type := 4, pos := "law.go:196", after := #[{ on := 19, ground := Ground.data }, { on := 20, ground := Ground.data }, { on := 9, ground := Ground.guard }], guard := Option.some (9, false) }) (v := .bool true) rfl (by kernel_rfl) (by kernel_rfl) (by kernel_rfl) (fun _ _ _ h => h) (Or.inl ⟨by rfl, ?_⟩) hHeld ?_
            · intro W hSw
              go_simp
            simp only [Act.put, List.setIfInBounds_toArray, List.set_cons_zero, List.set_cons_succ]
            refine wpAnyH_take (i := 22) (oi := { dst := Option.some 58, op := Op.pick (Operand.tmp 45) (Operand.const (Value.bool true)) (Operand.tmp 57), type := 4, pos := "law.go:196", after := #[{ on := 9, ground := Ground.data }, { on := 21, ground := Ground.data }], guard := Option.none }) (v := .bool true) rfl (by kernel_rfl) (by kernel_rfl) (by kernel_rfl) (fun _ _ _ h => h) (Or.inl ⟨by rfl, ?_⟩) hHeld ?_
            · intro W hSw
              go_simp
            simp only [Act.put, List.setIfInBounds_toArray, List.set_cons_zero, List.set_cons_succ]
            refine wpAnyH_take (i := 23) (oi := { dst := Option.some 4, op := Op.assign (Operand.tmp 58), type := 4, pos := "law.go:196", after := #[{ on := 22, ground := Ground.data }, { on := 20, ground := Ground.chain }, { on := 0, ground := Ground.phase }, { on := 1, ground := Ground.phase }, { on := 2, ground := Ground.phase }, { on := 3, ground := Ground.phase }, { on := 4, ground := Ground.phase }, { on := 5, ground := Ground.phase }, { on := 6, ground := Ground.phase }, { on := 7, ground := Ground.phase }, { on := 8, ground := Ground.phase }, { on := 9, ground := Ground.phase }, { on := 10, ground := Ground.phase }, { on := 11, ground := Ground.phase }, { on := 12, ground := Ground.phase }, { on := 13, ground := Ground.phase }, { on := 14, ground := Ground.phase }, { on := 15, ground := Ground.phase }, { on := 16, ground := Ground.phase }, { on := 17, ground := Ground.phase }, { on := 18, ground := Ground.phase }, { on := 19, ground := Ground.phase }, { on := 20, ground := Ground.phase }, { on := 21, ground := Ground.phase }, { on := 22, ground := Ground.phase }], guard := Option.none }) (v := .bool true) rfl (by kernel_rfl) (by kernel_rfl) (by kernel_rfl) (fun _ _ _ h => h) (Or.inl ⟨by rfl, ?_⟩) hHeld ?_
            · intro W hSw
              go_simp
            simp only [Act.put, List.setIfInBounds_toArray, List.set_cons_zero, List.set_cons_succ]
            clear hHeld
            refine wpAnyH_done (by kernel_rfl) ?_ _
            go_wp2_with fail
            go_ret
            exact ⟨rfl, (HA.out _ Kw8.out).2.2.2⟩
      | true =>
        have hme := okE_yes HM.out.2.1.symm
        rw [← HM.out.1, ← HM.out.2.2.1] at hme
        obtain rfl : zz = z := EZ.out rfl
        have hsome := merge_some hme
        have hmay := hsome.2.2.2.2.2.2.1
        have hir : inI m.base := by have := mayE_parts hmay; exact inI_of_le this.1 (by omega)
        have htr : inI m.term := by have := mayE_parts hmay; exact inI_of_le this.2.2.1 (by omega)
        have HT := Lib.hid fun W (hW : Below WS.heap.size WS W) (k : Int) (hk : inI k) r (hr : r = termE m k) => C.gTerm m A3 q c3 k W ⟨(HA.out W hW).2.2.1, EO.out⟩ hir htr HM.out.2.2.2.2 hk r hr
        have HCk := Lib.hid fun W (hW : Below WS.heap.size WS W) => C.gCheck m A3 q c3 W ⟨(HA.out W hW).2.2.1, EO.out⟩ hir htr HM.out.2.2.2.2 0 (by rw [if_pos hmay])
        simp only [er_zero] at HCk
        have HME := Lib.hid hme
        obtain ⟨hn', hnc', hcm'⟩ := HN.out.2.1.len_
        have HN' := Lib.hid hn'
        have in2 : (n' : Int) ≤ 9223372036854775807 := by omega
        have in3 : (n' : Int) ≤ (c' : Int) := by omega
        clear hme hsome hmay hir htr hn' hnc' hcm'
        go_upto_region 6 with fail
        go_wp2_with fail
        go_loopw [8] (fun ii wr => ∃ (j : Nat), j ≤ n' ∧ ii = .int .i64 (j : Int) ∧ Below WS.heap.size WS wr) (fun ii _ => n' - (intOf ii).toNat)
        case atStart => exact ⟨0, Nat.zero_le _, rfl, Below.refl _ _⟩
        case round =>
          obtain ⟨j, hj, rfl, hbw⟩ := hrel
          have HBW := Lib.hid hbw
          obtain ⟨⟨⟨x0, x1, x2⟩, ⟨y0, y1, y2⟩⟩, ⟨z0, z1, z2⟩, -⟩ := HA.out wr hbw
          clear hbw
          by_cases hlt : j < n'
          · have ii : (j : Int) < (n' : Int) := by omega
            have hjl : j < mo.length := by have := HN'.out; omega
            obtain ⟨bk, off, Ad, cd, rfl, hbb, hok, q0, q1, -⟩ := HN.out.2.1.at_ j hjl
            have hterm := fun hb => merge_terms HME.out hjl hb
            obtain ⟨e, he⟩ : ∃ e, e = mo[j] := ⟨_, rfl⟩
            rw [← he] at hok q0 q1 hterm
            have HTM := Lib.hid hterm
            have hew : ∀ W, Below WS.heap.size WS W → W.cell? ⟨bk, off + j * 4, none⟩ = some (.int .i64 e.index) ∧ W.cell? ⟨bk, off + j * 4 + 1, none⟩ = some (.int .i64 e.term) := fun W hW => by
              have hb := (HA.out W hW).2.2.2
              exact ⟨(hb.cell (p := ⟨bk, off + j * 4, none⟩) hbb).trans q0, (hb.cell (p := ⟨bk, off + j * 4 + 1, none⟩) hbb).trans q1⟩
            have HEW := Lib.hid hew
            obtain ⟨p0, p1⟩ := hew wr HBW.out
            have HOK := Lib.hid hok.1
            clear he hok q0 q1 hterm hew hbb hjl
            have hcase : e.index ≤ l.base ∨ (¬ e.index ≤ l.base ∧ zz < e.index) ∨ (¬ e.index ≤ l.base ∧ ¬ zz < e.index) := by omega
            rcases hcase with c1 | ⟨c1, c2⟩ | ⟨c1, c2⟩
            case inr.inr =>
              obtain ⟨et, het⟩ : ∃ t, t = e.term := ⟨_, rfl⟩
              have CT := Lib.hid fun W hW => HT.out W hW e.index HOK.out _ (HTM.out (by omega)).symm
              simp only [er_zero, ← het] at CT
              rw [← het] at p1
              have HEW2 : Hid (∀ W, Below WS.heap.size WS W → W.cell? ⟨bk, off + j * 4, none⟩ = some (.int .i64 e.index) ∧ W.cell? ⟨bk, off + j * 4 + 1, none⟩ = some (.int .i64 et)) := Lib.hid fun W hW => by rw [het]; exact HEW.out W hW
              clear het
              go_upto_region 9 with fail
              go_quiet (fail)
              go_upto_region 10 with fail
              refine wp_region_held_drew (S := fun W => Below WS.heap.size WS W) (by kernel_rfl) (below_drawn HBW.out _).drew (fun hHeld => ?_)
              have HD := Lib.hid hHeld
              refine wpAnyH_take (i := 0) (oi := { dst := Option.some 86, op := Op.load 29 (Operand.tmp 5), type := 29, pos := "law.go:202", after := #[], guard := Option.none }) (v := .agg #[.int .i64 m.base, .int .i64 m.term, .slice A3 q c3]) rfl (by kernel_rfl) (by kernel_rfl) (by kernel_rfl) (fun _ _ _ h => h) (Or.inl ⟨by rfl, ?_⟩) hHeld ?_
              · intro W hSw
                obtain ⟨-, ⟨z0, z1, z2⟩, -⟩ := HA.out _ hSw
                go_simp
              simp only [Act.put, List.setIfInBounds_toArray, List.set_cons_zero, List.set_cons_succ]
              refine wpAnyH_take (i := 1) (oi := { dst := Option.some 87, op := Op.fieldAddr 54 (Operand.tmp 3) 2, type := 0, pos := "law.go:202", after := #[], guard := Option.none }) (v := .pointer (some ⟨gm, 2, none⟩)) rfl (by kernel_rfl) (by kernel_rfl) (by kernel_rfl) (fun _ _ _ h => h) (Or.inl ⟨by rfl, ?_⟩) hHeld ?_
              · intro W hSw
                go_simp
              simp only [Act.put, List.setIfInBounds_toArray, List.set_cons_zero, List.set_cons_succ]
              refine wpAnyH_take (i := 2) (oi := { dst := Option.some 88, op := Op.load 22 (Operand.tmp 87), type := 22, pos := "law.go:202", after := #[{ on := 1, ground := Ground.data }], guard := Option.none }) (v := .slice (some ⟨bk, off, none⟩) n' c') rfl (by kernel_rfl) (by kernel_rfl) (by kernel_rfl) (fun _ _ _ h => h) (Or.inl ⟨by rfl, ?_⟩) hHeld ?_
              · intro W hSw
                obtain ⟨⟨-, ⟨y0, y1, y2⟩⟩, -⟩ := HA.out _ hSw
                go_simp
              simp only [Act.put, List.setIfInBounds_toArray, List.set_cons_zero, List.set_cons_succ]
              refine wpAnyH_take (i := 3) (oi := { dst := Option.some 89, op := Op.move (Operand.tmp 8), type := 3, pos := "law.go:202", after := #[], guard := Option.none }) (v := .int .i64 (j : Int)) rfl (by kernel_rfl) (by kernel_rfl) (by kernel_rfl) (fun _ _ _ h => h) (Or.inl ⟨by rfl, ?_⟩) hHeld ?_
              · intro W hSw
                go_simp
              simp only [Act.put, List.setIfInBounds_toArray, List.set_cons_zero, List.set_cons_succ]
              refine wpAnyH_take (i := 4) (oi := { dst := Option.some 90, op := Op.indexAddr 22 (Operand.tmp 88) (Operand.tmp 89), type := 0, pos := "law.go:202", after := #[{ on := 2, ground := Ground.data }, { on := 3, ground := Ground.data }], guard := Option.none }) (v := .pointer (some ⟨bk, off + j * 4, none⟩)) rfl (by kernel_rfl) (by kernel_rfl) (by kernel_rfl) (fun _ _ _ h => h) (Or.inl ⟨by rfl, ?_⟩) hHeld ?_
              · intro W hSw
                go_simp
              simp only [Act.put, List.setIfInBounds_toArray, List.set_cons_zero, List.set_cons_succ]
              refine wpAnyH_take (i := 5) (oi := { dst := Option.some 91, op := Op.fieldAddr 44 (Operand.tmp 90) 0, type := 0, pos := "law.go:202", after := #[{ on := 4, ground := Ground.data }], guard := Option.none }) (v := .pointer (some ⟨bk, off + j * 4, none⟩)) rfl (by kernel_rfl) (by kernel_rfl) (by kernel_rfl) (fun _ _ _ h => h) (Or.inl ⟨by rfl, ?_⟩) hHeld ?_
              · intro W hSw
                go_simp
              simp only [Act.put, List.setIfInBounds_toArray, List.set_cons_zero, List.set_cons_succ]
              refine wpAnyH_take (i := 6) (oi := { dst := Option.some 92, op := Op.load 3 (Operand.tmp 91), type := 3, pos := "law.go:202", after := #[{ on := 5, ground := Ground.data }], guard := Option.none }) (v := .int .i64 e.index) rfl (by kernel_rfl) (by kernel_rfl) (by kernel_rfl) (fun _ _ _ h => h) (Or.inl ⟨by rfl, ?_⟩) hHeld ?_
              · intro W hSw
                obtain ⟨p0, p1⟩ := HEW2.out _ hSw
                go_simp
              simp only [Act.put, List.setIfInBounds_toArray, List.set_cons_zero, List.set_cons_succ]
              refine wpAnyH_ready (rs := [7]) (by kernel_rfl) (by simp) ?_
              refine AllReadyH.cons (o := { dst := Option.some 93, op := Op.call { callee := Callee.value (Operand.func 13), args := #[Operand.tmp 86, Operand.tmp 92], argTypes := #[29, 3] }, type := 36, pos := "law.go:202", after := #[{ on := 0, ground := Ground.data }, { on := 6, ground := Ground.data }], guard := Option.none }) rfl (fun K hK => ?_) AllReadyH.nil
              go_simp
              refine (CT.out _ HD.out).mono ?_
              rintro y w8 ⟨rfl, hbz⟩
              have hbz : Below WS.heap.size WS w8 := Below.trans HD.out (hbz.mono (Below.size HD.out))
              refine hK.out _ _ hbz (fun hHeld2 => ?_)
              clear hK K hHeld
              have hHeld := hHeld2
              clear hHeld2
              have K8 := Lib.hid hbz
              refine wpAnyH_take (i := 8) (oi := { dst := Option.some 85, op := Op.move (Operand.tmp 93), type := 36, pos := "law.go:202", after := #[{ on := 7, ground := Ground.data }], guard := Option.none }) (v := .tuple #[.int .i64 et, .nilIface]) rfl (by kernel_rfl) (by kernel_rfl) (by kernel_rfl) (fun _ _ _ h => h) (Or.inl ⟨by rfl, ?_⟩) hHeld ?_
              · intro W hSw
                go_simp
              simp only [Act.put, List.setIfInBounds_toArray, List.set_cons_zero, List.set_cons_succ]
              refine wpAnyH_take (i := 9) (oi := { dst := Option.some 94, op := Op.extract (Operand.tmp 85) 0, type := 3, pos := "law.go:202", after := #[{ on := 8, ground := Ground.data }], guard := Option.none }) (v := .int .i64 et) rfl (by kernel_rfl) (by kernel_rfl) (by kernel_rfl) (fun _ _ _ h => h) (Or.inl ⟨by rfl, ?_⟩) hHeld ?_
              · intro W hSw
                go_simp
              simp only [Act.put, List.setIfInBounds_toArray, List.set_cons_zero, List.set_cons_succ]
              refine wpAnyH_take (i := 10) (oi := { dst := Option.some 95, op := Op.extract (Operand.tmp 85) 1, type := 35, pos := "law.go:202", after := #[{ on := 8, ground := Ground.data }, { on := 11, ground := Ground.gcOnly Departure.lateStores }], guard := Option.none }) (v := .nilIface) rfl (by kernel_rfl) (by kernel_rfl) (by kernel_rfl) (fun _ _ _ h => h) (Or.inl ⟨by rfl, ?_⟩) hHeld ?_
              · intro W hSw
                go_simp
              simp only [Act.put, List.setIfInBounds_toArray, List.set_cons_zero, List.set_cons_succ]
              refine wpAnyH_take (i := 11) (oi := { dst := Option.some 9, op := Op.assign (Operand.tmp 94), type := 3, pos := "law.go:202", after := #[{ on := 9, ground := Ground.data }, { on := 7, ground := Ground.chain }, { on := 0, ground := Ground.phase }, { on := 1, ground := Ground.phase }, { on := 2, ground := Ground.phase }, { on := 3, ground := Ground.phase }, { on := 4, ground := Ground.phase }, { on := 5, ground := Ground.phase }, { on := 6, ground := Ground.phase }, { on := 7, ground := Ground.phase }, { on := 8, ground := Ground.phase }, { on := 9, ground := Ground.phase }, { on := 10, ground := Ground.textOnly Departure.lateStores }], guard := Option.none }) (v := .int .i64 et) rfl (by kernel_rfl) (by kernel_rfl) (by kernel_rfl) (fun _ _ _ h => h) (Or.inl ⟨by rfl, ?_⟩) hHeld ?_
              · intro W hSw
                go_simp
              simp only [Act.put, List.setIfInBounds_toArray, List.set_cons_zero, List.set_cons_succ]
              refine wpAnyH_take (i := 12) (oi := { dst := Option.some 10, op := Op.assign (Operand.tmp 95), type := 35, pos := "law.go:202", after := #[{ on := 10, ground := Ground.data }, { on := 11, ground := Ground.chain }, { on := 0, ground := Ground.phase }, { on := 1, ground := Ground.phase }, { on := 2, ground := Ground.phase }, { on := 3, ground := Ground.phase }, { on := 4, ground := Ground.phase }, { on := 5, ground := Ground.phase }, { on := 6, ground := Ground.phase }, { on := 7, ground := Ground.phase }, { on := 8, ground := Ground.phase }, { on := 9, ground := Ground.phase }, { on := 10, ground := Ground.phase }, { on := 11, ground := Ground.phase }], guard := Option.none }) (v := .nilIface) rfl (by kernel_rfl) (by kernel_rfl) (by kernel_rfl) (fun _ _ _ h => h) (Or.inl ⟨by rfl, ?_⟩) hHeld ?_
              · intro W hSw
                go_simp
              simp only [Act.put, List.setIfInBounds_toArray, List.set_cons_zero, List.set_cons_succ]
              clear hHeld x0 x1 x2 y0 y1 y2 z0 z1 z2 p0 p1
              refine wpAnyH_done (by kernel_rfl) ?_ _
              obtain ⟨⟨⟨x0, x1, x2⟩, ⟨y0, y1, y2⟩⟩, ⟨z0, z1, z2⟩, -⟩ := HA.out w8 hbz
              obtain ⟨p0, p1⟩ := HEW2.out w8 hbz
              clear hbz
              go_wp2_with fail
              go_roundw
              case rel => exact ⟨j + 1, by omega, by go_num, K8.out⟩
              case measure => simp [intOf]; omega
            all_goals
              go_upto_region 9 with fail
              go_quiet (fail)
              go_wp2_with fail
              go_roundw
              case rel => exact ⟨j + 1, by omega, by go_num, below_drawn HBW.out _⟩
              case measure => simp [intOf]; omega
          · obtain rfl : j = n' := by omega
            have ii : ¬ (j : Int) < (j : Int) := by omega
            go_wp2_with (first
              | (go_at_call 17; go_must (refine (HCk.out _ HBW.out).mono ?_; rintro y w8 ⟨rfl, hb8⟩; have H8 := Lib.hid (HBW.out.trans (hb8.mono HBW.out.size)); clear hb8))
              | (go_at_call 9; go_must (refine (sureG C _).mono ?_; rintro y w9 ⟨rfl, hb9⟩; have H9 := Lib.hid (H8.out.trans (hb9.mono H8.out.size)); clear hb9)))
            go_ret
            exact ⟨rfl, (HA.out _ H9.out).2.2.2⟩

end Go.Proofs.YtlngcfaadfkbnaaDoor.pk
