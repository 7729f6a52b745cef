/-
  The law EntryFroms: walked.
-/
import Derived.Test.YtlngcfaadfkbnaaDoorEnComp
namespace Go.Proofs.YtlngcfaadfkbnaaDoor.pk
open Go Go.RowKit
set_option maxRecDepth 100000

theorem fromE_small {k d : Nat} {l : Lg} (h : SmallE k d l.l) (i t : Int) : SmallE k d (fromE l i t) := by
  unfold fromE
  split
  · exact ⟨Nat.zero_le _, fun e he => by cases he⟩
  · have h1 := small_drop h (i - l.base - 1).toNat
    exact ⟨by rw [List.length_take]; have := h1.1; omega, fun e he => h1.2 e (List.mem_of_mem_take he)⟩

set_option maxHeartbeats 16000000 in
theorem froms_true (C : ConG) (l : Lg) (A : Option Addr) (n c : Nat) (i t : Int) (w : World) (hG : StdG w) (h : Ents w (.slice A n c) l.l) (hi : inI l.base) (ht : inI l.term) (hk : inI i) (hm : inI t) (hd : ∀ e ∈ l.l, e.data.length ≤ 140737488355328) :
    Calls Tryd.prog 6 #[.agg #[.int .i64 l.base, .int .i64 l.term, .slice A n c], .int .i64 i, .int .i64 t] w fun y w' => y = .returned (.bool true) ∧ Below w.heap.size w w' := by
  obtain ⟨W1, g, hW1, hg, hb1, hq, hsz⟩ := one_box w (.cells #[.int .i64 l.base, .int .i64 l.term, .slice A n c] 24)
  have HW := Lib.hid (And.intro hW1 hg)
  have HE := Lib.hid (And.intro hb1 hq)
  have hcells : ∀ W, Below W1.heap.size W1 W → W.cell? ⟨g, 0, none⟩ = some (.int .i64 l.base) ∧ W.cell? ⟨g, 1, none⟩ = some (.int .i64 l.term) ∧ W.cell? ⟨g, 2, none⟩ = some (.slice A n c) := fun W hW => cells3 ((hW.block g (obj_lt hq)).trans hq)
  have HCL := Lib.hid hcells
  have HN := Lib.hid (And.intro h (And.intro hi ht))
  have HL := Lib.hid fun W (hW : Below w.heap.size w W) b hb => long_any A n c l.l W (h.below hW) hd b hb
  have hd0 : Below W1.heap.size W1 W1.drew := (Below.refl _ _).drew
  cases hlong : longE l.l with
  | true =>
    have HL := Lib.hid (HL.out W1.drew (hb1.trans (hd0.mono hb1.size)) true hlong.symm)
    clear h hi ht hk hm hd hlong hW1 hg hb1 hq hsz hcells
    go_enter Tryd.func6, Tryd.ntmps6
    go_upto_region 1 with fail
    rw [← HW.out.1, ← HW.out.2]
    refine wp_region_held_drew (S := fun W => Below W1.heap.size W1 W) (by kernel_rfl) hd0 (fun hHeld => ?_)
    refine wpAnyH_take (i := 0) (oi := { dst := Option.some 7, op := Op.fieldAddr 24 (Operand.tmp 3) 2, type := 0, pos := "law.go:258", after := #[], guard := Option.none }) (v := .pointer (some ⟨g, 2, none⟩)) rfl (by kernel_rfl) (by kernel_rfl) (by kernel_rfl) (fun _ _ _ h => h) (Or.inl ⟨by rfl, ?_⟩) hHeld ?_
    · intro W hSw
      obtain ⟨z0, z1, z2⟩ := HCL.out _ hSw
      go_simp
    simp only [Act.put, List.setIfInBounds_toArray, List.set_cons_zero, List.set_cons_succ]
    refine wpAnyH_take (i := 1) (oi := { dst := Option.some 8, op := Op.load 22 (Operand.tmp 7), type := 22, pos := "law.go:258", after := #[{ on := 0, ground := Ground.data }], guard := Option.none }) (v := .slice A n c) rfl (by kernel_rfl) (by kernel_rfl) (by kernel_rfl) (fun _ _ _ h => h) (Or.inl ⟨by rfl, ?_⟩) hHeld ?_
    · intro W hSw
      obtain ⟨z0, z1, z2⟩ := HCL.out _ hSw
      go_simp
    simp only [Act.put, List.setIfInBounds_toArray, List.set_cons_zero, List.set_cons_succ]
    refine wpAnyH_ready (rs := [2]) (by kernel_rfl) (by simp) ?_
    refine AllReadyH.cons (o := { dst := Option.some 9, op := Op.call { callee := Callee.value (Operand.func 8), args := #[Operand.tmp 8], argTypes := #[22] }, type := 4, pos := "law.go:258", after := #[{ on := 1, ground := Ground.data }], guard := Option.none }) rfl (fun K hK => ?_) AllReadyH.nil
    go_simp
    refine HL.out.mono ?_
    rintro y w1 ⟨rfl, rfl⟩
    refine hK.out _ _ hd0 (fun hHeld2 => ?_)
    clear hK K hHeld
    have hHeld := hHeld2
    clear hHeld2
    refine wpAnyH_take (i := 3) (oi := { dst := Option.some 10, op := Op.move (Operand.tmp 9), type := 4, pos := "law.go:258", after := #[{ on := 2, ground := Ground.data }, { on := 2, ground := Ground.chain }], guard := Option.none }) (v := .bool true) rfl (by kernel_rfl) (by kernel_rfl) (by kernel_rfl) (fun _ _ _ h => h) (Or.inl ⟨by rfl, ?_⟩) hHeld ?_
    · intro W hSw
      go_simp
    simp only [Act.put, List.setIfInBounds_toArray, List.set_cons_zero, List.set_cons_succ]
    refine wpAnyH_ready (rs := [4]) (by kernel_rfl) (by simp) ?_
    refine AllReadyH.cons (o := { dst := Option.some 11, op := Op.call { callee := Callee.value (Operand.func 9), args := #[], argTypes := #[] }, type := 4, pos := "law.go:258", after := #[{ on := 3, ground := Ground.chain }, { on := 3, ground := Ground.guard }], guard := Option.some (3, true) }) rfl (fun K hK => ?_) AllReadyH.nil
    go_simp
    refine (sureG C _).mono ?_
    rintro y w1 ⟨rfl, hb2⟩
    have hb3 : Below W1.heap.size W1 w1 := hd0.trans hb2
    refine hK.out _ _ hb3 (fun hHeld2 => ?_)
    clear hK K hHeld
    have hHeld := hHeld2
    clear hHeld2
    refine wpAnyH_take (i := 5) (oi := { dst := Option.some 12, op := Op.pick (Operand.tmp 10) (Operand.tmp 11) (Operand.const (Value.bool false)), type := 4, pos := "law.go:258", after := #[{ on := 3, ground := Ground.data }, { on := 4, ground := Ground.data }], guard := Option.none }) (v := .bool true) rfl (by kernel_rfl) (by kernel_rfl) (by kernel_rfl) (fun _ _ _ h => h) (Or.inl ⟨by rfl, ?_⟩) hHeld ?_
    · intro W hSw
      go_simp
    simp only [Act.put, List.setIfInBounds_toArray, List.set_cons_zero, List.set_cons_succ]
    refine wpAnyH_take (i := 6) (oi := { dst := Option.some 13, op := Op.move (Operand.tmp 12), type := 4, pos := "law.go:258", after := #[{ on := 5, ground := Ground.data }, { on := 4, ground := Ground.chain }], guard := Option.none }) (v := .bool true) rfl (by kernel_rfl) (by kernel_rfl) (by kernel_rfl) (fun _ _ _ h => h) (Or.inl ⟨by rfl, ?_⟩) hHeld ?_
    · intro W hSw
      go_simp
    simp only [Act.put, List.setIfInBounds_toArray, List.set_cons_zero, List.set_cons_succ]
    refine wpAnyH_take (i := 7) (oi := { dst := Option.some 14, op := Op.load 24 (Operand.tmp 3), type := 24, pos := "law.go:258", after := #[{ on := 6, ground := Ground.guard }], guard := Option.some (6, false) }) (v := undef) rfl (by kernel_rfl) (by kernel_rfl) (by kernel_rfl) (fun _ _ _ h => h) (Or.inr ⟨by rfl, rfl⟩) hHeld ?_
    simp only [Act.put, List.setIfInBounds_toArray, List.set_cons_zero, List.set_cons_succ]
    refine wpAnyH_take (i := 8) (oi := { dst := Option.some 15, op := Op.call { callee := Callee.value (Operand.func 10), args := #[Operand.tmp 14], argTypes := #[24] }, type := 29, pos := "law.go:258", after := #[{ on := 7, ground := Ground.data }, { on := 6, ground := Ground.chain }, { on := 6, ground := Ground.guard }], guard := Option.some (6, false) }) (v := undef) rfl (by kernel_rfl) (by kernel_rfl) (by kernel_rfl) (fun _ _ _ h => h) (Or.inr ⟨by rfl, rfl⟩) hHeld ?_
    simp only [Act.put, List.setIfInBounds_toArray, List.set_cons_zero, List.set_cons_succ]
    refine wpAnyH_take (i := 9) (oi := { dst := Option.some 16, op := Op.move (Operand.tmp 1), type := 3, pos := "law.go:258", after := #[{ on := 6, ground := Ground.guard }], guard := Option.some (6, false) }) (v := undef) rfl (by kernel_rfl) (by kernel_rfl) (by kernel_rfl) (fun _ _ _ h => h) (Or.inr ⟨by rfl, rfl⟩) hHeld ?_
    simp only [Act.put, List.setIfInBounds_toArray, List.set_cons_zero, List.set_cons_succ]
    refine wpAnyH_take (i := 10) (oi := { dst := Option.some 17, op := Op.move (Operand.tmp 2), type := 3, pos := "law.go:258", after := #[{ on := 6, ground := Ground.guard }], guard := Option.some (6, false) }) (v := undef) rfl (by kernel_rfl) (by kernel_rfl) (by kernel_rfl) (fun _ _ _ h => h) (Or.inr ⟨by rfl, rfl⟩) hHeld ?_
    simp only [Act.put, List.setIfInBounds_toArray, List.set_cons_zero, List.set_cons_succ]
    refine wpAnyH_take (i := 11) (oi := { dst := Option.some 18, op := Op.call { callee := Callee.value (Operand.func 26), args := #[Operand.tmp 15, Operand.tmp 16, Operand.tmp 17], argTypes := #[29, 3, 3] }, type := 27, pos := "law.go:258", after := #[{ on := 8, ground := Ground.data }, { on := 9, ground := Ground.data }, { on := 10, ground := Ground.data }, { on := 8, ground := Ground.chain }, { on := 6, ground := Ground.guard }], guard := Option.some (6, false) }) (v := undef) rfl (by kernel_rfl) (by kernel_rfl) (by kernel_rfl) (fun _ _ _ h => h) (Or.inr ⟨by rfl, rfl⟩) hHeld ?_
    simp only [Act.put, List.setIfInBounds_toArray, List.set_cons_zero, List.set_cons_succ]
    refine wpAnyH_take (i := 12) (oi := { dst := Option.some 19, op := Op.load 24 (Operand.tmp 3), type := 24, pos := "law.go:258", after := #[{ on := 6, ground := Ground.guard }], guard := Option.some (6, false) }) (v := undef) rfl (by kernel_rfl) (by kernel_rfl) (by kernel_rfl) (fun _ _ _ h => h) (Or.inr ⟨by rfl, rfl⟩) hHeld ?_
    simp only [Act.put, List.setIfInBounds_toArray, List.set_cons_zero, List.set_cons_succ]
    refine wpAnyH_take (i := 13) (oi := { dst := Option.some 20, op := Op.move (Operand.tmp 1), type := 3, pos := "law.go:258", after := #[{ on := 6, ground := Ground.guard }], guard := Option.some (6, false) }) (v := undef) rfl (by kernel_rfl) (by kernel_rfl) (by kernel_rfl) (fun _ _ _ h => h) (Or.inr ⟨by rfl, rfl⟩) hHeld ?_
    simp only [Act.put, List.setIfInBounds_toArray, List.set_cons_zero, List.set_cons_succ]
    refine wpAnyH_take (i := 14) (oi := { dst := Option.some 21, op := Op.move (Operand.tmp 2), type := 3, pos := "law.go:258", after := #[{ on := 6, ground := Ground.guard }], guard := Option.some (6, false) }) (v := undef) rfl (by kernel_rfl) (by kernel_rfl) (by kernel_rfl) (fun _ _ _ h => h) (Or.inr ⟨by rfl, rfl⟩) hHeld ?_
    simp only [Act.put, List.setIfInBounds_toArray, List.set_cons_zero, List.set_cons_succ]
    refine wpAnyH_take (i := 15) (oi := { dst := Option.some 22, op := Op.call { callee := Callee.value (Operand.func 27), args := #[Operand.tmp 19, Operand.tmp 20, Operand.tmp 21], argTypes := #[24, 3, 3] }, type := 22, pos := "law.go:258", after := #[{ on := 12, ground := Ground.data }, { on := 13, ground := Ground.data }, { on := 14, ground := Ground.data }, { on := 11, ground := Ground.chain }, { on := 6, ground := Ground.guard }], guard := Option.some (6, false) }) (v := undef) rfl (by kernel_rfl) (by kernel_rfl) (by kernel_rfl) (fun _ _ _ h => h) (Or.inr ⟨by rfl, rfl⟩) hHeld ?_
    simp only [Act.put, List.setIfInBounds_toArray, List.set_cons_zero, List.set_cons_succ]
    refine wpAnyH_take (i := 16) (oi := { dst := Option.some 23, op := Op.call { callee := Callee.value (Operand.func 25), args := #[Operand.tmp 18, Operand.tmp 22], argTypes := #[27, 22] }, type := 4, pos := "law.go:258", after := #[{ on := 11, ground := Ground.data }, { on := 15, ground := Ground.data }, { on := 15, ground := Ground.chain }, { on := 6, ground := Ground.guard }], guard := Option.some (6, false) }) (v := undef) rfl (by kernel_rfl) (by kernel_rfl) (by kernel_rfl) (fun _ _ _ h => h) (Or.inr ⟨by rfl, rfl⟩) hHeld ?_
    simp only [Act.put, List.setIfInBounds_toArray, List.set_cons_zero, List.set_cons_succ]
    refine wpAnyH_take (i := 17) (oi := { dst := Option.some 24, op := Op.move (Operand.tmp 23), type := 4, pos := "law.go:258", after := #[{ on := 16, ground := Ground.data }, { on := 16, ground := Ground.chain }, { on := 6, ground := Ground.guard }], guard := Option.some (6, false) }) (v := undef) rfl (by kernel_rfl) (by kernel_rfl) (by kernel_rfl) (fun _ _ _ h => h) (Or.inr ⟨by rfl, rfl⟩) hHeld ?_
    simp only [Act.put, List.setIfInBounds_toArray, List.set_cons_zero, List.set_cons_succ]
    refine wpAnyH_take (i := 18) (oi := { dst := Option.some 25, op := Op.call { callee := Callee.value (Operand.func 9), args := #[], argTypes := #[] }, type := 4, pos := "law.go:258", after := #[{ on := 17, ground := Ground.chain }, { on := 17, ground := Ground.guard }], guard := Option.some (17, true) }) (v := undef) rfl (by kernel_rfl) (by kernel_rfl) (by kernel_rfl) (fun _ _ _ h => h) (Or.inr ⟨by rfl, rfl⟩) hHeld ?_
    simp only [Act.put, List.setIfInBounds_toArray, List.set_cons_zero, List.set_cons_succ]
    refine wpAnyH_take (i := 19) (oi := { dst := Option.some 26, op := Op.pick (Operand.tmp 24) (Operand.tmp 25) (Operand.const (Value.bool false)), type := 4, pos := "law.go:258", after := #[{ on := 17, ground := Ground.data }, { on := 18, ground := Ground.data }, { on := 6, ground := Ground.guard }], guard := Option.some (6, false) }) (v := undef) rfl (by kernel_rfl) (by kernel_rfl) (by kernel_rfl) (fun _ _ _ h => h) (Or.inr ⟨by rfl, rfl⟩) hHeld ?_
    simp only [Act.put, List.setIfInBounds_toArray, List.set_cons_zero, List.set_cons_succ]
    refine wpAnyH_take (i := 20) (oi := { dst := Option.some 27, op := Op.pick (Operand.tmp 13) (Operand.const (Value.bool true)) (Operand.tmp 26), type := 4, pos := "law.go:258", after := #[{ on := 6, ground := Ground.data }, { on := 19, ground := Ground.data }], guard := Option.none }) (v := .bool true) rfl (by kernel_rfl) (by kernel_rfl) (by kernel_rfl) (fun _ _ _ h => h) (Or.inl ⟨by rfl, ?_⟩) hHeld ?_
    · intro W hSw
      go_simp
    simp only [Act.put, List.setIfInBounds_toArray, List.set_cons_zero, List.set_cons_succ]
    refine wpAnyH_take (i := 21) (oi := { dst := Option.some 6, op := Op.assign (Operand.tmp 27), type := 4, pos := "law.go:258", after := #[{ on := 20, ground := Ground.data }, { on := 18, ground := Ground.chain }, { on := 0, ground := Ground.phase }, { on := 1, ground := Ground.phase }, { on := 2, ground := Ground.phase }, { on := 3, ground := Ground.phase }, { on := 4, ground := Ground.phase }, { on := 5, ground := Ground.phase }, { on := 6, ground := Ground.phase }, { on := 7, ground := Ground.phase }, { on := 8, ground := Ground.phase }, { on := 9, ground := Ground.phase }, { on := 10, ground := Ground.phase }, { on := 11, ground := Ground.phase }, { on := 12, ground := Ground.phase }, { on := 13, ground := Ground.phase }, { on := 14, ground := Ground.phase }, { on := 15, ground := Ground.phase }, { on := 16, ground := Ground.phase }, { on := 17, ground := Ground.phase }, { on := 18, ground := Ground.phase }, { on := 19, ground := Ground.phase }, { on := 20, ground := Ground.phase }], guard := Option.none }) (v := .bool true) rfl (by kernel_rfl) (by kernel_rfl) (by kernel_rfl) (fun _ _ _ h => h) (Or.inl ⟨by rfl, ?_⟩) hHeld ?_
    · intro W hSw
      go_simp
    simp only [Act.put, List.setIfInBounds_toArray, List.set_cons_zero, List.set_cons_succ]
    clear hHeld
    refine wpAnyH_done (by kernel_rfl) ?_ _
    go_wp2_with fail
    go_ret
    exact ⟨rfl, HE.out.1.trans (hb3.mono HE.out.1.size)⟩
  | false =>
    have HL := Lib.hid (HL.out W1.drew (hb1.trans (hd0.mono hb1.size)) false hlong.symm)
    have hsm := longE_small hlong
    have HG := Lib.hid (giveLog_any l A n c W1.drew (h.below (hb1.trans (hd0.mono hb1.size))) (small_more hsm (by omega) (by omega)))
    obtain ⟨r, hr⟩ : ∃ r, r = fromE l i t := ⟨_, rfl⟩
    obtain ⟨q, hq'⟩ : ∃ q, q = r.length := ⟨_, rfl⟩
    have HR := Lib.hid fun W (hW : Below w.heap.size w W) => From_any l A n c i t W (h.below hW) hi ht hk hm r hr
    have HP := Lib.hid fun A1 c1 W (hW : Ents W (.slice A1 n c1) l.l) => C.gFrom l A1 n c1 i t W hW hi ht (small_more hsm (by omega) (by omega)) hk hm r hr q hq'
    have hsr : SmallE 1000 100000 r := by rw [hr]; exact fromE_small (small_more hsm (by omega) (by omega)) i t
    have HEn := Lib.hid fun A1 c1 A2 c2 W (hg0 : StdG W) (h1 : Ents W (.slice A1 q c1) r) (h2 : Ents W (.slice A2 q c2) r) => entries_any C A1 q c1 r A2 q c2 r W hg0 h1 h2 hsr (small_more hsr (by omega) (by omega)) true (entriesE_refl r).symm
    simp only [← hq'] at HR
    clear h hi ht hk hm hd hlong hW1 hg hb1 hq hsz hcells hsm hr hsr hq'
    go_enter Tryd.func6, Tryd.ntmps6
    go_upto_region 1 with fail
    rw [← HW.out.1, ← HW.out.2]
    refine wp_region_held_drew (S := fun W => Below W1.heap.size W1 W) (by kernel_rfl) hd0 (fun hHeld => ?_)
    refine wpAnyH_take (i := 0) (oi := { dst := Option.some 7, op := Op.fieldAddr 24 (Operand.tmp 3) 2, type := 0, pos := "law.go:258", after := #[], guard := Option.none }) (v := .pointer (some ⟨g, 2, none⟩)) rfl (by kernel_rfl) (by kernel_rfl) (by kernel_rfl) (fun _ _ _ h => h) (Or.inl ⟨by rfl, ?_⟩) hHeld ?_
    · intro W hSw
      obtain ⟨z0, z1, z2⟩ := HCL.out _ hSw
      go_simp
    simp only [Act.put, List.setIfInBounds_toArray, List.set_cons_zero, List.set_cons_succ]
    refine wpAnyH_take (i := 1) (oi := { dst := Option.some 8, op := Op.load 22 (Operand.tmp 7), type := 22, pos := "law.go:258", after := #[{ on := 0, ground := Ground.data }], guard := Option.none }) (v := .slice A n c) rfl (by kernel_rfl) (by kernel_rfl) (by kernel_rfl) (fun _ _ _ h => h) (Or.inl ⟨by rfl, ?_⟩) hHeld ?_
    · intro W hSw
      obtain ⟨z0, z1, z2⟩ := HCL.out _ hSw
      go_simp
    simp only [Act.put, List.setIfInBounds_toArray, List.set_cons_zero, List.set_cons_succ]
    refine wpAnyH_ready (rs := [2]) (by kernel_rfl) (by simp) ?_
    refine AllReadyH.cons (o := { dst := Option.some 9, op := Op.call { callee := Callee.value (Operand.func 8), args := #[Operand.tmp 8], argTypes := #[22] }, type := 4, pos := "law.go:258", after := #[{ on := 1, ground := Ground.data }], guard := Option.none }) rfl (fun K hK => ?_) AllReadyH.nil
    go_simp
    refine HL.out.mono ?_
    rintro y w1 ⟨rfl, rfl⟩
    refine hK.out _ _ hd0 (fun hHeld2 => ?_)
    clear hK K hHeld
    have hHeld := hHeld2
    clear hHeld2
    refine wpAnyH_take (i := 3) (oi := { dst := Option.some 10, op := Op.move (Operand.tmp 9), type := 4, pos := "law.go:258", after := #[{ on := 2, ground := Ground.data }, { on := 2, ground := Ground.chain }], guard := Option.none }) (v := .bool false) rfl (by kernel_rfl) (by kernel_rfl) (by kernel_rfl) (fun _ _ _ h => h) (Or.inl ⟨by rfl, ?_⟩) hHeld ?_
    · intro W hSw
      go_simp
    simp only [Act.put, List.setIfInBounds_toArray, List.set_cons_zero, List.set_cons_succ]
    refine wpAnyH_take (i := 4) (oi := { dst := Option.some 11, op := Op.call { callee := Callee.value (Operand.func 9), args := #[], argTypes := #[] }, type := 4, pos := "law.go:258", after := #[{ on := 3, ground := Ground.chain }, { on := 3, ground := Ground.guard }], guard := Option.some (3, true) }) (v := undef) rfl (by kernel_rfl) (by kernel_rfl) (by kernel_rfl) (fun _ _ _ h => h) (Or.inr ⟨by rfl, rfl⟩) hHeld ?_
    simp only [Act.put, List.setIfInBounds_toArray, List.set_cons_zero, List.set_cons_succ]
    refine wpAnyH_take (i := 5) (oi := { dst := Option.some 12, op := Op.pick (Operand.tmp 10) (Operand.tmp 11) (Operand.const (Value.bool false)), type := 4, pos := "law.go:258", after := #[{ on := 3, ground := Ground.data }, { on := 4, ground := Ground.data }], guard := Option.none }) (v := .bool false) rfl (by kernel_rfl) (by kernel_rfl) (by kernel_rfl) (fun _ _ _ h => h) (Or.inl ⟨by rfl, ?_⟩) hHeld ?_
    · intro W hSw
      go_simp
    simp only [Act.put, List.setIfInBounds_toArray, List.set_cons_zero, List.set_cons_succ]
    refine wpAnyH_take (i := 6) (oi := { dst := Option.some 13, op := Op.move (Operand.tmp 12), type := 4, pos := "law.go:258", after := #[{ on := 5, ground := Ground.data }, { on := 4, ground := Ground.chain }], guard := Option.none }) (v := .bool false) rfl (by kernel_rfl) (by kernel_rfl) (by kernel_rfl) (fun _ _ _ h => h) (Or.inl ⟨by rfl, ?_⟩) hHeld ?_
    · intro W hSw
      go_simp
    simp only [Act.put, List.setIfInBounds_toArray, List.set_cons_zero, List.set_cons_succ]
    refine wpAnyH_take (i := 7) (oi := { dst := Option.some 14, op := Op.load 24 (Operand.tmp 3), type := 24, pos := "law.go:258", after := #[{ on := 6, ground := Ground.guard }], guard := Option.some (6, false) }) (v := .agg #[.int .i64 l.base, .int .i64 l.term, .slice A n c]) rfl (by kernel_rfl) (by kernel_rfl) (by kernel_rfl) (fun _ _ _ h => h) (Or.inl ⟨by rfl, ?_⟩) hHeld ?_
    · intro W hSw
      obtain ⟨z0, z1, z2⟩ := HCL.out _ hSw
      go_simp
    simp only [Act.put, List.setIfInBounds_toArray, List.set_cons_zero, List.set_cons_succ]
    refine wpAnyH_take (i := 9) (oi := { dst := Option.some 16, op := Op.move (Operand.tmp 1), type := 3, pos := "law.go:258", after := #[{ on := 6, ground := Ground.guard }], guard := Option.some (6, false) }) (v := .int .i64 i) rfl (by kernel_rfl) (by kernel_rfl) (by kernel_rfl) (fun _ _ _ h => h) (Or.inl ⟨by rfl, ?_⟩) hHeld ?_
    · intro W hSw
      go_simp
    simp only [Act.put, List.setIfInBounds_toArray, List.set_cons_zero, List.set_cons_succ]
    refine wpAnyH_take (i := 10) (oi := { dst := Option.some 17, op := Op.move (Operand.tmp 2), type := 3, pos := "law.go:258", after := #[{ on := 6, ground := Ground.guard }], guard := Option.some (6, false) }) (v := .int .i64 t) rfl (by kernel_rfl) (by kernel_rfl) (by kernel_rfl) (fun _ _ _ h => h) (Or.inl ⟨by rfl, ?_⟩) hHeld ?_
    · intro W hSw
      go_simp
    simp only [Act.put, List.setIfInBounds_toArray, List.set_cons_zero, List.set_cons_succ]
    refine wpAnyH_take (i := 12) (oi := { dst := Option.some 19, op := Op.load 24 (Operand.tmp 3), type := 24, pos := "law.go:258", after := #[{ on := 6, ground := Ground.guard }], guard := Option.some (6, false) }) (v := .agg #[.int .i64 l.base, .int .i64 l.term, .slice A n c]) rfl (by kernel_rfl) (by kernel_rfl) (by kernel_rfl) (fun _ _ _ h => h) (Or.inl ⟨by rfl, ?_⟩) hHeld ?_
    · intro W hSw
      obtain ⟨z0, z1, z2⟩ := HCL.out _ hSw
      go_simp
    simp only [Act.put, List.setIfInBounds_toArray, List.set_cons_zero, List.set_cons_succ]
    refine wpAnyH_take (i := 13) (oi := { dst := Option.some 20, op := Op.move (Operand.tmp 1), type := 3, pos := "law.go:258", after := #[{ on := 6, ground := Ground.guard }], guard := Option.some (6, false) }) (v := .int .i64 i) rfl (by kernel_rfl) (by kernel_rfl) (by kernel_rfl) (fun _ _ _ h => h) (Or.inl ⟨by rfl, ?_⟩) hHeld ?_
    · intro W hSw
      go_simp
    simp only [Act.put, List.setIfInBounds_toArray, List.set_cons_zero, List.set_cons_succ]
    refine wpAnyH_take (i := 14) (oi := { dst := Option.some 21, op := Op.move (Operand.tmp 2), type := 3, pos := "law.go:258", after := #[{ on := 6, ground := Ground.guard }], guard := Option.some (6, false) }) (v := .int .i64 t) rfl (by kernel_rfl) (by kernel_rfl) (by kernel_rfl) (fun _ _ _ h => h) (Or.inl ⟨by rfl, ?_⟩) hHeld ?_
    · intro W hSw
      go_simp
    simp only [Act.put, List.setIfInBounds_toArray, List.set_cons_zero, List.set_cons_succ]
    refine wpAnyH_ready (rs := [8]) (by kernel_rfl) (by simp) ?_
    refine AllReadyH.cons (o := { dst := Option.some 15, op := Op.call { callee := Callee.value (Operand.func 10), args := #[Operand.tmp 14], argTypes := #[24] }, type := 29, pos := "law.go:258", after := #[{ on := 7, ground := Ground.data }, { on := 6, ground := Ground.chain }, { on := 6, ground := Ground.guard }], guard := Option.some (6, false) }) rfl (fun K hK => ?_) AllReadyH.nil
    go_simp
    refine HG.out.mono ?_
    rintro y w2 ⟨A1, c1, rfl, hi2, hb2⟩
    have hb2 : Below W1.heap.size W1 w2 := hd0.trans hb2
    refine hK.out _ _ hb2 (fun hHeld2 => ?_)
    clear hK K hHeld
    have hHeld := hHeld2
    clear hHeld2
    have H2 := Lib.hid (And.intro hi2 hb2)
    clear hi2 hb2
    refine wpAnyH_ready (rs := [11]) (by kernel_rfl) (by simp) ?_
    refine AllReadyH.cons (o := { dst := Option.some 18, op := Op.call { callee := Callee.value (Operand.func 26), args := #[Operand.tmp 15, Operand.tmp 16, Operand.tmp 17], argTypes := #[29, 3, 3] }, type := 27, pos := "law.go:258", after := #[{ on := 8, ground := Ground.data }, { on := 9, ground := Ground.data }, { on := 10, ground := Ground.data }, { on := 8, ground := Ground.chain }, { on := 6, ground := Ground.guard }], guard := Option.some (6, false) }) rfl (fun K hK => ?_) AllReadyH.nil
    go_simp
    refine (HP.out _ _ _ H2.out.1).mono ?_
    rintro y w3 ⟨A3, c3, rfl, hi3, hb3⟩
    have hb3 : Below W1.heap.size W1 w3 := H2.out.2.trans (hb3.mono H2.out.2.size)
    refine hK.out _ _ hb3 (fun hHeld2 => ?_)
    clear hK K hHeld
    have hHeld := hHeld2
    clear hHeld2
    have H3 := Lib.hid (And.intro hi3 hb3)
    clear hi3 hb3
    refine wpAnyH_ready (rs := [15]) (by kernel_rfl) (by simp) ?_
    refine AllReadyH.cons (o := { dst := Option.some 22, op := Op.call { callee := Callee.value (Operand.func 27), args := #[Operand.tmp 19, Operand.tmp 20, Operand.tmp 21], argTypes := #[24, 3, 3] }, type := 22, pos := "law.go:258", after := #[{ on := 12, ground := Ground.data }, { on := 13, ground := Ground.data }, { on := 14, ground := Ground.data }, { on := 11, ground := Ground.chain }, { on := 6, ground := Ground.guard }], guard := Option.some (6, false) }) rfl (fun K hK => ?_) AllReadyH.nil
    go_simp
    refine (HR.out _ (HE.out.1.trans (H3.out.2.mono HE.out.1.size))).mono ?_
    rintro y w4 ⟨A4, c4, rfl, hi4, hb4⟩
    have H34 := Lib.hid (H3.out.1.below hb4)
    have hb4 : Below W1.heap.size W1 w4 := H3.out.2.trans (hb4.mono H3.out.2.size)
    refine hK.out _ _ hb4 (fun hHeld2 => ?_)
    clear hK K hHeld
    have hHeld := hHeld2
    clear hHeld2
    have H4 := Lib.hid (And.intro hi4 hb4)
    clear hi4 hb4
    refine wpAnyH_ready (rs := [16]) (by kernel_rfl) (by simp) ?_
    refine AllReadyH.cons (o := { dst := Option.some 23, op := Op.call { callee := Callee.value (Operand.func 25), args := #[Operand.tmp 18, Operand.tmp 22], argTypes := #[27, 22] }, type := 4, pos := "law.go:258", after := #[{ on := 11, ground := Ground.data }, { on := 15, ground := Ground.data }, { on := 15, ground := Ground.chain }, { on := 6, ground := Ground.guard }], guard := Option.some (6, false) }) rfl (fun K hK => ?_) AllReadyH.nil
    go_simp
    refine (HEn.out _ _ _ _ _ (hG.below (HE.out.1.trans (H4.out.2.mono HE.out.1.size))) H34.out H4.out.1).mono ?_
    rintro y w6 ⟨rfl, hb6⟩
    have hb6 : Below W1.heap.size W1 w6 := H4.out.2.trans (hb6.mono H4.out.2.size)
    refine hK.out _ _ hb6 (fun hHeld2 => ?_)
    clear hK K hHeld
    have hHeld := hHeld2
    clear hHeld2
    have H6 := Lib.hid hb6
    clear hb6
    refine wpAnyH_take (i := 17) (oi := { dst := Option.some 24, op := Op.move (Operand.tmp 23), type := 4, pos := "law.go:258", after := #[{ on := 16, ground := Ground.data }, { on := 16, ground := Ground.chain }, { on := 6, ground := Ground.guard }], guard := Option.some (6, false) }) (v := .bool true) rfl (by kernel_rfl) (by kernel_rfl) (by kernel_rfl) (fun _ _ _ h => h) (Or.inl ⟨by rfl, ?_⟩) hHeld ?_
    · intro W hSw
      go_simp
    simp only [Act.put, List.setIfInBounds_toArray, List.set_cons_zero, List.set_cons_succ]
    refine wpAnyH_ready (rs := [18]) (by kernel_rfl) (by simp) ?_
    refine AllReadyH.cons (o := { dst := Option.some 25, op := Op.call { callee := Callee.value (Operand.func 9), args := #[], argTypes := #[] }, type := 4, pos := "law.go:258", after := #[{ on := 17, ground := Ground.chain }, { on := 17, ground := Ground.guard }], guard := Option.some (17, true) }) rfl (fun K hK => ?_) AllReadyH.nil
    go_simp
    refine (sureG C _).mono ?_
    rintro y w5 ⟨rfl, hb5⟩
    have hb5 : Below W1.heap.size W1 w5 := H6.out.trans (hb5.mono H6.out.size)
    refine hK.out _ _ hb5 (fun hHeld2 => ?_)
    clear hK K hHeld
    have hHeld := hHeld2
    clear hHeld2
    refine wpAnyH_take (i := 19) (oi := { dst := Option.some 26, op := Op.pick (Operand.tmp 24) (Operand.tmp 25) (Operand.const (Value.bool false)), type := 4, pos := "law.go:258", after := #[{ on := 17, ground := Ground.data }, { on := 18, ground := Ground.data }, { on := 6, ground := Ground.guard }], guard := Option.some (6, false) }) (v := .bool true) rfl (by kernel_rfl) (by kernel_rfl) (by kernel_rfl) (fun _ _ _ h => h) (Or.inl ⟨by rfl, ?_⟩) hHeld ?_
    · intro W hSw
      go_simp
    simp only [Act.put, List.setIfInBounds_toArray, List.set_cons_zero, List.set_cons_succ]
    refine wpAnyH_take (i := 20) (oi := { dst := Option.some 27, op := Op.pick (Operand.tmp 13) (Operand.const (Value.bool true)) (Operand.tmp 26), type := 4, pos := "law.go:258", after := #[{ on := 6, ground := Ground.data }, { on := 19, ground := Ground.data }], guard := Option.none }) (v := .bool true) rfl (by kernel_rfl) (by kernel_rfl) (by kernel_rfl) (fun _ _ _ h => h) (Or.inl ⟨by rfl, ?_⟩) hHeld ?_
    · intro W hSw
      go_simp
    simp only [Act.put, List.setIfInBounds_toArray, List.set_cons_zero, List.set_cons_succ]
    refine wpAnyH_take (i := 21) (oi := { dst := Option.some 6, op := Op.assign (Operand.tmp 27), type := 4, pos := "law.go:258", after := #[{ on := 20, ground := Ground.data }, { on := 18, ground := Ground.chain }, { on := 0, ground := Ground.phase }, { on := 1, ground := Ground.phase }, { on := 2, ground := Ground.phase }, { on := 3, ground := Ground.phase }, { on := 4, ground := Ground.phase }, { on := 5, ground := Ground.phase }, { on := 6, ground := Ground.phase }, { on := 7, ground := Ground.phase }, { on := 8, ground := Ground.phase }, { on := 9, ground := Ground.phase }, { on := 10, ground := Ground.phase }, { on := 11, ground := Ground.phase }, { on := 12, ground := Ground.phase }, { on := 13, ground := Ground.phase }, { on := 14, ground := Ground.phase }, { on := 15, ground := Ground.phase }, { on := 16, ground := Ground.phase }, { on := 17, ground := Ground.phase }, { on := 18, ground := Ground.phase }, { on := 19, ground := Ground.phase }, { on := 20, ground := Ground.phase }], guard := Option.none }) (v := .bool true) rfl (by kernel_rfl) (by kernel_rfl) (by kernel_rfl) (fun _ _ _ h => h) (Or.inl ⟨by rfl, ?_⟩) hHeld ?_
    · intro W hSw
      go_simp
    simp only [Act.put, List.setIfInBounds_toArray, List.set_cons_zero, List.set_cons_succ]
    clear hHeld
    refine wpAnyH_done (by kernel_rfl) ?_ _
    go_wp2_with fail
    go_ret
    exact ⟨rfl, HE.out.1.trans (hb5.mono HE.out.1.size)⟩

end Go.Proofs.YtlngcfaadfkbnaaDoor.pk
