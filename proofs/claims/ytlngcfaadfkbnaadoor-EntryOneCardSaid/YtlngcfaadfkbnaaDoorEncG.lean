/-
  The program's own bytes of an entry, where it lays Index, Term and Kind by Uint and the data by Bytes, one call behind the other in one statement.
-/
import Derived.Test.YtlngcfaadfkbnaaDoorWrG
import Derived.Test.YtlngcfaadfkbnaaDoorConG
namespace Go.Proofs.YtlngcfaadfkbnaaDoor.pk
open Go Go.RowKit
set_option maxRecDepth 100000

set_option maxHeartbeats 4000000 in
theorem Encode_any (e : En) (A : Option Addr) (n c : Nat) (w : World) (hs : StdG w) (h : Bys w (.slice A n c) e.data) (hn : n ≤ 100000) (m : Nat) (hm : m = (encE e).length) :
    Calls Tryd.prog 20 #[.agg #[.int .i64 e.index, .int .i64 e.term, .int .i64 e.kind, .slice A n c]] w fun x w' => ∃ A1 c1, x = .returned (.slice A1 m c1) ∧ Bys w' (.slice A1 m c1) (encE e) ∧ Below w.heap.size w w' := by
  obtain ⟨W1, g, hW1, hg, hb1, hq, hsz⟩ := one_box w (.cells #[.int .i64 e.index, .int .i64 e.term, .int .i64 e.kind, .slice A n c] 41)
  have hln := h.len_
  have HW := Lib.hid (And.intro hW1 hg)
  have HE := Lib.hid (And.intro hb1 hq)
  obtain ⟨u0, hu0⟩ : ∃ u, u = u64 e.index := ⟨_, rfl⟩
  obtain ⟨u1, hu1⟩ : ∃ u, u = u64 e.term := ⟨_, rfl⟩
  obtain ⟨u2, hu2⟩ : ∃ u, u = u64 e.kind := ⟨_, rfl⟩
  have k0 := wrap_u64 e.index
  have k1 := wrap_u64 e.term
  have k2 := wrap_u64 e.kind
  rw [← hu0] at k0
  rw [← hu1] at k1
  rw [← hu2] at k2
  have hl0 : u0 < 18446744073709551616 := by rw [hu0]; exact u64_lt _
  have hl1 : u1 < 18446744073709551616 := by rw [hu1]; exact u64_lt _
  have hl2 : u2 < 18446744073709551616 := by rw [hu2]; exact u64_lt _
  have hlen : ∀ u, u < 18446744073709551616 → (lUint u).length ≤ 22 := fun u hu => by have := decDigits_le u hu; unfold lUint; simp; omega
  obtain ⟨b1, hb1'⟩ : ∃ b, b = [] ++ lUint u0 := ⟨_, rfl⟩
  obtain ⟨b2, hb2'⟩ : ∃ b, b = b1 ++ lUint u1 := ⟨_, rfl⟩
  obtain ⟨b3, hb3'⟩ : ∃ b, b = b2 ++ lUint u2 := ⟨_, rfl⟩
  have hfin : encE e = b3 ++ lBytes e.data := by unfold encE; rw [hb3', hb2', hb1', ← hu0, ← hu1, ← hu2, List.nil_append]
  have hz1 : b1.length ≤ 22 := by rw [hb1', List.nil_append]; exact hlen _ hl0
  have hz2 : b2.length ≤ 44 := by rw [hb2', List.length_append]; have := hlen _ hl1; omega
  have hz3 : b3.length ≤ 66 := by rw [hb3', List.length_append]; have := hlen _ hl2; omega
  have hz4 : (encE e).length ≤ 140737488355328 := by rcases encE_len e with h | h <;> omega
  have hd0 : Below W1.heap.size W1 W1.drew := (Below.refl _ _).drew
  have hs0 : StdG W1.drew := hs.below (hb1.trans (hd0.mono hb1.size))
  obtain ⟨B, hB⟩ : ∃ B, B = W1.drew.heap.size := ⟨_, rfl⟩
  have hGB : 4 ≤ B := by rw [hB]; exact hs0.size
  have hBW : W1.heap.size = B := by rw [hB]; rfl
  have C0 := Lib.hid (New_any W1.drew)
  rw [← hB] at C0
  have C1 := Lib.hid fun v W hsW hw => Writer_Uint B B u0 hl0 v [] W hsW hGB hw (by simp)
  have C2 := Lib.hid fun v W hsW hw => Writer_Uint B B u1 hl1 v b1 W hsW hGB hw (by omega)
  have C3 := Lib.hid fun v W hsW hw => Writer_Uint B B u2 hl2 v b2 W hsW hGB hw (by omega)
  have C4 := Lib.hid fun v W hsW hw ht => Writer_Bytes B B A n c e.data B (Nat.le_refl _) v b3 W hsW hGB hw ht (by omega)
  have C5 := Lib.hid fun v W hw => Writer_Done B B v (encE e) W hw hz4
  rw [← hb1'] at C1
  rw [← hb2'] at C2
  rw [← hb3'] at C3
  rw [← hfin] at C4
  have HN := Lib.hid (And.intro h (And.intro hs (And.intro hm hBW)))
  have HS := Lib.hid fun W (hW : Below B W1 W) => hs.below (hb1.trans (hW.mono (by rw [← hBW]; exact hb1.size)))
  clear h hs hn hm hW1 hg hb1 hq hsz hu0 hu1 hu2 hl0 hl1 hl2 hlen hfin hz1 hz2 hz3 hz4 hb1' hb2' hb3' hs0 hB hGB hln
  rw [hBW] at hd0
  go_enter Tryd.func20, Tryd.ntmps20
  go_upto_region 1 with fail
  rw [← HW.out.1, ← HW.out.2]
  refine wp_region_held_drew (S := fun W => Below B W1 W) (by kernel_rfl) hd0 (fun hHeld => ?_)
  have HCL := Lib.hid fun W (hW : Below B W1 W) => cells4 ((hW.block g (by rw [← hBW]; exact obj_lt HE.out.2)).trans HE.out.2)
  clear hBW
  refine wpAnyH_take (i := 1) (oi := { dst := Option.some 4, op := Op.fieldAddr 41 (Operand.tmp 1) 0, type := 0, pos := "bytes.go:10", after := #[], guard := Option.none }) (v := .pointer (some ⟨g, 0, none⟩)) rfl (by kernel_rfl) (by kernel_rfl) (by kernel_rfl) (fun _ _ _ h => h) (Or.inl ⟨by rfl, ?_⟩) hHeld ?_
  · intro W hSw
    obtain ⟨z0, z1, z2, z3⟩ := HCL.out _ hSw
    go_simp
  simp only [Act.put, List.setIfInBounds_toArray, List.set_cons_zero, List.set_cons_succ]
  refine wpAnyH_take (i := 2) (oi := { dst := Option.some 5, op := Op.load 3 (Operand.tmp 4), type := 3, pos := "bytes.go:10", after := #[{ on := 1, ground := Ground.data }], guard := Option.none }) (v := .int .i64 e.index) rfl (by kernel_rfl) (by kernel_rfl) (by kernel_rfl) (fun _ _ _ h => h) (Or.inl ⟨by rfl, ?_⟩) hHeld ?_
  · intro W hSw
    obtain ⟨z0, z1, z2, z3⟩ := HCL.out _ hSw
    go_simp
  simp only [Act.put, List.setIfInBounds_toArray, List.set_cons_zero, List.set_cons_succ]
  refine wpAnyH_take (i := 3) (oi := { dst := Option.some 6, op := Op.convert 3 82 (Operand.tmp 5), type := 82, pos := "bytes.go:10", after := #[{ on := 2, ground := Ground.data }], guard := Option.none }) (v := .int .u64 (u0 : Int)) rfl (by kernel_rfl) (by kernel_rfl) (by kernel_rfl) (fun _ _ _ h => h) (Or.inl ⟨by rfl, ?_⟩) hHeld ?_
  · intro W hSw
    obtain ⟨z0, z1, z2, z3⟩ := HCL.out _ hSw
    go_simp
  simp only [Act.put, List.setIfInBounds_toArray, List.set_cons_zero, List.set_cons_succ]
  refine wpAnyH_take (i := 5) (oi := { dst := Option.some 8, op := Op.fieldAddr 41 (Operand.tmp 1) 1, type := 0, pos := "bytes.go:10", after := #[], guard := Option.none }) (v := .pointer (some ⟨g, 1, none⟩)) rfl (by kernel_rfl) (by kernel_rfl) (by kernel_rfl) (fun _ _ _ h => h) (Or.inl ⟨by rfl, ?_⟩) hHeld ?_
  · intro W hSw
    obtain ⟨z0, z1, z2, z3⟩ := HCL.out _ hSw
    go_simp
  simp only [Act.put, List.setIfInBounds_toArray, List.set_cons_zero, List.set_cons_succ]
  refine wpAnyH_take (i := 6) (oi := { dst := Option.some 9, op := Op.load 3 (Operand.tmp 8), type := 3, pos := "bytes.go:10", after := #[{ on := 5, ground := Ground.data }], guard := Option.none }) (v := .int .i64 e.term) rfl (by kernel_rfl) (by kernel_rfl) (by kernel_rfl) (fun _ _ _ h => h) (Or.inl ⟨by rfl, ?_⟩) hHeld ?_
  · intro W hSw
    obtain ⟨z0, z1, z2, z3⟩ := HCL.out _ hSw
    go_simp
  simp only [Act.put, List.setIfInBounds_toArray, List.set_cons_zero, List.set_cons_succ]
  refine wpAnyH_take (i := 7) (oi := { dst := Option.some 10, op := Op.convert 3 82 (Operand.tmp 9), type := 82, pos := "bytes.go:10", after := #[{ on := 6, ground := Ground.data }], guard := Option.none }) (v := .int .u64 (u1 : Int)) rfl (by kernel_rfl) (by kernel_rfl) (by kernel_rfl) (fun _ _ _ h => h) (Or.inl ⟨by rfl, ?_⟩) hHeld ?_
  · intro W hSw
    obtain ⟨z0, z1, z2, z3⟩ := HCL.out _ hSw
    go_simp
  simp only [Act.put, List.setIfInBounds_toArray, List.set_cons_zero, List.set_cons_succ]
  refine wpAnyH_take (i := 9) (oi := { dst := Option.some 12, op := Op.fieldAddr 41 (Operand.tmp 1) 2, type := 0, pos := "bytes.go:10", after := #[], guard := Option.none }) (v := .pointer (some ⟨g, 2, none⟩)) rfl (by kernel_rfl) (by kernel_rfl) (by kernel_rfl) (fun _ _ _ h => h) (Or.inl ⟨by rfl, ?_⟩) hHeld ?_
  · intro W hSw
    obtain ⟨z0, z1, z2, z3⟩ := HCL.out _ hSw
    go_simp
  simp only [Act.put, List.setIfInBounds_toArray, List.set_cons_zero, List.set_cons_succ]
  refine wpAnyH_take (i := 10) (oi := { dst := Option.some 13, op := Op.load 3 (Operand.tmp 12), type := 3, pos := "bytes.go:10", after := #[{ on := 9, ground := Ground.data }], guard := Option.none }) (v := .int .i64 e.kind) rfl (by kernel_rfl) (by kernel_rfl) (by kernel_rfl) (fun _ _ _ h => h) (Or.inl ⟨by rfl, ?_⟩) hHeld ?_
  · intro W hSw
    obtain ⟨z0, z1, z2, z3⟩ := HCL.out _ hSw
    go_simp
  simp only [Act.put, List.setIfInBounds_toArray, List.set_cons_zero, List.set_cons_succ]
  refine wpAnyH_take (i := 11) (oi := { dst := Option.some 14, op := Op.convert 3 82 (Operand.tmp 13), type := 82, pos := "bytes.go:10", after := #[{ on := 10, ground := Ground.data }], guard := Option.none }) (v := .int .u64 (u2 : Int)) rfl (by kernel_rfl) (by kernel_rfl) (by kernel_rfl) (fun _ _ _ h => h) (Or.inl ⟨by rfl, ?_⟩) hHeld ?_
  · intro W hSw
    obtain ⟨z0, z1, z2, z3⟩ := HCL.out _ hSw
    go_simp
  simp only [Act.put, List.setIfInBounds_toArray, List.set_cons_zero, List.set_cons_succ]
  refine wpAnyH_take (i := 13) (oi := { dst := Option.some 16, op := Op.fieldAddr 41 (Operand.tmp 1) 3, type := 0, pos := "bytes.go:10", after := #[], guard := Option.none }) (v := .pointer (some ⟨g, 3, none⟩)) rfl (by kernel_rfl) (by kernel_rfl) (by kernel_rfl) (fun _ _ _ h => h) (Or.inl ⟨by rfl, ?_⟩) hHeld ?_
  · intro W hSw
    obtain ⟨z0, z1, z2, z3⟩ := HCL.out _ hSw
    go_simp
  simp only [Act.put, List.setIfInBounds_toArray, List.set_cons_zero, List.set_cons_succ]
  refine wpAnyH_take (i := 14) (oi := { dst := Option.some 17, op := Op.load 39 (Operand.tmp 16), type := 39, pos := "bytes.go:10", after := #[{ on := 13, ground := Ground.data }], guard := Option.none }) (v := .slice A n c) rfl (by kernel_rfl) (by kernel_rfl) (by kernel_rfl) (fun _ _ _ h => h) (Or.inl ⟨by rfl, ?_⟩) hHeld ?_
  · intro W hSw
    obtain ⟨z0, z1, z2, z3⟩ := HCL.out _ hSw
    go_simp
  simp only [Act.put, List.setIfInBounds_toArray, List.set_cons_zero, List.set_cons_succ]
  clear k0 k1 k2
  refine wpAnyH_ready (rs := [0]) (by kernel_rfl) (by simp) ?_
  refine AllReadyH.cons (o := { dst := Option.some 3, op := Op.call { callee := Callee.value (Operand.func 40), args := #[], argTypes := #[] }, type := 79, pos := "bytes.go:10", after := #[], guard := Option.none }) rfl (fun K hK => ?_) AllReadyH.nil
  go_simp
  refine C0.out.mono ?_
  rintro y w1 ⟨rfl, hw1, hb⟩
  have hb : Below B W1 w1 := hd0.trans hb
  refine hK.out _ _ hb (fun hHeld2 => ?_)
  clear hK K hHeld
  have hHeld := hHeld2
  clear hHeld2
  have H1 := Lib.hid (And.intro hw1 hb)
  clear hw1 hb hd0
  refine wpAnyH_ready (rs := [4]) (by kernel_rfl) (by simp) ?_
  refine AllReadyH.cons (o := { dst := Option.some 7, op := Op.call { callee := Callee.value (Operand.func 41), args := #[Operand.tmp 3, Operand.tmp 6], argTypes := #[79, 82] }, type := 79, pos := "bytes.go:10", after := #[{ on := 0, ground := Ground.data }, { on := 3, ground := Ground.data }, { on := 0, ground := Ground.chain }], guard := Option.none }) rfl (fun K hK => ?_) AllReadyH.nil
  go_simp
  refine (C1.out _ _ (HS.out _ H1.out.2) H1.out.1).mono ?_
  rintro y w2 ⟨v2, rfl, hw2, hk2⟩
  have hb : Below B W1 w2 := H1.out.2.trans hk2.below
  refine hK.out _ _ hb (fun hHeld2 => ?_)
  clear hK K hHeld
  have hHeld := hHeld2
  clear hHeld2
  have H2 := Lib.hid (And.intro hw2 hb)
  clear hw2 hb hk2
  refine wpAnyH_ready (rs := [8]) (by kernel_rfl) (by simp) ?_
  refine AllReadyH.cons (o := { dst := Option.some 11, op := Op.call { callee := Callee.value (Operand.func 41), args := #[Operand.tmp 7, Operand.tmp 10], argTypes := #[79, 82] }, type := 79, pos := "bytes.go:10", after := #[{ on := 4, ground := Ground.data }, { on := 7, ground := Ground.data }, { on := 4, ground := Ground.chain }], guard := Option.none }) rfl (fun K hK => ?_) AllReadyH.nil
  go_simp
  refine (C2.out _ _ (HS.out _ H2.out.2) H2.out.1).mono ?_
  rintro y w3 ⟨v3, rfl, hw3, hk3⟩
  have hb : Below B W1 w3 := H2.out.2.trans hk3.below
  refine hK.out _ _ hb (fun hHeld2 => ?_)
  clear hK K hHeld
  have hHeld := hHeld2
  clear hHeld2
  have H3 := Lib.hid (And.intro hw3 hb)
  clear hw3 hb hk3
  refine wpAnyH_ready (rs := [12]) (by kernel_rfl) (by simp) ?_
  refine AllReadyH.cons (o := { dst := Option.some 15, op := Op.call { callee := Callee.value (Operand.func 41), args := #[Operand.tmp 11, Operand.tmp 14], argTypes := #[79, 82] }, type := 79, pos := "bytes.go:10", after := #[{ on := 8, ground := Ground.data }, { on := 11, ground := Ground.data }, { on := 8, ground := Ground.chain }], guard := Option.none }) rfl (fun K hK => ?_) AllReadyH.nil
  go_simp
  refine (C3.out _ _ (HS.out _ H3.out.2) H3.out.1).mono ?_
  rintro y w4 ⟨v4, rfl, hw4, hk4⟩
  have hb : Below B W1 w4 := H3.out.2.trans hk4.below
  refine hK.out _ _ hb (fun hHeld2 => ?_)
  clear hK K hHeld
  have hHeld := hHeld2
  clear hHeld2
  have H4 := Lib.hid (And.intro hw4 hb)
  clear hw4 hb hk4
  refine wpAnyH_ready (rs := [15]) (by kernel_rfl) (by simp) ?_
  refine AllReadyH.cons (o := { dst := Option.some 18, op := Op.call { callee := Callee.value (Operand.func 42), args := #[Operand.tmp 15, Operand.tmp 17], argTypes := #[79, 39] }, type := 79, pos := "bytes.go:10", after := #[{ on := 12, ground := Ground.data }, { on := 14, ground := Ground.data }, { on := 12, ground := Ground.chain }], guard := Option.none }) rfl (fun K hK => ?_) AllReadyH.nil
  go_simp
  refine (C4.out _ _ (HS.out _ H4.out.2) H4.out.1 (((HN.out.1.below HE.out.1).sl_.more (by rw [HN.out.2.2.2]; exact Nat.le_refl _)).below H4.out.2)).mono ?_
  rintro y w5 ⟨v5, rfl, hw5, hk5⟩
  have hb : Below B W1 w5 := H4.out.2.trans hk5.below
  refine hK.out _ _ hb (fun hHeld2 => ?_)
  clear hK K hHeld
  have hHeld := hHeld2
  clear hHeld2
  have H5 := Lib.hid (And.intro hw5 hb)
  clear hw5 hb hk5
  refine wpAnyH_ready (rs := [16]) (by kernel_rfl) (by simp) ?_
  refine AllReadyH.cons (o := { dst := Option.some 19, op := Op.call { callee := Callee.value (Operand.func 43), args := #[Operand.tmp 18], argTypes := #[79] }, type := 39, pos := "bytes.go:10", after := #[{ on := 15, ground := Ground.data }, { on := 15, ground := Ground.chain }], guard := Option.none }) rfl (fun K hK => ?_) AllReadyH.nil
  go_simp
  refine (C5.out _ _ H5.out.1).mono ?_
  rintro y w6 ⟨u, rfl, ho6, hb6⟩
  have hb : Below B W1 w6 := H5.out.2.trans (hb6.mono H5.out.1.hB)
  have hI := Bys.of_own ho6
  obtain ⟨A6, c6, rfl, -, -⟩ := hI.form
  rw [← HN.out.2.2.1] at hI ⊢
  refine hK.out _ _ hb (fun hHeld2 => ?_)
  clear hK K hHeld
  have hHeld := hHeld2
  clear hHeld2
  have H6 := Lib.hid (And.intro hI hb)
  clear hI hb ho6 hb6
  refine wpAnyH_take (i := 17) (oi := { dst := Option.some 2, op := Op.assign (Operand.tmp 19), type := 39, pos := "bytes.go:10", after := #[{ on := 16, ground := Ground.data }, { on := 16, ground := Ground.chain }, { on := 0, ground := Ground.phase }, { on := 1, ground := Ground.phase }, { on := 2, ground := Ground.phase }, { on := 3, ground := Ground.phase }, { on := 4, ground := Ground.phase }, { on := 5, ground := Ground.phase }, { on := 6, ground := Ground.phase }, { on := 7, ground := Ground.phase }, { on := 8, ground := Ground.phase }, { on := 9, ground := Ground.phase }, { on := 10, ground := Ground.phase }, { on := 11, ground := Ground.phase }, { on := 12, ground := Ground.phase }, { on := 13, ground := Ground.phase }, { on := 14, ground := Ground.phase }, { on := 15, ground := Ground.phase }, { on := 16, ground := Ground.phase }], guard := Option.none }) (v := .slice A6 m c6) rfl (by kernel_rfl) (by kernel_rfl) (by kernel_rfl) (fun _ _ _ h => h) (Or.inl ⟨by rfl, ?_⟩) hHeld ?_
  · intro W hSw
    go_simp
  simp only [Act.put, List.setIfInBounds_toArray, List.set_cons_zero, List.set_cons_succ]
  clear hHeld
  refine wpAnyH_done (by kernel_rfl) ?_ _
  go_wp2_with fail
  go_ret
  exact ⟨A6, c6, rfl, H6.out.1, HE.out.1.trans (H6.out.2.mono (by have := HN.out.2.2.2; have := HE.out.1.size; omega))⟩

end Go.Proofs.YtlngcfaadfkbnaaDoor.pk
