/-
  The law ReadLater, over the contracts.
-/
import Derived.Test.YtojejcafahighaaConQ
namespace Go.Proofs.Ytojejcafahighaa.pk
open Go Go.RowKit
set_option maxRecDepth 100000

def w64 (x : Int) : Nat := (x % 18446744073709551616).toNat
theorem wrap_w64 (x : Int) : IntKind.u64.wrap x = ((w64 x : Nat) : Int) := by rw [IntKind.wrap_u64]; unfold w64; omega
theorem cells3 {w : World} {b t : Nat} {v0 v1 v2 : Value} (h : w.heap[b]? = some (.cells #[v0, v1, v2] t (0, 0))) : w.cell? ⟨b, 0, none⟩ = some v0 ∧ w.cell? ⟨b, 1, none⟩ = some v1 ∧ w.cell? ⟨b, 2, none⟩ = some v2 := by
  refine ⟨?_, ?_, ?_⟩
  all_goals
    rw [cell_of_row w b _ _ _ (0, 0) h]
    rfl
theorem filter_more {α : Type} {p q : α → Bool} (h : ∀ x, p x = true → q x = true) : ∀ l : List α, (l.filter p).Sublist (l.filter q)
  | [] => List.Sublist.refl _
  | x :: l => by
    have ih := filter_more h l
    cases hp : p x with
    | true => rw [List.filter_cons_of_pos hp, List.filter_cons_of_pos (h x hp)]; exact ih.cons_cons x
    | false =>
      rw [List.filter_cons_of_neg (by rw [hp]; simp)]
      cases hq : q x with
      | true => rw [List.filter_cons_of_pos hq]; exact ih.cons x
      | false => rw [List.filter_cons_of_neg (by rw [hq]; simp)]; exact ih
/-- What comes out by a round and an index comes out by greater ones. -/
theorem take_more (lim : Int) (l : List It) (t : Int) {h a h' a' : Int} (hh : h ≤ h') (ha : a ≤ a') : ((takeQ lim l (hitQ t h a false)).2.2).Sublist (takeQ lim l (hitQ t h' a' false)).2.2 := by
  unfold takeQ
  split
  · exact List.Sublist.refl _
  · refine List.Sublist.map _ (filter_more (fun x hx => ?_) l)
    unfold hitQ at hx ⊢
    simp only [Bool.false_and, Bool.not_false, Bool.true_and, Bool.false_or, Bool.and_eq_true, decide_eq_true_eq] at hx ⊢
    exact ⟨⟨hx.1.1, by omega⟩, by omega⟩
theorem sub_step {a b : List Int} {k i : Nat} (hk : k < a.length) (hi : i < b.length) (h : (a.drop k).Sublist (b.drop i)) : (b.getD i 0 = a.getD k 0 → (a.drop (k + 1)).Sublist (b.drop (i + 1))) ∧ (b.getD i 0 ≠ a.getD k 0 → (a.drop k).Sublist (b.drop (i + 1))) := by
  rw [List.drop_eq_getElem_cons hk, List.drop_eq_getElem_cons hi] at h
  have e1 : a.getD k 0 = a[k] := by simp [List.getD, List.getElem?_eq_getElem hk]
  have e2 : b.getD i 0 = b[i] := by simp [List.getD, List.getElem?_eq_getElem hi]
  rw [e1, e2]
  refine ⟨fun e => ?_, fun e => ?_⟩
  · rw [e] at h
    exact List.cons_sublist_cons.1 h
  · rw [List.drop_eq_getElem_cons hk]
    rcases List.sublist_cons_iff.1 h with h | ⟨r, h1, h2⟩
    · exact h
    · injection h1 with h1 _
      exact absurd h1.symm e
theorem sub_end {a b : List Int} {k i : Nat} (hk : k ≤ a.length) (hi : b.length ≤ i) (h : (a.drop k).Sublist (b.drop i)) : k = a.length := by
  rw [List.drop_eq_nil_of_le hi] at h
  have := List.length_drop (i := k) (l := a)
  rw [List.sublist_nil.1 h] at this
  simp at this
  omega

set_option maxHeartbeats 16000000 in
theorem later_true (C : ConQ) (lim : Int) (l : List It) (A : Option Addr) (n c : Nat) (o0 o1 o2 b0 b1 : Int) (w : World) (h : Its w (.slice A n c) l) (hi : inI lim) (ho1 : inI o1) (ho2 : inI o2) :
    Calls Try.prog 5 #[.agg #[.int .i64 lim, .slice A n c], .agg #[.int .i64 o0, .int .i64 o1, .int .i64 o2], .agg #[.int .i64 b0, .int .i64 b1]] w fun y w' => y = .returned (.bool true) ∧ Below w.heap.size w w' := by
  obtain ⟨W1, g, g3, g4, hW1, hg, hg3, hg4, hbw, hq, hq3, hq4, hsz1⟩ := three_box w (.cells #[.int .i64 lim, .slice A n c] 42) (.cells #[.int .i64 o0, .int .i64 o1, .int .i64 o2] 37) (.cells #[.int .i64 b0, .int .i64 b1] 48)
  have HW := Lib.hid (And.intro hW1 (And.intro hg (And.intro hg3 hg4)))
  have HE := Lib.hid hbw
  obtain ⟨hn, hnc, hcm⟩ := h.len_
  have HI := Lib.hid (And.intro (h.below hbw) hn)
  have HCL := Lib.hid (show ∀ W, Below W1.heap.size W1 W → (W.cell? ⟨g, 0, none⟩ = some (.int .i64 lim) ∧ W.cell? ⟨g, 1, none⟩ = some (.slice A n c)) ∧ (W.cell? ⟨g3, 0, none⟩ = some (.int .i64 o0) ∧ W.cell? ⟨g3, 1, none⟩ = some (.int .i64 o1) ∧ W.cell? ⟨g3, 2, none⟩ = some (.int .i64 o2)) ∧ (W.cell? ⟨g4, 0, none⟩ = some (.int .i64 b0) ∧ W.cell? ⟨g4, 1, none⟩ = some (.int .i64 b1)) from fun W hW => ⟨cells2 ((hW.block g (obj_lt hq)).trans hq), cells3 ((hW.block g3 (obj_lt hq3)).trans hq3), cells2 ((hW.block g4 (obj_lt hq4)).trans hq4)⟩)
  obtain ⟨⟨x0, x1⟩, ⟨y0, y1, y2⟩, -⟩ := HCL.out W1 (Below.refl _ _)
  have in1 : (n : Int) ≤ 9223372036854775807 := by omega
  have CS := Lib.hid fun W => sureQ C W
  by_cases hbig : 200 < (n : Int) ∨ 1125899906842624 < o1 ∨ 1125899906842624 < o2
  · have hbig2 : 200 < (n : Int) ∨ (¬ 200 < (n : Int) ∧ 1125899906842624 < o1) ∨ (¬ 200 < (n : Int) ∧ ¬ 1125899906842624 < o1 ∧ 1125899906842624 < o2) := by omega
    clear h hW1 hg hg3 hg4 hbw hq hq3 hq4 hsz1 hn hnc hcm hbig
    rcases hbig2 with hb0 | ⟨hb0, hb1⟩ | ⟨hb0, hb1, hb2⟩
    all_goals
      go_enter Try.func5, Try.ntmps5
      go_upto_region 1 with fail
      rw [← HW.out.1, ← HW.out.2.1, ← HW.out.2.2.1, ← HW.out.2.2.2]
      go_wp2_with (go_at_call 9; go_must (refine (CS.out _).mono ?_; rintro y w1 ⟨rfl, hb1⟩; have HB := Lib.hid (HE.out.trans (hb1.mono HE.out.size)); clear hb1))
      go_ret
      exact ⟨rfl, HB.out⟩
  · have hb0 : ¬ 200 < (n : Int) := by omega
    have hb1 : ¬ 1125899906842624 < o1 := by omega
    have hb2 : ¬ 1125899906842624 < o2 := by omega
    have hl : l.length ≤ 200 := by omega
    obtain ⟨u0, hu0⟩ : ∃ u, u = w64 b0 := ⟨_, rfl⟩
    obtain ⟨u1, hu1⟩ : ∃ u, u = w64 b1 := ⟨_, rfl⟩
    obtain ⟨d0, hd0⟩ : ∃ d, d = u0 % 9 := ⟨_, rfl⟩
    obtain ⟨d1, hd1⟩ : ∃ d, d = u1 % 9 := ⟨_, rfl⟩
    have k0 : IntKind.u64.wrap b0 = (u0 : Int) := by rw [hu0]; exact wrap_w64 b0
    have k1 : IntKind.u64.wrap b1 = (u1 : Int) := by rw [hu1]; exact wrap_w64 b1
    have kt0 : ((u0 : Nat) : Int).tmod 9 = (d0 : Int) := by rw [hd0, Int.tmod_eq_emod_of_nonneg (by omega)]; rfl
    have kt1 : ((u1 : Nat) : Int).tmod 9 = (d1 : Int) := by rw [hd1, Int.tmod_eq_emod_of_nonneg (by omega)]; rfl
    have ke0 : ((u0 : Nat) : Int) % 9 = (d0 : Int) := by rw [hd0]; rfl
    have ke1 : ((u1 : Nat) : Int) % 9 = (d1 : Int) := by rw [hd1]; rfl
    have ki0 : IntKind.i64.wrap (d0 : Int) = (d0 : Int) := IntWalk.i64_in _ (by omega)
    have ki1 : IntKind.i64.wrap (d1 : Int) = (d1 : Int) := IntWalk.i64_in _ (by omega)
    obtain ⟨p1, hp1⟩ : ∃ p, p = o1 + (d0 : Int) := ⟨_, rfl⟩
    obtain ⟨p2, hp2⟩ : ∃ p, p = o2 + (d1 : Int) := ⟨_, rfl⟩
    have ka0 : IntKind.i64.wrap (o1 + (d0 : Int)) = p1 := by have := ho1.1; have := ho1.2; rw [hp1]; exact IntWalk.i64_in _ (by omega)
    have ka1 : IntKind.i64.wrap (o2 + (d1 : Int)) = p2 := by have := ho2.1; have := ho2.2; rw [hp2]; exact IntWalk.i64_in _ (by omega)
    have hsub := take_more lim l o0 (h := o1) (a := o2) (h' := p1) (a' := p2) (by omega) (by omega)
    rcases hra : takeQ lim l (hitQ o0 o1 o2 false) with ⟨qa, la, za⟩
    rcases hrb : takeQ lim l (hitQ o0 p1 p2 false) with ⟨qb, lb, zb⟩
    rw [hra, hrb] at hsub
    obtain ⟨ma, hma⟩ : ∃ m, m = la.length := ⟨_, rfl⟩
    obtain ⟨mb, hmb⟩ : ∃ m, m = lb.length := ⟨_, rfl⟩
    obtain ⟨na, hna⟩ : ∃ m, m = za.length := ⟨_, rfl⟩
    obtain ⟨nb, hnb⟩ : ∃ m, m = zb.length := ⟨_, rfl⟩
    have CG := Lib.hid fun W (hW : Below W1.heap.size W1 W) => give_any lim l A n c W (HI.out.1.below hW) (by omega)
    have CIa := Lib.hid fun A' c' W (h : Its W (.slice A' n c') l) => C.takeI h hi (by omega) _ hra.symm ma na hma hna
    have CNa := Lib.hid fun A' c' W g (h : NIts W g (.slice A' n c') l) (hg : g < W.heap.size) => C.takeN h hg hi (by omega) _ hra.symm ma na hma hna
    have CIb := Lib.hid fun A' c' W (h : Its W (.slice A' n c') l) => C.takeI h hi (by omega) _ hrb.symm mb nb hmb hnb
    have CNb := Lib.hid fun A' c' W g (h : NIts W g (.slice A' n c') l) (hg : g < W.heap.size) => C.takeN h hg hi (by omega) _ hrb.symm mb nb hmb hnb
    have HSUB := Lib.hid (And.intro hsub (And.intro hna hnb))
    clear h hW1 hg hg3 hg4 hbw hq hq3 hq4 hsz1 hn hnc hcm hbig hl hu0 hu1 hd0 hd1 hp1 hp2 hsub hra hrb hma hmb hna hnb ho1 ho2
    go_enter Try.func5, Try.ntmps5
    go_upto_region 1 with fail
    rw [← HW.out.1, ← HW.out.2.1, ← HW.out.2.2.1, ← HW.out.2.2.2]
    go_upto_region 3 with fail
    go_cut [7, 8] (fun s7 s8 W => ∃ (gx : Nat) (A2 : Option Addr) (c2 : Nat) (V : World), V = W ∧ s7 = .pointer (some ⟨gx, 0, none⟩) ∧ s8 = .slice A2 na c2 ∧ Below W1.heap.size W1 V ∧ Ints V (.slice A2 na c2) za)
    case first =>
      clear x0 x1 y0 y1 y2
      have hd0 : Below W1.heap.size W1 W1.drew := (Below.refl _ _).drew
      refine wp_region_held_drew (S := fun W => Below W1.heap.size W1 W) (by kernel_rfl) hd0 (fun hHeld => ?_)
      obtain ⟨v0, hv0⟩ : ∃ V, V = W1.drew := ⟨_, rfl⟩
      rw [← hv0] at hd0 hHeld ⊢
      have Kv0 := Lib.hid hd0
      clear hd0 hv0
      refine wpAnyH_take (i := 0) (oi := { dst := Option.some 29, op := Op.load 42 (Operand.tmp 3), type := 42, pos := "law.go:130", after := #[], guard := Option.none }) (v := .agg #[.int .i64 lim, .slice A n c]) rfl (by kernel_rfl) (by kernel_rfl) (by kernel_rfl) (fun _ _ _ h => h) (Or.inl ⟨by rfl, ?_⟩) hHeld ?_
      · intro W hSw
        obtain ⟨⟨z0, z1⟩, -⟩ := HCL.out _ hSw
        go_simp
      simp only [Act.put, List.setIfInBounds_toArray, List.set_cons_zero, List.set_cons_succ]
      refine wpAnyH_take (i := 2) (oi := { dst := Option.some 31, op := Op.indexAddr 37 (Operand.tmp 4) (Operand.const (Value.int IntKind.i64 0)), type := 0, pos := "law.go:130", after := #[], guard := Option.none }) (v := .pointer (some ⟨g3, 0, none⟩)) rfl (by kernel_rfl) (by kernel_rfl) (by kernel_rfl) (fun _ _ _ h => h) (Or.inl ⟨by rfl, ?_⟩) hHeld ?_
      · intro W hSw
        obtain ⟨-, ⟨z0, z1, z2⟩, -⟩ := HCL.out _ hSw
        go_simp
      simp only [Act.put, List.setIfInBounds_toArray, List.set_cons_zero, List.set_cons_succ]
      refine wpAnyH_take (i := 3) (oi := { dst := Option.some 32, op := Op.load 3 (Operand.tmp 31), type := 3, pos := "law.go:130", after := #[{ on := 2, ground := Ground.data }], guard := Option.none }) (v := .int .i64 o0) rfl (by kernel_rfl) (by kernel_rfl) (by kernel_rfl) (fun _ _ _ h => h) (Or.inl ⟨by rfl, ?_⟩) hHeld ?_
      · intro W hSw
        obtain ⟨-, ⟨z0, z1, z2⟩, -⟩ := HCL.out _ hSw
        go_simp
      simp only [Act.put, List.setIfInBounds_toArray, List.set_cons_zero, List.set_cons_succ]
      refine wpAnyH_take (i := 4) (oi := { dst := Option.some 33, op := Op.indexAddr 37 (Operand.tmp 4) (Operand.const (Value.int IntKind.i64 1)), type := 0, pos := "law.go:130", after := #[], guard := Option.none }) (v := .pointer (some ⟨g3, 1, none⟩)) rfl (by kernel_rfl) (by kernel_rfl) (by kernel_rfl) (fun _ _ _ h => h) (Or.inl ⟨by rfl, ?_⟩) hHeld ?_
      · intro W hSw
        obtain ⟨-, ⟨z0, z1, z2⟩, -⟩ := HCL.out _ hSw
        go_simp
      simp only [Act.put, List.setIfInBounds_toArray, List.set_cons_zero, List.set_cons_succ]
      refine wpAnyH_take (i := 5) (oi := { dst := Option.some 34, op := Op.load 3 (Operand.tmp 33), type := 3, pos := "law.go:130", after := #[{ on := 4, ground := Ground.data }], guard := Option.none }) (v := .int .i64 o1) rfl (by kernel_rfl) (by kernel_rfl) (by kernel_rfl) (fun _ _ _ h => h) (Or.inl ⟨by rfl, ?_⟩) hHeld ?_
      · intro W hSw
        obtain ⟨-, ⟨z0, z1, z2⟩, -⟩ := HCL.out _ hSw
        go_simp
      simp only [Act.put, List.setIfInBounds_toArray, List.set_cons_zero, List.set_cons_succ]
      refine wpAnyH_take (i := 6) (oi := { dst := Option.some 35, op := Op.indexAddr 37 (Operand.tmp 4) (Operand.const (Value.int IntKind.i64 2)), type := 0, pos := "law.go:130", after := #[], guard := Option.none }) (v := .pointer (some ⟨g3, 2, none⟩)) rfl (by kernel_rfl) (by kernel_rfl) (by kernel_rfl) (fun _ _ _ h => h) (Or.inl ⟨by rfl, ?_⟩) hHeld ?_
      · intro W hSw
        obtain ⟨-, ⟨z0, z1, z2⟩, -⟩ := HCL.out _ hSw
        go_simp
      simp only [Act.put, List.setIfInBounds_toArray, List.set_cons_zero, List.set_cons_succ]
      refine wpAnyH_take (i := 7) (oi := { dst := Option.some 36, op := Op.load 3 (Operand.tmp 35), type := 3, pos := "law.go:130", after := #[{ on := 6, ground := Ground.data }], guard := Option.none }) (v := .int .i64 o2) rfl (by kernel_rfl) (by kernel_rfl) (by kernel_rfl) (fun _ _ _ h => h) (Or.inl ⟨by rfl, ?_⟩) hHeld ?_
      · intro W hSw
        obtain ⟨-, ⟨z0, z1, z2⟩, -⟩ := HCL.out _ hSw
        go_simp
      simp only [Act.put, List.setIfInBounds_toArray, List.set_cons_zero, List.set_cons_succ]
      refine wpAnyH_ready (rs := [1, 12]) (by kernel_rfl) (by simp) ?_
      refine AllReadyH.cons (o := { dst := Option.some 30, op := Op.call { callee := Callee.value (Operand.func 12), args := #[Operand.tmp 29], argTypes := #[42] }, type := 26, pos := "law.go:130", after := #[{ on := 0, ground := Ground.data }], guard := Option.none }) rfl (fun K hK => ?_) (AllReadyH.cons (o := { dst := Option.some 7, op := Op.alloc 26, type := 0, pos := "law.go:130", after := #[], guard := Option.none }) rfl (fun K hK => ?_) AllReadyH.nil)
      rotate_left
      focus
        go_simp
        have hbz : Below W1.heap.size W1 (v0.alloc (.cells #[.int .i64 0, .slice none 0 0] 26)) := Kv0.out.alloc Kv0.out.size _
        have hqz := heap_alloc_new v0 (.cells #[.int .i64 0, .slice none 0 0] 26)
        refine hK.out _ _ hbz (fun hHeld2 => ?_)
        clear hK K hHeld
        have hHeld := hHeld2
        clear hHeld2
        obtain ⟨u1, hVA⟩ : ∃ W, W = v0.alloc (.cells #[.int .i64 0, .slice none 0 0] 26) := ⟨_, rfl⟩
        obtain ⟨gx, hgx⟩ : ∃ g, g = v0.heap.size := ⟨_, rfl⟩
        rw [← hVA] at hbz hqz hHeld ⊢
        rw [← hgx] at hqz ⊢
        have Ku1 := Lib.hid hbz
        have EG := Lib.hid (show W1.heap.size ≤ gx by rw [hgx]; exact Kv0.out.size)
        have EQ := Lib.hid hqz
        clear hbz hqz hVA hgx
        refine wpAnyH_ready (rs := [1]) (by kernel_rfl) (by simp) ?_
        refine AllReadyH.cons (o := { dst := Option.some 30, op := Op.call { callee := Callee.value (Operand.func 12), args := #[Operand.tmp 29], argTypes := #[42] }, type := 26, pos := "law.go:130", after := #[{ on := 0, ground := Ground.data }], guard := Option.none }) rfl (fun K hK => ?_) AllReadyH.nil
        go_simp
        refine (CG.out u1 Ku1.out).mono ?_
        rintro y v2 ⟨A1, c1, rfl, hi1, hsb⟩
        have hbz : Below W1.heap.size W1 v2 := Ku1.out.trans (hsb.mono Ku1.out.size)
        refine hK.out _ _ hbz (fun hHeld2 => ?_)
        clear hK K hHeld
        have hHeld := hHeld2
        clear hHeld2
        have Kv2 := Lib.hid hbz
        have mE1 := hi1.n_ (obj_lt EQ.out)
        have EQ := Lib.hid ((hsb.block gx (obj_lt EQ.out)).trans EQ.out)
        have E1 := Lib.hid mE1
        clear mE1
        clear hbz hsb hi1
        refine wpAnyH_ready (rs := [8]) (by kernel_rfl) (by simp) ?_
        refine AllReadyH.cons (o := { dst := Option.some 37, op := Op.call { callee := Callee.value (Operand.func 7), args := #[Operand.tmp 30, Operand.tmp 32, Operand.tmp 34, Operand.tmp 36], argTypes := #[26, 3, 3, 3] }, type := 35, pos := "law.go:130", after := #[{ on := 1, ground := Ground.data }, { on := 3, ground := Ground.data }, { on := 5, ground := Ground.data }, { on := 7, ground := Ground.data }, { on := 1, ground := Ground.chain }], guard := Option.none }) rfl (fun K hK => ?_) AllReadyH.nil
        go_simp
        refine (CNa.out _ _ _ _ E1.out (obj_lt EQ.out)).mono ?_
        rintro y wF ⟨A3, c3, A2, c2, rfl, -, hi2, hsb⟩
        have hbz : Below W1.heap.size W1 wF := Kv2.out.trans (hsb.mono Kv2.out.size)
        refine hK.out _ _ hbz (fun hHeld2 => ?_)
        clear hK K hHeld
        have hHeld := hHeld2
        clear hHeld2
        have KwF := Lib.hid hbz
        have mE2 := hi2
        have EQ := Lib.hid ((hsb.block gx (obj_lt EQ.out)).trans EQ.out)
        have E2 := Lib.hid mE2
        clear mE2
        clear hbz hsb hi2 E1
        refine wpAnyH_take (i := 9) (oi := { dst := Option.some 28, op := Op.move (Operand.tmp 37), type := 35, pos := "law.go:130", after := #[{ on := 8, ground := Ground.data }], guard := Option.none }) (v := .tuple #[.agg #[.int .i64 qa, .slice A3 ma c3], .slice A2 na c2]) rfl (by kernel_rfl) (by kernel_rfl) (by kernel_rfl) (fun _ _ _ h => h) (Or.inl ⟨by rfl, ?_⟩) hHeld ?_
        · intro W hSw
          go_simp
        simp only [Act.put, List.setIfInBounds_toArray, List.set_cons_zero, List.set_cons_succ]
        refine wpAnyH_take (i := 10) (oi := { dst := Option.some 38, op := Op.extract (Operand.tmp 28) 0, type := 26, pos := "law.go:130", after := #[{ on := 9, ground := Ground.data }], guard := Option.none }) (v := .agg #[.int .i64 qa, .slice A3 ma c3]) rfl (by kernel_rfl) (by kernel_rfl) (by kernel_rfl) (fun _ _ _ h => h) (Or.inl ⟨by rfl, ?_⟩) hHeld ?_
        · intro W hSw
          go_simp
        simp only [Act.put, List.setIfInBounds_toArray, List.set_cons_zero, List.set_cons_succ]
        refine wpAnyH_take (i := 11) (oi := { dst := Option.some 39, op := Op.extract (Operand.tmp 28) 1, type := 34, pos := "law.go:130", after := #[{ on := 9, ground := Ground.data }, { on := 13, ground := Ground.gcOnly Departure.lateStores }], guard := Option.none }) (v := .slice A2 na c2) rfl (by kernel_rfl) (by kernel_rfl) (by kernel_rfl) (fun _ _ _ h => h) (Or.inl ⟨by rfl, ?_⟩) hHeld ?_
        · intro W hSw
          go_simp
        simp only [Act.put, List.setIfInBounds_toArray, List.set_cons_zero, List.set_cons_succ]
      rotate_left
      focus
        go_simp
        refine (CG.out v0 Kv0.out).mono ?_
        rintro y v1 ⟨A1, c1, rfl, hi1, hsb⟩
        have hbz : Below W1.heap.size W1 v1 := Kv0.out.trans (hsb.mono Kv0.out.size)
        refine hK.out _ _ hbz (fun hHeld2 => ?_)
        clear hK K hHeld
        have hHeld := hHeld2
        clear hHeld2
        have Kv1 := Lib.hid hbz
        have mE1 := hi1.its
        have E1 := Lib.hid mE1
        clear mE1
        clear hbz hsb hi1
        refine wpAnyH_ready (rs := [8, 12]) (by kernel_rfl) (by simp) ?_
        refine AllReadyH.cons (o := { dst := Option.some 37, op := Op.call { callee := Callee.value (Operand.func 7), args := #[Operand.tmp 30, Operand.tmp 32, Operand.tmp 34, Operand.tmp 36], argTypes := #[26, 3, 3, 3] }, type := 35, pos := "law.go:130", after := #[{ on := 1, ground := Ground.data }, { on := 3, ground := Ground.data }, { on := 5, ground := Ground.data }, { on := 7, ground := Ground.data }, { on := 1, ground := Ground.chain }], guard := Option.none }) rfl (fun K hK => ?_) (AllReadyH.cons (o := { dst := Option.some 7, op := Op.alloc 26, type := 0, pos := "law.go:130", after := #[], guard := Option.none }) rfl (fun K hK => ?_) AllReadyH.nil)
        rotate_left
        focus
          go_simp
          have hbz : Below W1.heap.size W1 (v1.alloc (.cells #[.int .i64 0, .slice none 0 0] 26)) := Kv1.out.alloc Kv1.out.size _
          have hqz := heap_alloc_new v1 (.cells #[.int .i64 0, .slice none 0 0] 26)
          have nE1 := NIts.box E1.out (.cells #[.int .i64 0, .slice none 0 0] 26)
          refine hK.out _ _ hbz (fun hHeld2 => ?_)
          clear hK K hHeld
          have hHeld := hHeld2
          clear hHeld2
          obtain ⟨u2, hVA⟩ : ∃ W, W = v1.alloc (.cells #[.int .i64 0, .slice none 0 0] 26) := ⟨_, rfl⟩
          obtain ⟨gx, hgx⟩ : ∃ g, g = v1.heap.size := ⟨_, rfl⟩
          rw [← hVA] at hbz hqz nE1 hHeld ⊢
          rw [← hgx] at hqz nE1 ⊢
          have Ku2 := Lib.hid hbz
          have EG := Lib.hid (show W1.heap.size ≤ gx by rw [hgx]; exact Kv1.out.size)
          have EQ := Lib.hid hqz
          have E1 := Lib.hid nE1
          clear hbz hqz nE1 hVA hgx
          refine wpAnyH_ready (rs := [8]) (by kernel_rfl) (by simp) ?_
          refine AllReadyH.cons (o := { dst := Option.some 37, op := Op.call { callee := Callee.value (Operand.func 7), args := #[Operand.tmp 30, Operand.tmp 32, Operand.tmp 34, Operand.tmp 36], argTypes := #[26, 3, 3, 3] }, type := 35, pos := "law.go:130", after := #[{ on := 1, ground := Ground.data }, { on := 3, ground := Ground.data }, { on := 5, ground := Ground.data }, { on := 7, ground := Ground.data }, { on := 1, ground := Ground.chain }], guard := Option.none }) rfl (fun K hK => ?_) AllReadyH.nil
          go_simp
          refine (CNa.out _ _ _ _ E1.out (obj_lt EQ.out)).mono ?_
          rintro y wF ⟨A3, c3, A2, c2, rfl, -, hi2, hsb⟩
          have hbz : Below W1.heap.size W1 wF := Ku2.out.trans (hsb.mono Ku2.out.size)
          refine hK.out _ _ hbz (fun hHeld2 => ?_)
          clear hK K hHeld
          have hHeld := hHeld2
          clear hHeld2
          have KwF := Lib.hid hbz
          have mE2 := hi2
          have EQ := Lib.hid ((hsb.block gx (obj_lt EQ.out)).trans EQ.out)
          have E2 := Lib.hid mE2
          clear mE2
          clear hbz hsb hi2 E1
          refine wpAnyH_take (i := 9) (oi := { dst := Option.some 28, op := Op.move (Operand.tmp 37), type := 35, pos := "law.go:130", after := #[{ on := 8, ground := Ground.data }], guard := Option.none }) (v := .tuple #[.agg #[.int .i64 qa, .slice A3 ma c3], .slice A2 na c2]) rfl (by kernel_rfl) (by kernel_rfl) (by kernel_rfl) (fun _ _ _ h => h) (Or.inl ⟨by rfl, ?_⟩) hHeld ?_
          · intro W hSw
            go_simp
          simp only [Act.put, List.setIfInBounds_toArray, List.set_cons_zero, List.set_cons_succ]
          refine wpAnyH_take (i := 10) (oi := { dst := Option.some 38, op := Op.extract (Operand.tmp 28) 0, type := 26, pos := "law.go:130", after := #[{ on := 9, ground := Ground.data }], guard := Option.none }) (v := .agg #[.int .i64 qa, .slice A3 ma c3]) rfl (by kernel_rfl) (by kernel_rfl) (by kernel_rfl) (fun _ _ _ h => h) (Or.inl ⟨by rfl, ?_⟩) hHeld ?_
          · intro W hSw
            go_simp
          simp only [Act.put, List.setIfInBounds_toArray, List.set_cons_zero, List.set_cons_succ]
          refine wpAnyH_take (i := 11) (oi := { dst := Option.some 39, op := Op.extract (Operand.tmp 28) 1, type := 34, pos := "law.go:130", after := #[{ on := 9, ground := Ground.data }, { on := 13, ground := Ground.gcOnly Departure.lateStores }], guard := Option.none }) (v := .slice A2 na c2) rfl (by kernel_rfl) (by kernel_rfl) (by kernel_rfl) (fun _ _ _ h => h) (Or.inl ⟨by rfl, ?_⟩) hHeld ?_
          · intro W hSw
            go_simp
          simp only [Act.put, List.setIfInBounds_toArray, List.set_cons_zero, List.set_cons_succ]
        rotate_left
        focus
          go_simp
          refine (CIa.out _ _ _ E1.out).mono ?_
          rintro y v2 ⟨A3, c3, A2, c2, rfl, -, hi2, hsb⟩
          have hbz : Below W1.heap.size W1 v2 := Kv1.out.trans (hsb.mono Kv1.out.size)
          refine hK.out _ _ hbz (fun hHeld2 => ?_)
          clear hK K hHeld
          have hHeld := hHeld2
          clear hHeld2
          have Kv2 := Lib.hid hbz
          have mE2 := hi2.ints
          have E2 := Lib.hid mE2
          clear mE2
          clear hbz hsb hi2 E1
          refine wpAnyH_take (i := 9) (oi := { dst := Option.some 28, op := Op.move (Operand.tmp 37), type := 35, pos := "law.go:130", after := #[{ on := 8, ground := Ground.data }], guard := Option.none }) (v := .tuple #[.agg #[.int .i64 qa, .slice A3 ma c3], .slice A2 na c2]) rfl (by kernel_rfl) (by kernel_rfl) (by kernel_rfl) (fun _ _ _ h => h) (Or.inl ⟨by rfl, ?_⟩) hHeld ?_
          · intro W hSw
            go_simp
          simp only [Act.put, List.setIfInBounds_toArray, List.set_cons_zero, List.set_cons_succ]
          refine wpAnyH_take (i := 10) (oi := { dst := Option.some 38, op := Op.extract (Operand.tmp 28) 0, type := 26, pos := "law.go:130", after := #[{ on := 9, ground := Ground.data }], guard := Option.none }) (v := .agg #[.int .i64 qa, .slice A3 ma c3]) rfl (by kernel_rfl) (by kernel_rfl) (by kernel_rfl) (fun _ _ _ h => h) (Or.inl ⟨by rfl, ?_⟩) hHeld ?_
          · intro W hSw
            go_simp
          simp only [Act.put, List.setIfInBounds_toArray, List.set_cons_zero, List.set_cons_succ]
          refine wpAnyH_take (i := 11) (oi := { dst := Option.some 39, op := Op.extract (Operand.tmp 28) 1, type := 34, pos := "law.go:130", after := #[{ on := 9, ground := Ground.data }, { on := 13, ground := Ground.gcOnly Departure.lateStores }], guard := Option.none }) (v := .slice A2 na c2) rfl (by kernel_rfl) (by kernel_rfl) (by kernel_rfl) (fun _ _ _ h => h) (Or.inl ⟨by rfl, ?_⟩) hHeld ?_
          · intro W hSw
            go_simp
          simp only [Act.put, List.setIfInBounds_toArray, List.set_cons_zero, List.set_cons_succ]
          refine wpAnyH_ready (rs := [12]) (by kernel_rfl) (by simp) ?_
          refine AllReadyH.cons (o := { dst := Option.some 7, op := Op.alloc 26, type := 0, pos := "law.go:130", after := #[], guard := Option.none }) rfl (fun K hK => ?_) AllReadyH.nil
          go_simp
          have hbz : Below W1.heap.size W1 (v2.alloc (.cells #[.int .i64 0, .slice none 0 0] 26)) := Kv2.out.alloc Kv2.out.size _
          have hqz := heap_alloc_new v2 (.cells #[.int .i64 0, .slice none 0 0] 26)
          have nE2 := NInts.box E2.out (.cells #[.int .i64 0, .slice none 0 0] 26)
          refine hK.out _ _ hbz (fun hHeld2 => ?_)
          clear hK K hHeld
          have hHeld := hHeld2
          clear hHeld2
          obtain ⟨wF, hVA⟩ : ∃ W, W = v2.alloc (.cells #[.int .i64 0, .slice none 0 0] 26) := ⟨_, rfl⟩
          obtain ⟨gx, hgx⟩ : ∃ g, g = v2.heap.size := ⟨_, rfl⟩
          rw [← hVA] at hbz hqz nE2 hHeld ⊢
          rw [← hgx] at hqz nE2 ⊢
          have KwF := Lib.hid hbz
          have EG := Lib.hid (show W1.heap.size ≤ gx by rw [hgx]; exact Kv2.out.size)
          have EQ := Lib.hid hqz
          have E2 := Lib.hid nE2
          clear hbz hqz nE2 hVA hgx
      all_goals
        obtain ⟨z0, z1⟩ := cells2 EQ.out
        have f0 := frozen_own EQ.out 0
        have f1 := frozen_own EQ.out 1
        refine wpAnyH_ready (rs := [13]) (by kernel_rfl) (by simp) ?_
        refine AllReadyH.cons (o := { dst := Option.none, op := Op.store 26 (Operand.tmp 7) (Operand.tmp 38), type := 0, pos := "law.go:130", after := #[{ on := 12, ground := Ground.data }, { on := 10, ground := Ground.data }, { on := 8, ground := Ground.chain }, { on := 0, ground := Ground.phase }, { on := 1, ground := Ground.phase }, { on := 2, ground := Ground.phase }, { on := 3, ground := Ground.phase }, { on := 4, ground := Ground.phase }, { on := 5, ground := Ground.phase }, { on := 6, ground := Ground.phase }, { on := 7, ground := Ground.phase }, { on := 8, ground := Ground.phase }, { on := 9, ground := Ground.phase }, { on := 10, ground := Ground.phase }, { on := 11, ground := Ground.textOnly Departure.lateStores }, { on := 12, ground := Ground.phase }], guard := Option.none }) rfl (fun K hK => ?_) AllReadyH.nil
        go_simp
        obtain ⟨WS, hWS⟩ : ∃ W, W = put2 wF gx (.int .i64 qa) (.slice A3 ma c3) := ⟨_, rfl⟩
        have hbS := put2_below (b := gx) (v0 := .int .i64 qa) (v1 := .slice A3 ma c3) KwF.out EG.out
        have hqS := put2_own EQ.out (.int .i64 qa) (.slice A3 ma c3)
        have heS := NInts.put E2.out (.int .i64 qa) (.slice A3 ma c3)
        rw [← hWS] at hbS hqS heS
        unfold put2 at hWS
        rw [← hWS]
        refine hK.out _ _ hbS (fun hHeld2 => ?_)
        clear hK K hHeld
        have hHeld := hHeld2
        clear hHeld2 hWS z0 z1 f0 f1
        refine wpAnyH_take (i := 14) (oi := { dst := Option.some 8, op := Op.assign (Operand.tmp 39), type := 34, pos := "law.go:130", after := #[{ on := 11, ground := Ground.data }, { on := 13, ground := Ground.chain }, { on := 0, ground := Ground.phase }, { on := 1, ground := Ground.phase }, { on := 2, ground := Ground.phase }, { on := 3, ground := Ground.phase }, { on := 4, ground := Ground.phase }, { on := 5, ground := Ground.phase }, { on := 6, ground := Ground.phase }, { on := 7, ground := Ground.phase }, { on := 8, ground := Ground.phase }, { on := 9, ground := Ground.phase }, { on := 10, ground := Ground.phase }, { on := 11, ground := Ground.phase }, { on := 12, ground := Ground.phase }, { on := 13, ground := Ground.phase }], guard := Option.none }) (v := .slice A2 na c2) rfl (by kernel_rfl) (by kernel_rfl) (by kernel_rfl) (fun _ _ _ h => h) (Or.inl ⟨by rfl, ?_⟩) hHeld ?_
        · intro W hSw
          go_simp
        simp only [Act.put, List.setIfInBounds_toArray, List.set_cons_zero, List.set_cons_succ]
        clear hHeld
        have HR := Lib.hid (And.intro hbS heS)
        clear hbS hqS heS
        refine wpAnyH_done (by kernel_rfl) ?_ _
        go_wp2_with fail
        go_meet
        exact ⟨gx, A2, c2, _, rfl, rfl, rfl, HR.out.1, HR.out.2⟩
    case rest =>
      obtain ⟨ga, Aa, ca, WS, rfl, rfl, rfl, hbS, heS⟩ := hcut
      have HB := Lib.hid (And.intro hbS heS)
      have HC2 := Lib.hid fun W (hW : Below WS.heap.size WS W) => HCL.out W (HB.out.1.trans (hW.mono HB.out.1.size))
      clear hbS heS x0 x1 y0 y1 y2
      go_upto_region 4 with fail
      go_cut [9, 10] (fun s9 s10 W => ∃ (gx : Nat) (A2 : Option Addr) (c2 : Nat) (V : World), V = W ∧ s9 = .pointer (some ⟨gx, 0, none⟩) ∧ s10 = .slice A2 nb c2 ∧ Below WS.heap.size WS V ∧ Ints V (.slice A2 nb c2) zb)
      case first =>
        have hd0 : Below WS.heap.size WS WS.drew := (Below.refl _ _).drew
        refine wp_region_held_drew (S := fun W => Below WS.heap.size WS W) (by kernel_rfl) hd0 (fun hHeld => ?_)
        obtain ⟨v0, hv0⟩ : ∃ V, V = WS.drew := ⟨_, rfl⟩
        rw [← hv0] at hd0 hHeld ⊢
        have Kv0 := Lib.hid hd0
        clear hd0 hv0
        refine wpAnyH_take (i := 0) (oi := { dst := Option.some 41, op := Op.load 42 (Operand.tmp 3), type := 42, pos := "law.go:131", after := #[], guard := Option.none }) (v := .agg #[.int .i64 lim, .slice A n c]) rfl (by kernel_rfl) (by kernel_rfl) (by kernel_rfl) (fun _ _ _ h => h) (Or.inl ⟨by rfl, ?_⟩) hHeld ?_
        · intro W hSw
          obtain ⟨⟨z0, z1⟩, -⟩ := HC2.out _ hSw
          go_simp
        simp only [Act.put, List.setIfInBounds_toArray, List.set_cons_zero, List.set_cons_succ]
        refine wpAnyH_take (i := 2) (oi := { dst := Option.some 43, op := Op.indexAddr 37 (Operand.tmp 4) (Operand.const (Value.int IntKind.i64 0)), type := 0, pos := "law.go:131", after := #[], guard := Option.none }) (v := .pointer (some ⟨g3, 0, none⟩)) rfl (by kernel_rfl) (by kernel_rfl) (by kernel_rfl) (fun _ _ _ h => h) (Or.inl ⟨by rfl, ?_⟩) hHeld ?_
        · intro W hSw
          obtain ⟨-, ⟨z0, z1, z2⟩, z3, z4⟩ := HC2.out _ hSw
          go_simp
        simp only [Act.put, List.setIfInBounds_toArray, List.set_cons_zero, List.set_cons_succ]
        refine wpAnyH_take (i := 3) (oi := { dst := Option.some 44, op := Op.load 3 (Operand.tmp 43), type := 3, pos := "law.go:131", after := #[{ on := 2, ground := Ground.data }], guard := Option.none }) (v := .int .i64 o0) rfl (by kernel_rfl) (by kernel_rfl) (by kernel_rfl) (fun _ _ _ h => h) (Or.inl ⟨by rfl, ?_⟩) hHeld ?_
        · intro W hSw
          obtain ⟨-, ⟨z0, z1, z2⟩, z3, z4⟩ := HC2.out _ hSw
          go_simp
        simp only [Act.put, List.setIfInBounds_toArray, List.set_cons_zero, List.set_cons_succ]
        refine wpAnyH_take (i := 4) (oi := { dst := Option.some 45, op := Op.indexAddr 37 (Operand.tmp 4) (Operand.const (Value.int IntKind.i64 1)), type := 0, pos := "law.go:131", after := #[], guard := Option.none }) (v := .pointer (some ⟨g3, 1, none⟩)) rfl (by kernel_rfl) (by kernel_rfl) (by kernel_rfl) (fun _ _ _ h => h) (Or.inl ⟨by rfl, ?_⟩) hHeld ?_
        · intro W hSw
          obtain ⟨-, ⟨z0, z1, z2⟩, z3, z4⟩ := HC2.out _ hSw
          go_simp
        simp only [Act.put, List.setIfInBounds_toArray, List.set_cons_zero, List.set_cons_succ]
        refine wpAnyH_take (i := 5) (oi := { dst := Option.some 46, op := Op.load 3 (Operand.tmp 45), type := 3, pos := "law.go:131", after := #[{ on := 4, ground := Ground.data }], guard := Option.none }) (v := .int .i64 o1) rfl (by kernel_rfl) (by kernel_rfl) (by kernel_rfl) (fun _ _ _ h => h) (Or.inl ⟨by rfl, ?_⟩) hHeld ?_
        · intro W hSw
          obtain ⟨-, ⟨z0, z1, z2⟩, z3, z4⟩ := HC2.out _ hSw
          go_simp
        simp only [Act.put, List.setIfInBounds_toArray, List.set_cons_zero, List.set_cons_succ]
        refine wpAnyH_take (i := 6) (oi := { dst := Option.some 47, op := Op.indexAddr 48 (Operand.tmp 5) (Operand.const (Value.int IntKind.i64 0)), type := 0, pos := "law.go:131", after := #[], guard := Option.none }) (v := .pointer (some ⟨g4, 0, none⟩)) rfl (by kernel_rfl) (by kernel_rfl) (by kernel_rfl) (fun _ _ _ h => h) (Or.inl ⟨by rfl, ?_⟩) hHeld ?_
        · intro W hSw
          obtain ⟨-, ⟨z0, z1, z2⟩, z3, z4⟩ := HC2.out _ hSw
          go_simp
        simp only [Act.put, List.setIfInBounds_toArray, List.set_cons_zero, List.set_cons_succ]
        refine wpAnyH_take (i := 7) (oi := { dst := Option.some 48, op := Op.load 3 (Operand.tmp 47), type := 3, pos := "law.go:131", after := #[{ on := 6, ground := Ground.data }], guard := Option.none }) (v := .int .i64 b0) rfl (by kernel_rfl) (by kernel_rfl) (by kernel_rfl) (fun _ _ _ h => h) (Or.inl ⟨by rfl, ?_⟩) hHeld ?_
        · intro W hSw
          obtain ⟨-, ⟨z0, z1, z2⟩, z3, z4⟩ := HC2.out _ hSw
          go_simp
        simp only [Act.put, List.setIfInBounds_toArray, List.set_cons_zero, List.set_cons_succ]
        refine wpAnyH_take (i := 8) (oi := { dst := Option.some 49, op := Op.convert 3 49 (Operand.tmp 48), type := 49, pos := "law.go:131", after := #[{ on := 7, ground := Ground.data }], guard := Option.none }) (v := .int .u64 (u0 : Int)) rfl (by kernel_rfl) (by kernel_rfl) (by kernel_rfl) (fun _ _ _ h => h) (Or.inl ⟨by rfl, ?_⟩) hHeld ?_
        · intro W hSw
          obtain ⟨-, ⟨z0, z1, z2⟩, z3, z4⟩ := HC2.out _ hSw
          go_simp
        simp only [Act.put, List.setIfInBounds_toArray, List.set_cons_zero, List.set_cons_succ]
        refine wpAnyH_take (i := 9) (oi := { dst := Option.some 50, op := Op.binOp BinOp.rem 49 (Operand.tmp 49) (Operand.const (Value.int IntKind.u64 9)) 49, type := 49, pos := "law.go:131", after := #[{ on := 8, ground := Ground.data }], guard := Option.none }) (v := .int .u64 (d0 : Int)) rfl (by kernel_rfl) (by kernel_rfl) (by kernel_rfl) (fun _ _ _ h => h) (Or.inl ⟨by rfl, ?_⟩) hHeld ?_
        · intro W hSw
          obtain ⟨-, ⟨z0, z1, z2⟩, z3, z4⟩ := HC2.out _ hSw
          go_simp
        simp only [Act.put, List.setIfInBounds_toArray, List.set_cons_zero, List.set_cons_succ]
        refine wpAnyH_take (i := 10) (oi := { dst := Option.some 51, op := Op.convert 49 3 (Operand.tmp 50), type := 3, pos := "law.go:131", after := #[{ on := 9, ground := Ground.data }], guard := Option.none }) (v := .int .i64 (d0 : Int)) rfl (by kernel_rfl) (by kernel_rfl) (by kernel_rfl) (fun _ _ _ h => h) (Or.inl ⟨by rfl, ?_⟩) hHeld ?_
        · intro W hSw
          obtain ⟨-, ⟨z0, z1, z2⟩, z3, z4⟩ := HC2.out _ hSw
          go_simp
        simp only [Act.put, List.setIfInBounds_toArray, List.set_cons_zero, List.set_cons_succ]
        refine wpAnyH_take (i := 11) (oi := { dst := Option.some 52, op := Op.binOp BinOp.add 3 (Operand.tmp 46) (Operand.tmp 51) 3, type := 3, pos := "law.go:131", after := #[{ on := 5, ground := Ground.data }, { on := 10, ground := Ground.data }], guard := Option.none }) (v := .int .i64 p1) rfl (by kernel_rfl) (by kernel_rfl) (by kernel_rfl) (fun _ _ _ h => h) (Or.inl ⟨by rfl, ?_⟩) hHeld ?_
        · intro W hSw
          obtain ⟨-, ⟨z0, z1, z2⟩, z3, z4⟩ := HC2.out _ hSw
          go_simp
        simp only [Act.put, List.setIfInBounds_toArray, List.set_cons_zero, List.set_cons_succ]
        refine wpAnyH_take (i := 12) (oi := { dst := Option.some 53, op := Op.indexAddr 37 (Operand.tmp 4) (Operand.const (Value.int IntKind.i64 2)), type := 0, pos := "law.go:131", after := #[], guard := Option.none }) (v := .pointer (some ⟨g3, 2, none⟩)) rfl (by kernel_rfl) (by kernel_rfl) (by kernel_rfl) (fun _ _ _ h => h) (Or.inl ⟨by rfl, ?_⟩) hHeld ?_
        · intro W hSw
          obtain ⟨-, ⟨z0, z1, z2⟩, z3, z4⟩ := HC2.out _ hSw
          go_simp
        simp only [Act.put, List.setIfInBounds_toArray, List.set_cons_zero, List.set_cons_succ]
        refine wpAnyH_take (i := 13) (oi := { dst := Option.some 54, op := Op.load 3 (Operand.tmp 53), type := 3, pos := "law.go:131", after := #[{ on := 12, ground := Ground.data }], guard := Option.none }) (v := .int .i64 o2) rfl (by kernel_rfl) (by kernel_rfl) (by kernel_rfl) (fun _ _ _ h => h) (Or.inl ⟨by rfl, ?_⟩) hHeld ?_
        · intro W hSw
          obtain ⟨-, ⟨z0, z1, z2⟩, z3, z4⟩ := HC2.out _ hSw
          go_simp
        simp only [Act.put, List.setIfInBounds_toArray, List.set_cons_zero, List.set_cons_succ]
        refine wpAnyH_take (i := 14) (oi := { dst := Option.some 55, op := Op.indexAddr 48 (Operand.tmp 5) (Operand.const (Value.int IntKind.i64 1)), type := 0, pos := "law.go:131", after := #[], guard := Option.none }) (v := .pointer (some ⟨g4, 1, none⟩)) rfl (by kernel_rfl) (by kernel_rfl) (by kernel_rfl) (fun _ _ _ h => h) (Or.inl ⟨by rfl, ?_⟩) hHeld ?_
        · intro W hSw
          obtain ⟨-, ⟨z0, z1, z2⟩, z3, z4⟩ := HC2.out _ hSw
          go_simp
        simp only [Act.put, List.setIfInBounds_toArray, List.set_cons_zero, List.set_cons_succ]
        refine wpAnyH_take (i := 15) (oi := { dst := Option.some 56, op := Op.load 3 (Operand.tmp 55), type := 3, pos := "law.go:131", after := #[{ on := 14, ground := Ground.data }], guard := Option.none }) (v := .int .i64 b1) rfl (by kernel_rfl) (by kernel_rfl) (by kernel_rfl) (fun _ _ _ h => h) (Or.inl ⟨by rfl, ?_⟩) hHeld ?_
        · intro W hSw
          obtain ⟨-, ⟨z0, z1, z2⟩, z3, z4⟩ := HC2.out _ hSw
          go_simp
        simp only [Act.put, List.setIfInBounds_toArray, List.set_cons_zero, List.set_cons_succ]
        refine wpAnyH_take (i := 16) (oi := { dst := Option.some 57, op := Op.convert 3 49 (Operand.tmp 56), type := 49, pos := "law.go:131", after := #[{ on := 15, ground := Ground.data }], guard := Option.none }) (v := .int .u64 (u1 : Int)) rfl (by kernel_rfl) (by kernel_rfl) (by kernel_rfl) (fun _ _ _ h => h) (Or.inl ⟨by rfl, ?_⟩) hHeld ?_
        · intro W hSw
          obtain ⟨-, ⟨z0, z1, z2⟩, z3, z4⟩ := HC2.out _ hSw
          go_simp
        simp only [Act.put, List.setIfInBounds_toArray, List.set_cons_zero, List.set_cons_succ]
        refine wpAnyH_take (i := 17) (oi := { dst := Option.some 58, op := Op.binOp BinOp.rem 49 (Operand.tmp 57) (Operand.const (Value.int IntKind.u64 9)) 49, type := 49, pos := "law.go:131", after := #[{ on := 16, ground := Ground.data }], guard := Option.none }) (v := .int .u64 (d1 : Int)) rfl (by kernel_rfl) (by kernel_rfl) (by kernel_rfl) (fun _ _ _ h => h) (Or.inl ⟨by rfl, ?_⟩) hHeld ?_
        · intro W hSw
          obtain ⟨-, ⟨z0, z1, z2⟩, z3, z4⟩ := HC2.out _ hSw
          go_simp
        simp only [Act.put, List.setIfInBounds_toArray, List.set_cons_zero, List.set_cons_succ]
        refine wpAnyH_take (i := 18) (oi := { dst := Option.some 59, op := Op.convert 49 3 (Operand.tmp 58), type := 3, pos := "law.go:131", after := #[{ on := 17, ground := Ground.data }], guard := Option.none }) (v := .int .i64 (d1 : Int)) rfl (by kernel_rfl) (by kernel_rfl) (by kernel_rfl) (fun _ _ _ h => h) (Or.inl ⟨by rfl, ?_⟩) hHeld ?_
        · intro W hSw
          obtain ⟨-, ⟨z0, z1, z2⟩, z3, z4⟩ := HC2.out _ hSw
          go_simp
        simp only [Act.put, List.setIfInBounds_toArray, List.set_cons_zero, List.set_cons_succ]
        refine wpAnyH_take (i := 19) (oi := { dst := Option.some 60, op := Op.binOp BinOp.add 3 (Operand.tmp 54) (Operand.tmp 59) 3, type := 3, pos := "law.go:131", after := #[{ on := 13, ground := Ground.data }, { on := 18, ground := Ground.data }], guard := Option.none }) (v := .int .i64 p2) rfl (by kernel_rfl) (by kernel_rfl) (by kernel_rfl) (fun _ _ _ h => h) (Or.inl ⟨by rfl, ?_⟩) hHeld ?_
        · intro W hSw
          obtain ⟨-, ⟨z0, z1, z2⟩, z3, z4⟩ := HC2.out _ hSw
          go_simp
        simp only [Act.put, List.setIfInBounds_toArray, List.set_cons_zero, List.set_cons_succ]
        refine wpAnyH_ready (rs := [1, 24]) (by kernel_rfl) (by simp) ?_
        refine AllReadyH.cons (o := { dst := Option.some 42, op := Op.call { callee := Callee.value (Operand.func 12), args := #[Operand.tmp 41], argTypes := #[42] }, type := 26, pos := "law.go:131", after := #[{ on := 0, ground := Ground.data }], guard := Option.none }) rfl (fun K hK => ?_) (AllReadyH.cons (o := { dst := Option.some 9, op := Op.alloc 26, type := 0, pos := "law.go:131", after := #[], guard := Option.none }) rfl (fun K hK => ?_) AllReadyH.nil)
        rotate_left
        focus
          go_simp
          have hbz : Below WS.heap.size WS (v0.alloc (.cells #[.int .i64 0, .slice none 0 0] 26)) := Kv0.out.alloc Kv0.out.size _
          have hqz := heap_alloc_new v0 (.cells #[.int .i64 0, .slice none 0 0] 26)
          refine hK.out _ _ hbz (fun hHeld2 => ?_)
          clear hK K hHeld
          have hHeld := hHeld2
          clear hHeld2
          obtain ⟨u1, hVA⟩ : ∃ W, W = v0.alloc (.cells #[.int .i64 0, .slice none 0 0] 26) := ⟨_, rfl⟩
          obtain ⟨gx, hgx⟩ : ∃ g, g = v0.heap.size := ⟨_, rfl⟩
          rw [← hVA] at hbz hqz hHeld ⊢
          rw [← hgx] at hqz ⊢
          have Ku1 := Lib.hid hbz
          have EG := Lib.hid (show WS.heap.size ≤ gx by rw [hgx]; exact Kv0.out.size)
          have EQ := Lib.hid hqz
          clear hbz hqz hVA hgx
          refine wpAnyH_ready (rs := [1]) (by kernel_rfl) (by simp) ?_
          refine AllReadyH.cons (o := { dst := Option.some 42, op := Op.call { callee := Callee.value (Operand.func 12), args := #[Operand.tmp 41], argTypes := #[42] }, type := 26, pos := "law.go:131", after := #[{ on := 0, ground := Ground.data }], guard := Option.none }) rfl (fun K hK => ?_) AllReadyH.nil
          go_simp
          refine (CG.out u1 (HB.out.1.trans (Ku1.out.mono HB.out.1.size))).mono ?_
          rintro y v2 ⟨A1, c1, rfl, hi1, hsb⟩
          have hbz : Below WS.heap.size WS v2 := Ku1.out.trans (hsb.mono Ku1.out.size)
          refine hK.out _ _ hbz (fun hHeld2 => ?_)
          clear hK K hHeld
          have hHeld := hHeld2
          clear hHeld2
          have Kv2 := Lib.hid hbz
          have mE1 := hi1.n_ (obj_lt EQ.out)
          have EQ := Lib.hid ((hsb.block gx (obj_lt EQ.out)).trans EQ.out)
          have E1 := Lib.hid mE1
          clear mE1
          clear hbz hsb hi1
          refine wpAnyH_ready (rs := [20]) (by kernel_rfl) (by simp) ?_
          refine AllReadyH.cons (o := { dst := Option.some 61, op := Op.call { callee := Callee.value (Operand.func 7), args := #[Operand.tmp 42, Operand.tmp 44, Operand.tmp 52, Operand.tmp 60], argTypes := #[26, 3, 3, 3] }, type := 35, pos := "law.go:131", after := #[{ on := 1, ground := Ground.data }, { on := 3, ground := Ground.data }, { on := 11, ground := Ground.data }, { on := 19, ground := Ground.data }, { on := 1, ground := Ground.chain }], guard := Option.none }) rfl (fun K hK => ?_) AllReadyH.nil
          go_simp
          refine (CNb.out _ _ _ _ E1.out (obj_lt EQ.out)).mono ?_
          rintro y wF ⟨A3, c3, A2, c2, rfl, -, hi2, hsb⟩
          have hbz : Below WS.heap.size WS wF := Kv2.out.trans (hsb.mono Kv2.out.size)
          refine hK.out _ _ hbz (fun hHeld2 => ?_)
          clear hK K hHeld
          have hHeld := hHeld2
          clear hHeld2
          have KwF := Lib.hid hbz
          have mE2 := hi2
          have EQ := Lib.hid ((hsb.block gx (obj_lt EQ.out)).trans EQ.out)
          have E2 := Lib.hid mE2
          clear mE2
          clear hbz hsb hi2 E1
          refine wpAnyH_take (i := 21) (oi := { dst := Option.some 40, op := Op.move (Operand.tmp 61), type := 35, pos := "law.go:131", after := #[{ on := 20, ground := Ground.data }], guard := Option.none }) (v := .tuple #[.agg #[.int .i64 qb, .slice A3 mb c3], .slice A2 nb c2]) rfl (by kernel_rfl) (by kernel_rfl) (by kernel_rfl) (fun _ _ _ h => h) (Or.inl ⟨by rfl, ?_⟩) hHeld ?_
          · intro W hSw
            go_simp
          simp only [Act.put, List.setIfInBounds_toArray, List.set_cons_zero, List.set_cons_succ]
          refine wpAnyH_take (i := 22) (oi := { dst := Option.some 62, op := Op.extract (Operand.tmp 40) 0, type := 26, pos := "law.go:131", after := #[{ on := 21, ground := Ground.data }], guard := Option.none }) (v := .agg #[.int .i64 qb, .slice A3 mb c3]) rfl (by kernel_rfl) (by kernel_rfl) (by kernel_rfl) (fun _ _ _ h => h) (Or.inl ⟨by rfl, ?_⟩) hHeld ?_
          · intro W hSw
            go_simp
          simp only [Act.put, List.setIfInBounds_toArray, List.set_cons_zero, List.set_cons_succ]
          refine wpAnyH_take (i := 23) (oi := { dst := Option.some 63, op := Op.extract (Operand.tmp 40) 1, type := 34, pos := "law.go:131", after := #[{ on := 21, ground := Ground.data }, { on := 25, ground := Ground.gcOnly Departure.lateStores }], guard := Option.none }) (v := .slice A2 nb c2) rfl (by kernel_rfl) (by kernel_rfl) (by kernel_rfl) (fun _ _ _ h => h) (Or.inl ⟨by rfl, ?_⟩) hHeld ?_
          · intro W hSw
            go_simp
          simp only [Act.put, List.setIfInBounds_toArray, List.set_cons_zero, List.set_cons_succ]
        rotate_left
        focus
          go_simp
          refine (CG.out v0 (HB.out.1.trans (Kv0.out.mono HB.out.1.size))).mono ?_
          rintro y v1 ⟨A1, c1, rfl, hi1, hsb⟩
          have hbz : Below WS.heap.size WS v1 := Kv0.out.trans (hsb.mono Kv0.out.size)
          refine hK.out _ _ hbz (fun hHeld2 => ?_)
          clear hK K hHeld
          have hHeld := hHeld2
          clear hHeld2
          have Kv1 := Lib.hid hbz
          have mE1 := hi1.its
          have E1 := Lib.hid mE1
          clear mE1
          clear hbz hsb hi1
          refine wpAnyH_ready (rs := [20, 24]) (by kernel_rfl) (by simp) ?_
          refine AllReadyH.cons (o := { dst := Option.some 61, op := Op.call { callee := Callee.value (Operand.func 7), args := #[Operand.tmp 42, Operand.tmp 44, Operand.tmp 52, Operand.tmp 60], argTypes := #[26, 3, 3, 3] }, type := 35, pos := "law.go:131", after := #[{ on := 1, ground := Ground.data }, { on := 3, ground := Ground.data }, { on := 11, ground := Ground.data }, { on := 19, ground := Ground.data }, { on := 1, ground := Ground.chain }], guard := Option.none }) rfl (fun K hK => ?_) (AllReadyH.cons (o := { dst := Option.some 9, op := Op.alloc 26, type := 0, pos := "law.go:131", after := #[], guard := Option.none }) rfl (fun K hK => ?_) AllReadyH.nil)
          rotate_left
          focus
            go_simp
            have hbz : Below WS.heap.size WS (v1.alloc (.cells #[.int .i64 0, .slice none 0 0] 26)) := Kv1.out.alloc Kv1.out.size _
            have hqz := heap_alloc_new v1 (.cells #[.int .i64 0, .slice none 0 0] 26)
            have nE1 := NIts.box E1.out (.cells #[.int .i64 0, .slice none 0 0] 26)
            refine hK.out _ _ hbz (fun hHeld2 => ?_)
            clear hK K hHeld
            have hHeld := hHeld2
            clear hHeld2
            obtain ⟨u2, hVA⟩ : ∃ W, W = v1.alloc (.cells #[.int .i64 0, .slice none 0 0] 26) := ⟨_, rfl⟩
            obtain ⟨gx, hgx⟩ : ∃ g, g = v1.heap.size := ⟨_, rfl⟩
            rw [← hVA] at hbz hqz nE1 hHeld ⊢
            rw [← hgx] at hqz nE1 ⊢
            have Ku2 := Lib.hid hbz
            have EG := Lib.hid (show WS.heap.size ≤ gx by rw [hgx]; exact Kv1.out.size)
            have EQ := Lib.hid hqz
            have E1 := Lib.hid nE1
            clear hbz hqz nE1 hVA hgx
            refine wpAnyH_ready (rs := [20]) (by kernel_rfl) (by simp) ?_
            refine AllReadyH.cons (o := { dst := Option.some 61, op := Op.call { callee := Callee.value (Operand.func 7), args := #[Operand.tmp 42, Operand.tmp 44, Operand.tmp 52, Operand.tmp 60], argTypes := #[26, 3, 3, 3] }, type := 35, pos := "law.go:131", after := #[{ on := 1, ground := Ground.data }, { on := 3, ground := Ground.data }, { on := 11, ground := Ground.data }, { on := 19, ground := Ground.data }, { on := 1, ground := Ground.chain }], guard := Option.none }) rfl (fun K hK => ?_) AllReadyH.nil
            go_simp
            refine (CNb.out _ _ _ _ E1.out (obj_lt EQ.out)).mono ?_
            rintro y wF ⟨A3, c3, A2, c2, rfl, -, hi2, hsb⟩
            have hbz : Below WS.heap.size WS wF := Ku2.out.trans (hsb.mono Ku2.out.size)
            refine hK.out _ _ hbz (fun hHeld2 => ?_)
            clear hK K hHeld
            have hHeld := hHeld2
            clear hHeld2
            have KwF := Lib.hid hbz
            have mE2 := hi2
            have EQ := Lib.hid ((hsb.block gx (obj_lt EQ.out)).trans EQ.out)
            have E2 := Lib.hid mE2
            clear mE2
            clear hbz hsb hi2 E1
            refine wpAnyH_take (i := 21) (oi := { dst := Option.some 40, op := Op.move (Operand.tmp 61), type := 35, pos := "law.go:131", after := #[{ on := 20, ground := Ground.data }], guard := Option.none }) (v := .tuple #[.agg #[.int .i64 qb, .slice A3 mb c3], .slice A2 nb c2]) rfl (by kernel_rfl) (by kernel_rfl) (by kernel_rfl) (fun _ _ _ h => h) (Or.inl ⟨by rfl, ?_⟩) hHeld ?_
            · intro W hSw
              go_simp
            simp only [Act.put, List.setIfInBounds_toArray, List.set_cons_zero, List.set_cons_succ]
            refine wpAnyH_take (i := 22) (oi := { dst := Option.some 62, op := Op.extract (Operand.tmp 40) 0, type := 26, pos := "law.go:131", after := #[{ on := 21, ground := Ground.data }], guard := Option.none }) (v := .agg #[.int .i64 qb, .slice A3 mb c3]) rfl (by kernel_rfl) (by kernel_rfl) (by kernel_rfl) (fun _ _ _ h => h) (Or.inl ⟨by rfl, ?_⟩) hHeld ?_
            · intro W hSw
              go_simp
            simp only [Act.put, List.setIfInBounds_toArray, List.set_cons_zero, List.set_cons_succ]
            refine wpAnyH_take (i := 23) (oi := { dst := Option.some 63, op := Op.extract (Operand.tmp 40) 1, type := 34, pos := "law.go:131", after := #[{ on := 21, ground := Ground.data }, { on := 25, ground := Ground.gcOnly Departure.lateStores }], guard := Option.none }) (v := .slice A2 nb c2) rfl (by kernel_rfl) (by kernel_rfl) (by kernel_rfl) (fun _ _ _ h => h) (Or.inl ⟨by rfl, ?_⟩) hHeld ?_
            · intro W hSw
              go_simp
            simp only [Act.put, List.setIfInBounds_toArray, List.set_cons_zero, List.set_cons_succ]
          rotate_left
          focus
            go_simp
            refine (CIb.out _ _ _ E1.out).mono ?_
            rintro y v2 ⟨A3, c3, A2, c2, rfl, -, hi2, hsb⟩
            have hbz : Below WS.heap.size WS v2 := Kv1.out.trans (hsb.mono Kv1.out.size)
            refine hK.out _ _ hbz (fun hHeld2 => ?_)
            clear hK K hHeld
            have hHeld := hHeld2
            clear hHeld2
            have Kv2 := Lib.hid hbz
            have mE2 := hi2.ints
            have E2 := Lib.hid mE2
            clear mE2
            clear hbz hsb hi2 E1
            refine wpAnyH_take (i := 21) (oi := { dst := Option.some 40, op := Op.move (Operand.tmp 61), type := 35, pos := "law.go:131", after := #[{ on := 20, ground := Ground.data }], guard := Option.none }) (v := .tuple #[.agg #[.int .i64 qb, .slice A3 mb c3], .slice A2 nb c2]) rfl (by kernel_rfl) (by kernel_rfl) (by kernel_rfl) (fun _ _ _ h => h) (Or.inl ⟨by rfl, ?_⟩) hHeld ?_
            · intro W hSw
              go_simp
            simp only [Act.put, List.setIfInBounds_toArray, List.set_cons_zero, List.set_cons_succ]
            refine wpAnyH_take (i := 22) (oi := { dst := Option.some 62, op := Op.extract (Operand.tmp 40) 0, type := 26, pos := "law.go:131", after := #[{ on := 21, ground := Ground.data }], guard := Option.none }) (v := .agg #[.int .i64 qb, .slice A3 mb c3]) rfl (by kernel_rfl) (by kernel_rfl) (by kernel_rfl) (fun _ _ _ h => h) (Or.inl ⟨by rfl, ?_⟩) hHeld ?_
            · intro W hSw
              go_simp
            simp only [Act.put, List.setIfInBounds_toArray, List.set_cons_zero, List.set_cons_succ]
            refine wpAnyH_take (i := 23) (oi := { dst := Option.some 63, op := Op.extract (Operand.tmp 40) 1, type := 34, pos := "law.go:131", after := #[{ on := 21, ground := Ground.data }, { on := 25, ground := Ground.gcOnly Departure.lateStores }], guard := Option.none }) (v := .slice A2 nb c2) rfl (by kernel_rfl) (by kernel_rfl) (by kernel_rfl) (fun _ _ _ h => h) (Or.inl ⟨by rfl, ?_⟩) hHeld ?_
            · intro W hSw
              go_simp
            simp only [Act.put, List.setIfInBounds_toArray, List.set_cons_zero, List.set_cons_succ]
            refine wpAnyH_ready (rs := [24]) (by kernel_rfl) (by simp) ?_
            refine AllReadyH.cons (o := { dst := Option.some 9, op := Op.alloc 26, type := 0, pos := "law.go:131", after := #[], guard := Option.none }) rfl (fun K hK => ?_) AllReadyH.nil
            go_simp
            have hbz : Below WS.heap.size WS (v2.alloc (.cells #[.int .i64 0, .slice none 0 0] 26)) := Kv2.out.alloc Kv2.out.size _
            have hqz := heap_alloc_new v2 (.cells #[.int .i64 0, .slice none 0 0] 26)
            have nE2 := NInts.box E2.out (.cells #[.int .i64 0, .slice none 0 0] 26)
            refine hK.out _ _ hbz (fun hHeld2 => ?_)
            clear hK K hHeld
            have hHeld := hHeld2
            clear hHeld2
            obtain ⟨wF, hVA⟩ : ∃ W, W = v2.alloc (.cells #[.int .i64 0, .slice none 0 0] 26) := ⟨_, rfl⟩
            obtain ⟨gx, hgx⟩ : ∃ g, g = v2.heap.size := ⟨_, rfl⟩
            rw [← hVA] at hbz hqz nE2 hHeld ⊢
            rw [← hgx] at hqz nE2 ⊢
            have KwF := Lib.hid hbz
            have EG := Lib.hid (show WS.heap.size ≤ gx by rw [hgx]; exact Kv2.out.size)
            have EQ := Lib.hid hqz
            have E2 := Lib.hid nE2
            clear hbz hqz nE2 hVA hgx
        all_goals
          obtain ⟨z0, z1⟩ := cells2 EQ.out
          have f0 := frozen_own EQ.out 0
          have f1 := frozen_own EQ.out 1
          refine wpAnyH_ready (rs := [25]) (by kernel_rfl) (by simp) ?_
          refine AllReadyH.cons (o := { dst := Option.none, op := Op.store 26 (Operand.tmp 9) (Operand.tmp 62), type := 0, pos := "law.go:131", after := #[{ on := 24, ground := Ground.data }, { on := 22, ground := Ground.data }, { on := 20, ground := Ground.chain }, { on := 0, ground := Ground.phase }, { on := 1, ground := Ground.phase }, { on := 2, ground := Ground.phase }, { on := 3, ground := Ground.phase }, { on := 4, ground := Ground.phase }, { on := 5, ground := Ground.phase }, { on := 6, ground := Ground.phase }, { on := 7, ground := Ground.phase }, { on := 8, ground := Ground.phase }, { on := 9, ground := Ground.phase }, { on := 10, ground := Ground.phase }, { on := 11, ground := Ground.phase }, { on := 12, ground := Ground.phase }, { on := 13, ground := Ground.phase }, { on := 14, ground := Ground.phase }, { on := 15, ground := Ground.phase }, { on := 16, ground := Ground.phase }, { on := 17, ground := Ground.phase }, { on := 18, ground := Ground.phase }, { on := 19, ground := Ground.phase }, { on := 20, ground := Ground.phase }, { on := 21, ground := Ground.phase }, { on := 22, ground := Ground.phase }, { on := 23, ground := Ground.textOnly Departure.lateStores }, { on := 24, ground := Ground.phase }], guard := Option.none }) rfl (fun K hK => ?_) AllReadyH.nil
          go_simp
          obtain ⟨WS, hWS⟩ : ∃ W, W = put2 wF gx (.int .i64 qb) (.slice A3 mb c3) := ⟨_, rfl⟩
          have hbS := put2_below (b := gx) (v0 := .int .i64 qb) (v1 := .slice A3 mb c3) KwF.out EG.out
          have hqS := put2_own EQ.out (.int .i64 qb) (.slice A3 mb c3)
          have heS := NInts.put E2.out (.int .i64 qb) (.slice A3 mb c3)
          rw [← hWS] at hbS hqS heS
          unfold put2 at hWS
          rw [← hWS]
          refine hK.out _ _ hbS (fun hHeld2 => ?_)
          clear hK K hHeld
          have hHeld := hHeld2
          clear hHeld2 hWS z0 z1 f0 f1
          refine wpAnyH_take (i := 26) (oi := { dst := Option.some 10, op := Op.assign (Operand.tmp 63), type := 34, pos := "law.go:131", after := #[{ on := 23, ground := Ground.data }, { on := 25, ground := Ground.chain }, { on := 0, ground := Ground.phase }, { on := 1, ground := Ground.phase }, { on := 2, ground := Ground.phase }, { on := 3, ground := Ground.phase }, { on := 4, ground := Ground.phase }, { on := 5, ground := Ground.phase }, { on := 6, ground := Ground.phase }, { on := 7, ground := Ground.phase }, { on := 8, ground := Ground.phase }, { on := 9, ground := Ground.phase }, { on := 10, ground := Ground.phase }, { on := 11, ground := Ground.phase }, { on := 12, ground := Ground.phase }, { on := 13, ground := Ground.phase }, { on := 14, ground := Ground.phase }, { on := 15, ground := Ground.phase }, { on := 16, ground := Ground.phase }, { on := 17, ground := Ground.phase }, { on := 18, ground := Ground.phase }, { on := 19, ground := Ground.phase }, { on := 20, ground := Ground.phase }, { on := 21, ground := Ground.phase }, { on := 22, ground := Ground.phase }, { on := 23, ground := Ground.phase }, { on := 24, ground := Ground.phase }, { on := 25, ground := Ground.phase }], guard := Option.none }) (v := .slice A2 nb c2) rfl (by kernel_rfl) (by kernel_rfl) (by kernel_rfl) (fun _ _ _ h => h) (Or.inl ⟨by rfl, ?_⟩) hHeld ?_
          · intro W hSw
            go_simp
          simp only [Act.put, List.setIfInBounds_toArray, List.set_cons_zero, List.set_cons_succ]
          clear hHeld
          have HR := Lib.hid (And.intro hbS heS)
          clear hbS hqS heS
          refine wpAnyH_done (by kernel_rfl) ?_ _
          go_wp2_with fail
          go_meet
          exact ⟨gx, A2, c2, _, rfl, rfl, rfl, HR.out.1, HR.out.2⟩
      case rest =>
        obtain ⟨gb, Ab, cb, WT, rfl, rfl, rfl, hbT, heT⟩ := hcut
        have heA := HB.out.2.below hbT
        obtain ⟨-, ha1, ha2, haat⟩ := heA.at_
        obtain ⟨-, hb1', hb2', hbat⟩ := heT.at_
        have HT := Lib.hid (And.intro (HB.out.1.trans (hbT.mono HB.out.1.size)) (And.intro haat hbat))
        have ia : (na : Int) ≤ 9223372036854775807 := by omega
        have ib : (nb : Int) ≤ 9223372036854775807 := by omega
        clear hbT heT heA ha1 ha2 hb1' hb2' haat hbat k0 k1 kt0 kt1 ke0 ke1 ki0 ki1 ka0 ka1 CG CIa CNa CIb CNb
        go_wp2_with fail
        go_loopw [11, 12] (fun kk ii wr => ∃ (k i : Nat), kk = .int .i64 (k : Int) ∧ ii = .int .i64 (i : Int) ∧ k ≤ na ∧ i ≤ nb ∧ (za.drop k).Sublist (zb.drop i) ∧ Below WT.heap.size WT wr) (fun _ ii _ => nb - (intOf ii).toNat)
        case atStart => exact ⟨0, 0, rfl, rfl, Nat.zero_le _, Nat.zero_le _, HSUB.out.1, Below.refl _ _⟩
        case round =>
          obtain ⟨k, i, rfl, rfl, hk, hi', hs, hbr⟩ := hrel
          have HR := Lib.hid (And.intro hs hbr)
          clear hs hbr
          by_cases hlt : i < nb
          · have ii : (i : Int) < (nb : Int) := by omega
            by_cases hkt : k < na
            · have kk : (k : Int) < (na : Int) := by omega
              have s0 : (0 : Int) ≤ (i : Int) := by omega
              have s1 : (0 : Int) ≤ (k : Int) := by omega
              obtain ⟨bka, offa, rfl, hba, hca⟩ := HT.out.2.1 (by omega)
              obtain ⟨bkb, offb, rfl, hbb, hcb⟩ := HT.out.2.2 (by omega)
              have e1 := (HR.out.2.cell (p := ⟨bka, offa + k, none⟩) hba).trans (hca k hkt)
              have e2 := (HR.out.2.cell (p := ⟨bkb, offb + i, none⟩) hbb).trans (hcb i hlt)
              obtain ⟨st1, st2⟩ := sub_step (by have := HSUB.out.2.1; omega) (by have := HSUB.out.2.2; omega) HR.out.1
              obtain ⟨x, hx⟩ : ∃ x, x = za.getD k 0 := ⟨_, rfl⟩
              obtain ⟨y, hy⟩ : ∃ y, y = zb.getD i 0 := ⟨_, rfl⟩
              rw [← hx] at e1 st1 st2
              rw [← hy] at e2 st1 st2
              have HST := Lib.hid (And.intro st1 st2)
              clear hba hbb hca hcb hx hy st1 st2
              by_cases hxy : y = x
              · subst hxy
                have hs := HST.out.1 rfl
                have HSS := Lib.hid hs
                clear hs
                go_wp2_with fail
                go_quiet (fail)
                go_wp2_with fail
                go_roundw
                case rel => exact ⟨k + 1, i + 1, by go_num, by go_num, by omega, by omega, HSS.out, below_drawn HR.out.2 _⟩
                case measure => simp [intOf]; omega
              · have hs := HST.out.2 hxy
                have HSS := Lib.hid hs
                have hxb : (y == x) = false := by rw [beq_eq_false_iff_ne]; exact hxy
                clear hs
                go_wp2_with fail
                go_quiet (fail)
                go_wp2_with fail
                go_roundw
                case rel => exact ⟨k, i + 1, rfl, by go_num, by omega, by omega, HSS.out, below_drawn HR.out.2 _⟩
                case measure => simp [intOf]; omega
            · obtain rfl : k = na := by omega
              have kk : ¬ (k : Int) < (k : Int) := by omega
              go_wp2_with (go_at_call 9; go_must (refine (CS.out _).mono ?_; rintro y w1 ⟨rfl, hb1⟩; have HZ := Lib.hid (HT.out.1.trans ((HR.out.2.trans (hb1.mono HR.out.2.size)).mono HT.out.1.size)); clear hb1))
              go_ret
              exact ⟨rfl, HE.out.trans (HZ.out.mono HE.out.size)⟩
          · obtain rfl : i = nb := by omega
            have hkn := sub_end (by have := HSUB.out.2.1; omega) (by have := HSUB.out.2.2; omega) HR.out.1
            obtain rfl : k = na := by have := HSUB.out.2.1; omega
            have ii : ¬ (i : Int) < (i : Int) := by omega
            clear hkn
            go_wp2_with (go_at_call 9; go_must (refine (CS.out _).mono ?_; rintro y w1 ⟨rfl, hb1⟩; have HZ := Lib.hid (HT.out.1.trans ((HR.out.2.trans (hb1.mono HR.out.2.size)).mono HT.out.1.size)); clear hb1))
            go_ret
            exact ⟨rfl, HE.out.trans (HZ.out.mono HE.out.size)⟩

end Go.Proofs.Ytojejcafahighaa.pk
