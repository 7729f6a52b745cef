/-
  The program's own log: Add, where it serves.
-/
import Derived.Test.YtlngcfaadfkbnaaDoorHg7
namespace Go.Proofs.YtlngcfaadfkbnaaDoor.pk
open Go Go.RowKit
set_option maxRecDepth 100000

set_option maxHeartbeats 16000000 in
theorem Add_yes (l : Lg) (A : Option Addr) (n c : Nat) (t k : Int) (A' : Option Addr) (n' c' : Nat) (d : List UInt8) (w : World) (h : Inp l A n c w) (hd : Bys w (.slice A' n' c') d) (hd0 : n' ≤ 1000000000) (e1 e2 : Int) (hee : endE l = (e1, e2)) (hm : mayE l = true) (c1 : ¬ t < e2) (c2 : cntE t = true) (c3 : kndE k = true) (c4 : cntE (e1 + 1) = true) (c5 : ¬ 4096 < (d.length : Int)) (c6 : ¬ (l.l.length : Int) = 4096) (r : Lg × Nat) (hr : r = (⟨l.base, l.term, l.l ++ [⟨e1 + 1, t, k, d⟩]⟩, 0)) (m : Nat) (hm0 : m = r.1.l.length) :
    Calls Tryd.prog 30 #[.agg #[.int .i64 l.base, .int .i64 l.term, .slice A n c], .int .i64 t, .int .i64 k, .slice A' n' c'] w fun y w' => ∃ A1 c1, y = .returned (.tuple #[.agg #[.int .i64 r.1.base, .int .i64 r.1.term, .slice A1 m c1], er r.2]) ∧ EntsT w' (fun q => w.heap.size ≤ q ∧ q < w'.heap.size) (.slice A1 m c1) r.1.l ∧ Below w.heap.size w w' := by
  obtain ⟨W1, g, g2, hW1, hg, hg2, hb1, hq, hq2, hsz⟩ := two_box w (.cells #[.int .i64 l.base, .int .i64 l.term, .slice A n c] 29) (.cells #[.int .i64 0, .int .i64 0, .slice none 0 0] 29)
  have HW := Lib.hid (And.intro hW1 (And.intro hg hg2))
  have HE := Lib.hid (And.intro hb1 (And.intro (show w.heap.size = g by omega) (And.intro (show g2 = g + 1 by omega) hsz)))
  have HI := Lib.hid (h.below hb1)
  have HQ2 := Lib.hid (show ∀ W, Below W1.heap.size W1 W → W.heap[g2]? = some (.cells #[.int .i64 0, .int .i64 0, .slice none 0 0] 29 (0, 0)) from fun W hW => (hW.block g2 (obj_lt hq2)).trans hq2)
  have HCL := Lib.hid (show ∀ W, Below W1.heap.size W1 W → W.cell? ⟨g, 0, none⟩ = some (.int .i64 l.base) ∧ W.cell? ⟨g, 1, none⟩ = some (.int .i64 l.term) ∧ W.cell? ⟨g, 2, none⟩ = some (.slice A n c) from fun W hW => cells3 ((hW.block g (obj_lt hq)).trans hq))
  obtain ⟨x0, x1, x2⟩ := cells3 hq
  have hl := h.len
  have hres : Tryd.f30.results = #[.cell 8 29, .tmp 9] := by kernel_rfl
  have hnil : ∀ W : World, EntsT W (fun q => w.heap.size ≤ q ∧ q < W.heap.size) (.slice none 0 0) [] := fun W => ⟨[], RowT.nil_ _ _ _, fun j h => by simp at h⟩
  have HNIL := Lib.hid hnil
  have hdl := hd.len_
  have CC := Lib.hid (HI.out.good hm)
  have hle : lastE l = (e1, e2) := (lastE_may hm).trans hee
  have CL := Lib.hid (show ∀ W, Below W1.heap.size W1 W → _ from fun W (hW : Below W1.heap.size W1 W) => Last_g l A n c W (HI.out.below hW) (e1, e2) hle.symm)
  have hp := mayE_parts hm
  have hei := endE_index hm
  rw [hee] at hp hei
  simp only at hp hei
  have i1 : 0 ≤ e1 := by omega
  have i2 : e1 ≤ 1099511627776 := by omega
  have C0 := Lib.hid fun n W => counts_any n W _ rfl
  have C2 := Lib.hid fun n W => isKind_any n W _ rfl
  subst hr
  obtain ⟨e, he⟩ : ∃ e : En, e = ⟨e1 + 1, t, k, d⟩ := ⟨_, rfl⟩
  rw [← he] at hm0 ⊢
  have hmn : m = n + 1 := by rw [hm0]; simp [hl.1]
  rw [← hdl] at c5
  rw [← hl.1] at c6
  have s1 : (n : Int) ≤ 1000000 := by omega
  have s2 : (n' : Int) ≤ 1000000000 := by omega
  have HCP := Lib.hid fun W hW => copied_g e A' n' c' W (by rw [he]; exact hW) hd0
  have hcn := clone_g l A n c
  have HCN := Lib.hid fun W (hW : Below W1.heap.size W1 W) => hcn W (HI.out.e.below hW) HI.out.s
  have HN := Lib.hid (And.intro hmn (And.intro he (And.intro hd (And.intro hdl (And.intro hl hm0)))))
  simp only [he] at HCP
  clear h hW1 hg hg2 hb1 hq hq2 hsz hl hnil hd hd0 hm hee hdl hp hei hle hmn hcn hm0
  go_enter Tryd.func30, Tryd.ntmps30
  go_upto_region 1 with fail
  rw [← HW.out.1, ← HW.out.2.1, ← HW.out.2.2]
  go_upto_region 5 with (first
    | (go_at_call 17; go_must (refine CC.out.mono ?_; rintro y w1 ⟨rfl, hb1⟩; obtain ⟨x0, x1, x2⟩ := HCL.out w1 hb1; have HB1 := Lib.hid hb1; clear hb1))
    | (go_at_call 11; go_must (refine (CL.out _ HB1.out).mono ?_; rintro y w2 ⟨rfl, hb2⟩; have HB2 := Lib.hid (HB1.out.trans (hb2.mono HB1.out.size)); clear hb2)))
  obtain ⟨W3, b3, hW3, hb3, hbb3, hq3, hsz3⟩ := one_box w2 (.cells #[.int .i64 (e1 + 1), .int .i64 t, .int .i64 k, .slice A' n' c'] 41)
  rw [← hW3, ← hb3]
  have hbx : Below W1.heap.size W1 W3 := HB2.out.trans (hbb3.mono HB2.out.size)
  have HB3 := Lib.hid (And.intro hbx (And.intro hq3 (And.intro hsz3 (show W1.heap.size ≤ b3 by rw [hb3]; exact HB2.out.size))))
  obtain ⟨v0, v1, v2, v3⟩ := cells4 hq3
  obtain ⟨x0, x1, x2⟩ := HCL.out W3 hbx
  have HCN3 := Lib.hid (HCN.out W3 hbx)
  clear hW3 hb3 hbb3 hq3 hsz3 hbx
  go_upto_region 12 with (first
    | (go_at_call 36; go_must (refine (C0.out _ _).mono ?_; rintro y w1 ⟨rfl, rfl⟩))
    | (go_at_call 51; go_must (refine (C2.out _ _).mono ?_; rintro y w1 ⟨rfl, rfl⟩))
    | (go_at_call 46; go_must (refine HCN3.out.mono ?_; rintro y w4 ⟨A4, c4, rfl, -, hb4, ho4, hz4⟩; have H4 := Lib.hid (And.intro hb4 (And.intro ho4 hz4)); clear hb4 ho4 hz4)))
  clear v0 v1 v2 v3 x0 x1 x2
  obtain ⟨W5, q, hW5, hq, hbq, hqq, hsz5⟩ := one_box w4 (.cells #[.int .i64 l.base, .int .i64 l.term, .slice A4 n c4] 29)
  rw [← hW5, ← hq]
  obtain ⟨B, hB⟩ : ∃ B, B = W3.heap.size + 2 := ⟨_, rfl⟩
  have h4 := H4.out
  rw [← hB] at h4
  have hBq : B ≤ q := by rw [hq]; exact h4.2.2
  have hb3lt : b3 < W3.heap.size := obj_lt HB3.out.2.1
  have HO := Lib.hid (show OwnE W5 B (fun k => B ≤ k ∧ k ≠ q) 41 (.slice A4 n c4) l.l from (h4.2.1.monoQ (fun k hk hlt _ => ⟨hk, by omega⟩)).more hbq)
  have HVB := Lib.hid (show ∀ g, (Value.slice A4 n c4).ownBlock = some g → B ≤ g ∧ g < q from fun g hg => by rw [hq]; exact h4.2.1.lt g hg)
  have HEC := Lib.hid (show ∀ W, Below B W5 W → W.cell? ⟨b3, 0, none⟩ = some (.int .i64 (e1 + 1)) ∧ W.cell? ⟨b3, 1, none⟩ = some (.int .i64 t) ∧ W.cell? ⟨b3, 2, none⟩ = some (.int .i64 k) ∧ W.cell? ⟨b3, 3, none⟩ = some (.slice A' n' c') from fun W hW =>
    cells4 ((hW.block b3 (by omega)).trans (((hbq.block b3 (Nat.lt_of_lt_of_le hb3lt h4.1.size)).trans (h4.1.block b3 hb3lt)).trans HB3.out.2.1)))
  have HQQ := Lib.hid (show ∀ W, Below W5.heap.size W5 W → W.heap[q]? = some (.cells #[.int .i64 l.base, .int .i64 l.term, .slice A4 n c4] 29 (0, 0)) from fun W hW => (hW.block q (obj_lt hqq)).trans hqq)
  have HW5 := Lib.hid (And.intro (show Below W1.heap.size W1 W5 from HB3.out.1.trans ((h4.1.trans (hbq.mono h4.1.size)).mono HB3.out.1.size)) (And.intro hsz5 (And.intro hBq (show W1.heap.size + 2 ≤ B by have := HB3.out.1.size; omega))))
  clear hW5 hq hbq hqq hsz5 hB h4 hBq hb3lt
  have hd0 : Below B W5 W5.drew := (Below.refl _ _).drew
  have HD := Lib.hid (show Below W5.heap.size W5 W5.drew from (Below.refl _ _).drew)
  have HBW := Lib.hid (show ∀ W, Below W5.heap.size W5 W → Below B W5 W from fun W hW => hW.mono (by have := HW5.out; omega))
  have HWB := Lib.hid (show ∀ W, Below W5.heap.size W5 W → Below w.heap.size w W from fun W hW => HE.out.1.trans ((HW5.out.1.trans (hW.mono HW5.out.1.size)).mono HE.out.1.size))
  refine wp_region_held_drew (S := fun W => Below B W5 W) (by kernel_rfl) hd0 (fun hHeld => ?_)
  refine wpAnyH_take (i := 0) (oi := { dst := Option.some 67, op := Op.fieldAddr 29 (Operand.tmp 13) 2, type := 0, pos := "entry.go:91", after := #[], guard := Option.none }) (v := .pointer (some ⟨q, 2, none⟩)) rfl (by kernel_rfl) (by kernel_rfl) (by kernel_rfl) (fun _ _ _ h => h) (Or.inl ⟨by rfl, ?_⟩) hHeld ?_
  · intro W hSw
    go_simp
  simp only [Act.put, List.setIfInBounds_toArray, List.set_cons_zero, List.set_cons_succ]
  refine wpAnyH_take (i := 2) (oi := { dst := Option.some 69, op := Op.load 41 (Operand.tmp 12), type := 41, pos := "entry.go:91", after := #[], guard := Option.none }) (v := .agg #[.int .i64 (e1 + 1), .int .i64 t, .int .i64 k, .slice A' n' c']) rfl (by kernel_rfl) (by kernel_rfl) (by kernel_rfl) (fun _ _ _ h => h) (Or.inl ⟨by rfl, ?_⟩) hHeld ?_
  · intro W hSw
    obtain ⟨z0, z1, z2, z3⟩ := HEC.out _ hSw
    go_simp
  simp only [Act.put, List.setIfInBounds_toArray, List.set_cons_zero, List.set_cons_succ]
  refine wpAnyH_ready (rs := [1, 3]) (by kernel_rfl) (by simp) ?_
  refine AllReadyH.cons (o := { dst := Option.some 68, op := Op.load 27 (Operand.tmp 67), type := 27, pos := "entry.go:91", after := #[{ on := 0, ground := Ground.data }], guard := Option.none }) rfl (fun K hK => ?o1) (AllReadyH.cons (o := { dst := Option.some 70, op := Op.call { callee := Callee.value (Operand.func 34), args := #[Operand.tmp 69], argTypes := #[41] }, type := 41, pos := "entry.go:91", after := #[{ on := 2, ground := Ground.data }], guard := Option.none }) rfl (fun K hK => ?o2) AllReadyH.nil)
  case' o1 =>
    obtain ⟨z0, z1, z2⟩ := cells3 (HQQ.out _ HD.out)
    go_simp
    refine hK.out _ _ hd0 (fun hHeld2 => ?_)
    clear hK K hHeld z0 z1 z2
    refine wpAnyH_ready (rs := [3]) (by kernel_rfl) (by simp) ?_
    refine AllReadyH.cons (o := { dst := Option.some 70, op := Op.call { callee := Callee.value (Operand.func 34), args := #[Operand.tmp 69], argTypes := #[41] }, type := 41, pos := "entry.go:91", after := #[{ on := 2, ground := Ground.data }], guard := Option.none }) rfl (fun K hK => ?_) AllReadyH.nil
    go_simp
    refine (HCP.out _ (HN.out.2.2.1.below (HWB.out _ HD.out))).mono ?_
    rintro y w6 ⟨A6, c6, rfl, hd6, hb6⟩
    have hb6 : Below W5.heap.size W5 w6 := HD.out.trans (hb6.mono HD.out.size)
    have H6 := Lib.hid (And.intro hd6 hb6)
    refine hK.out _ _ (HBW.out _ hb6) (fun hHeld => ?_)
    clear hK K hHeld2 hd6 hb6
    refine wpAnyH_ready (rs := [4]) (by kernel_rfl) (by simp) ?_
    refine AllReadyH.cons (o := { dst := Option.some 71, op := Op.buildSlice 27 1 #[(0, Operand.tmp 70)], type := 27, pos := "entry.go:91", after := #[{ on := 3, ground := Ground.data }], guard := Option.none }) rfl (fun K hK => ?_) AllReadyH.nil
    go_simp
    obtain ⟨W7, g7, hW7, hg7, hb7, hq7, hsz7⟩ := one_box w6 (.cells #[.int .i64 (e1 + 1), .int .i64 t, .int .i64 k, .slice A6 n' c6] 41)
    rw [← hW7, ← hg7]
    have H7 := Lib.hid (And.intro hg7 (And.intro hb7 (And.intro hq7 hsz7)))
    refine hK.out _ _ (HBW.out _ (H6.out.2.trans (hb7.mono H6.out.2.size))) (fun hHeld2 => ?_)
    clear hK K hHeld hW7 hg7 hb7 hq7 hsz7
    have hHeld := hHeld2
    clear hHeld2
  case' o2 =>
    go_simp
    refine (HCP.out _ (HN.out.2.2.1.below (HWB.out _ HD.out))).mono ?_
    rintro y w6 ⟨A6, c6, rfl, hd6, hb6⟩
    have hb6 : Below W5.heap.size W5 w6 := HD.out.trans (hb6.mono HD.out.size)
    have H6 := Lib.hid (And.intro hd6 hb6)
    refine hK.out _ _ (HBW.out _ hb6) (fun hHeld2 => ?_)
    clear hK K hHeld
    refine wpAnyH_ready (rs := [1, 4]) (by kernel_rfl) (by simp) ?_
    refine AllReadyH.cons (o := { dst := Option.some 68, op := Op.load 27 (Operand.tmp 67), type := 27, pos := "entry.go:91", after := #[{ on := 0, ground := Ground.data }], guard := Option.none }) rfl (fun K hK => ?p1) (AllReadyH.cons (o := { dst := Option.some 71, op := Op.buildSlice 27 1 #[(0, Operand.tmp 70)], type := 27, pos := "entry.go:91", after := #[{ on := 3, ground := Ground.data }], guard := Option.none }) rfl (fun K hK => ?p2) AllReadyH.nil)
  case' p1 =>
    obtain ⟨z0, z1, z2⟩ := cells3 (HQQ.out _ hb6)
    go_simp
    refine hK.out _ _ (HBW.out _ hb6) (fun hHeld => ?_)
    clear hK K hHeld2 z0 z1 z2 hd6 hb6
    refine wpAnyH_ready (rs := [4]) (by kernel_rfl) (by simp) ?_
    refine AllReadyH.cons (o := { dst := Option.some 71, op := Op.buildSlice 27 1 #[(0, Operand.tmp 70)], type := 27, pos := "entry.go:91", after := #[{ on := 3, ground := Ground.data }], guard := Option.none }) rfl (fun K hK => ?_) AllReadyH.nil
    go_simp
    obtain ⟨W7, g7, hW7, hg7, hb7, hq7, hsz7⟩ := one_box w6 (.cells #[.int .i64 (e1 + 1), .int .i64 t, .int .i64 k, .slice A6 n' c6] 41)
    rw [← hW7, ← hg7]
    have H7 := Lib.hid (And.intro hg7 (And.intro hb7 (And.intro hq7 hsz7)))
    refine hK.out _ _ (HBW.out _ (H6.out.2.trans (hb7.mono H6.out.2.size))) (fun hHeld2 => ?_)
    clear hK K hHeld hW7 hg7 hb7 hq7 hsz7
    have hHeld := hHeld2
    clear hHeld2
  case' p2 =>
    go_simp
    obtain ⟨W7, g7, hW7, hg7, hb7, hq7, hsz7⟩ := one_box w6 (.cells #[.int .i64 (e1 + 1), .int .i64 t, .int .i64 k, .slice A6 n' c6] 41)
    rw [← hW7, ← hg7]
    have H7 := Lib.hid (And.intro hg7 (And.intro hb7 (And.intro hq7 hsz7)))
    have hb7' := H6.out.2.trans (hb7.mono H6.out.2.size)
    refine hK.out _ _ (HBW.out _ hb7') (fun hHeld => ?_)
    clear hK K hHeld2 hW7 hg7 hb7 hq7 hsz7 hd6 hb6
    obtain ⟨z0, z1, z2⟩ := cells3 (HQQ.out _ hb7')
    refine wpAnyH_ready (rs := [1]) (by kernel_rfl) (by simp) ?_
    refine AllReadyH.cons (o := { dst := Option.some 68, op := Op.load 27 (Operand.tmp 67), type := 27, pos := "entry.go:91", after := #[{ on := 0, ground := Ground.data }], guard := Option.none }) rfl (fun K hK => ?_) AllReadyH.nil
    go_simp
    refine hK.out _ _ (HBW.out _ hb7') (fun hHeld2 => ?_)
    clear hK K hHeld z0 z1 z2 hb7'
    have hHeld := hHeld2
    clear hHeld2
  all_goals
    clear hd0
    have hb7' : Below W5.heap.size W5 W7 := H6.out.2.trans (H7.out.2.1.mono H6.out.2.size)
    have hO7 := HO.out.kept (w' := W7) (fun j hj _ => hb7'.block j hj) hb7'.size
    have hq7 : W7.heap[g7]? = some (.cells #[.int .i64 (En.mk (e1 + 1) t k d).index, .int .i64 (En.mk (e1 + 1) t k d).term, .int .i64 (En.mk (e1 + 1) t k d).kind, .slice A6 (En.mk (e1 + 1) t k d).data.length c6] 41 (0, 0)) := by
      rw [show (En.mk (e1 + 1) t k d).data.length = n' from HN.out.2.2.2.1.symm]
      exact H7.out.2.2.1
    have hy7 : SlT W7 (fun j => (B ≤ j ∧ j ≠ q) ∧ j < W7.heap.size ∧ (Value.slice A4 n c4).ownBlock ≠ some j) (.slice A6 (En.mk (e1 + 1) t k d).data.length c6) (En.mk (e1 + 1) t k d).data := by
      rw [show (En.mk (e1 + 1) t k d).data.length = n' from HN.out.2.2.2.1.symm]
      refine (SlT.kept H6.out.1 fun j hj hlt => H7.out.2.1.block j hlt).mono fun j hj => ?_
      have h1 := hj.1
      have h2 : W5.drew.heap.size = W5.heap.size := rfl
      have h3 := HW5.out
      have h4 := H7.out.2.2.2
      have h5 := H7.out.1
      refine ⟨⟨by omega, by omega⟩, by have := hj.2; omega, fun hx => ?_⟩
      have := (HVB.out j hx).2
      omega
    have H5O := Lib.hid (And.intro hO7 (And.intro hq7 (And.intro hy7 hb7')))
    clear hO7 hq7 hy7 hb7'
    refine wpAnyH_ready (rs := [5]) (by kernel_rfl) (by simp) ?_
    refine AllReadyH.cons (o := { dst := Option.some 72, op := Op.call { callee := Callee.builtin Builtin.append, args := #[Operand.tmp 68, Operand.tmp 71], argTypes := #[27, 27] }, type := 27, pos := "entry.go:91", after := #[{ on := 1, ground := Ground.data }, { on := 4, ground := Ground.data }, { on := 3, ground := Ground.chain }], guard := Option.none }) rfl (fun K hK => ?_) AllReadyH.nil
    refine step_op' rfl (wp_pushE H5O.out.1 (.tmp 68) (.tmp 71) 27 Tryd.underlying27 info_ent rfl rfl g7 (En.mk (e1 + 1) t k d) A6 c6 rfl H5O.out.2.1 H5O.out.2.2.1 (by have := HN.out.2.2.2.2.1; omega) (by have := HW5.out; have := H5O.out.2.2.2.size; omega) ?_)
    intro v8 w8 ho8 hg8 how8
    obtain ⟨A8, c8, rfl, -, -⟩ := ho8.form (j := m) (by rw [HN.out.1, List.length_append, HN.out.2.2.2.2.1.1]; rfl)
    have hqq8 : w8.heap[q]? = some (.cells #[.int .i64 l.base, .int .i64 l.term, .slice A4 n c4] 29 (0, 0)) := by
      rw [hg8.block q (by have := HW5.out; have := H5O.out.2.2.2.size; omega) (fun hx => by have := (HVB.out q hx.symm).2; omega)]
      exact HQQ.out _ H5O.out.2.2.2
    have hb8 : Below B W5 w8 := (HBW.out _ H5O.out.2.2.2).grown hg8 (by have := HW5.out; have := H5O.out.2.2.2.size; omega) fun j hj => (HVB.out j hj).1
    have H8 := Lib.hid (And.intro ho8 (And.intro how8 (And.intro hqq8 hb8)))
    refine hK.out _ _ hb8 (fun hHeld2 => ?_)
    clear hK K hHeld ho8 hg8 how8 hqq8 hb8
    have hHeld := hHeld2
    clear hHeld2
    simp only [Act.put, List.setIfInBounds_toArray, List.set_cons_zero, List.set_cons_succ]
    refine wpAnyH_take (i := 6) (oi := { dst := Option.some 73, op := Op.fieldAddr 29 (Operand.tmp 13) 2, type := 0, pos := "entry.go:91", after := #[{ on := 0, ground := Ground.phase }, { on := 1, ground := Ground.phase }, { on := 2, ground := Ground.phase }, { on := 3, ground := Ground.phase }, { on := 4, ground := Ground.phase }, { on := 5, ground := Ground.phase }], guard := Option.none }) (v := .pointer (some ⟨q, 2, none⟩)) rfl (by kernel_rfl) (by kernel_rfl) (by kernel_rfl) (fun _ _ _ h => h) (Or.inl ⟨by rfl, ?_⟩) hHeld ?_
    · intro W hSw
      go_simp
    simp only [Act.put, List.setIfInBounds_toArray, List.set_cons_zero, List.set_cons_succ]
    obtain ⟨z0, z1, z2⟩ := cells3 H8.out.2.2.1
    have f2 := frozen_own H8.out.2.2.1 2
    refine wpAnyH_ready (rs := [7]) (by kernel_rfl) (by simp) ?_
    refine AllReadyH.cons (o := { dst := Option.none, op := Op.store 27 (Operand.tmp 73) (Operand.tmp 72), type := 0, pos := "entry.go:91", after := #[{ on := 6, ground := Ground.data }, { on := 5, ground := Ground.data }, { on := 5, ground := Ground.chain }, { on := 0, ground := Ground.phase }, { on := 1, ground := Ground.phase }, { on := 2, ground := Ground.phase }, { on := 3, ground := Ground.phase }, { on := 4, ground := Ground.phase }, { on := 5, ground := Ground.phase }], guard := Option.none }) rfl (fun K hK => ?_) AllReadyH.nil
    go_simp
    obtain ⟨W9, hW9⟩ : ∃ W, W = w8.setCell ⟨q, 2, none⟩ (.slice A8 m c8) := ⟨_, rfl⟩
    have hqq9 := set2_own (v := .slice A8 m c8) H8.out.2.2.1
    have hb9 : Below B W5 W9 := by rw [hW9]; exact H8.out.2.2.2.setCell (show B ≤ q by have := HW5.out; omega) _
    rw [← hW9] at hqq9 ⊢
    refine hK.out _ _ hb9 (fun hHeld2 => ?_)
    have H9 := Lib.hid (And.intro hb9 hW9)
    clear hK K hHeld hHeld2 z0 z1 z2 f2 hW9 hb9
    obtain ⟨z0, z1, z2⟩ := cells3 hqq9
    clear hqq9
    have hq2 : W9.heap[g2]? = some (.cells #[.int .i64 0, .int .i64 0, .slice none 0 0] 29 (0, 0)) := by
      rw [H9.out.1.block g2 (by have := HW5.out; have := HE.out; omega)]
      exact HQ2.out _ HW5.out.1
    obtain ⟨y0, y1, y2⟩ := cells3 hq2
    have f0 := frozen_own hq2 0
    have f1 := frozen_own hq2 1
    have f2 := frozen_own hq2 2
    have HQ9 := Lib.hid hq2
    clear hq2
    refine wpAnyH_done (by kernel_rfl) ?_ _
    go_wp2_with fail
    have hbw9 : Below w.heap.size w W9 := HE.out.1.trans ((HW5.out.1.trans (H9.out.1.mono (by have := HW5.out; omega))).mono HE.out.1.size)
    obtain ⟨WF, hWF, u0, u1, u2, hbF, hoth, hsz2⟩ := logRes (b0 := .int .i64 l.base) (b1 := .int .i64 l.term) (b2 := .slice A8 m c8) HQ9.out hbw9 (show w.heap.size ≤ g2 by have := HE.out; omega)
    unfold put3 at hWF
    rw [hWF]
    have HBF := Lib.hid (And.intro hbF (And.intro hoth hsz2))
    clear hbF hoth hsz2 hWF z0 z1 z2 y0 y1 y2 f0 f1 f2 hbw9
    refine bodyPost_ret (v := .tuple #[.agg #[.int .i64 l.base, .int .i64 l.term, .slice A8 m c8], .nilIface]) ?_ rfl ⟨A8, c8, rfl, ?_, HBF.out.1⟩
    · simp only [results, hres]
      go_simp
    · refine (H8.out.1.entsT2 (fun j => B ≤ j ∧ j ≠ q ∧ j < w8.heap.size) (fun j h1 h2 => ⟨h1.1, h1.2, h2⟩) fun j hj => ?_).move (fun j hj _ => ?_) fun j hj => ?_
      · have h1 := H8.out.1.lt j hj
        refine ⟨h1.1, fun hx => ?_, h1.2⟩
        rcases H8.out.2.1 with h2 | h2
        · rw [h2] at hj
          have := (HVB.out j hj).2
          omega
        · rw [h2] at hj
          injection hj with hj
          have := H5O.out.2.2.2.size
          have := HW5.out
          omega
      · rw [HBF.out.2.1 j (by have := HW5.out; have := HE.out; omega), H9.out.2, Below.heap_setCell _ _ _ _ (show j ≠ q from hj.2.1)]
      · have := HW5.out
        have := HE.out.1.size
        refine ⟨by omega, ?_⟩
        rw [HBF.out.2.2, H9.out.2, World.size_setCell]
        exact hj.2.2

set_option maxHeartbeats 4000000 in
theorem Add_g (l : Lg) (A : Option Addr) (n c : Nat) (t k : Int) (A' : Option Addr) (n' c' : Nat) (d : List UInt8) (w : World) (h : Inp l A n c w) (hd : Bys w (.slice A' n' c') d) (hd0 : n' ≤ 1000000000) (r : Lg × Nat) (hr : r = addE l t k d) (m : Nat) (hm0 : m = r.1.l.length) :
    Calls Tryd.prog 30 #[.agg #[.int .i64 l.base, .int .i64 l.term, .slice A n c], .int .i64 t, .int .i64 k, .slice A' n' c'] w fun y w' => ∃ A1 c1, y = .returned (.tuple #[.agg #[.int .i64 r.1.base, .int .i64 r.1.term, .slice A1 m c1], er r.2]) ∧ EntsT w' (fun q => w.heap.size ≤ q ∧ q < w'.heap.size) (.slice A1 m c1) r.1.l ∧ Below w.heap.size w w' := by
  by_cases hne : r.2 = 0
  · obtain ⟨e1, e2, hee⟩ : ∃ e1 e2, endE l = (e1, e2) := ⟨_, _, rfl⟩
    rcases addE_cases l t k d e1 e2 hee with ⟨hm, hf⟩ | ⟨hm, c1, hf⟩ | ⟨hm, c1, c2, hf⟩ | ⟨hm, c1, c2, c3, hf⟩ | ⟨hm, c1, c2, c3, c4, hf⟩ | ⟨hm, c1, c2, c3, c4, c5, hf⟩ | ⟨hm, c1, c2, c3, c4, c5, c6, hf⟩ | ⟨hm, c1, c2, c3, c4, c5, c6, hf⟩
    case inr.inr.inr.inr.inr.inr.inr => exact Add_yes l A n c t k A' n' c' d w h hd hd0 e1 e2 hee hm c1 c2 c3 c4 c5 c6 r (hr.trans hf) m hm0
    all_goals
      rw [hr, hf] at hne
      cases hne
  · exact Add_no l A n c t k A' n' c' d w h hd hd0 r hr m hm0 hne

end Go.Proofs.YtlngcfaadfkbnaaDoor.pk
