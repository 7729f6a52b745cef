/-
  The law EntryLogs: walked.
-/
import Derived.Test.YtlngcfaadfkbnaaDoorEnFroms
namespace Go.Proofs.YtlngcfaadfkbnaaDoor.pk
open Go Go.RowKit
set_option maxRecDepth 100000

theorem atE_code (l : Lg) (i : Int) : (atE l i).2 = 0 ∨ (atE l i).2 = 1 ∨ (atE l i).2 = 8 ∨ (atE l i).2 = 22 := by
  unfold atE
  split
  · simp
  · split
    · simp
    · split <;> simp
theorem atE_small {k d : Nat} {l : Lg} (h : SmallE k d l.l) (i : Int) : (atE l i).1.data.length ≤ d := by
  unfold atE
  split
  · exact Nat.zero_le _
  · split
    · exact Nat.zero_le _
    · split
      · exact Nat.zero_le _
      · exact h.get _

set_option maxHeartbeats 32000000 in
theorem logs_true (C : ConG) (l : Lg) (A : Option Addr) (n c : Nat) (i : Int) (w : World) (hs : Std w) (hG : StdG w) (h : Ents w (.slice A n c) l.l) (hi : inI l.base) (ht : inI l.term) (hk : inI i) (hd : ∀ e ∈ l.l, e.data.length ≤ 140737488355328) :
    Calls Tryd.prog 3 #[.agg #[.int .i64 l.base, .int .i64 l.term, .slice A n c], .int .i64 i] w fun y w' => y = .returned (.bool true) ∧ Below w.heap.size w w' := by
  obtain ⟨W1, g, hW1, hg, hb1, hq, hsz⟩ := one_box w (.cells #[.int .i64 l.base, .int .i64 l.term, .slice A n c] 24)
  have HW := Lib.hid (And.intro hW1 hg)
  have HE := Lib.hid (And.intro hb1 hq)
  have hcells : ∀ W, Below W1.heap.size W1 W → W.cell? ⟨g, 0, none⟩ = some (.int .i64 l.base) ∧ W.cell? ⟨g, 1, none⟩ = some (.int .i64 l.term) ∧ W.cell? ⟨g, 2, none⟩ = some (.slice A n c) := fun W hW => cells3 ((hW.block g (obj_lt hq)).trans hq)
  have HCL := Lib.hid hcells
  obtain ⟨x0, x1, x2⟩ := hcells W1 (Below.refl _ _)
  obtain ⟨lo, hlo⟩ : ∃ b, b = longE l.l := ⟨_, rfl⟩
  have HL := Lib.hid (long_any A n c l.l W1 (h.below hb1) hd lo hlo)
  cases lo with
  | true =>
    clear h hi ht hk hd hlo hW1 hg hb1 hq hsz hcells
    go_enter Tryd.func3, Tryd.ntmps3
    go_upto_region 1 with fail
    rw [← HW.out.1, ← HW.out.2]
    go_wp2_with (first
      | (go_at_call 8; go_must (refine HL.out.mono ?_; rintro y w1 ⟨rfl, rfl⟩))
      | (go_at_call 9; go_must (refine (sureG C _).mono ?_; rintro y w2 ⟨rfl, hb2⟩; have HB2 := Lib.hid (HE.out.1.trans (hb2.mono HE.out.1.size)); clear hb2)))
    go_ret
    exact ⟨rfl, HB2.out⟩
  | false =>
    have hsm := longE_small hlo.symm
    have hsm1 : SmallE 1000 100000 l.l := small_more hsm (by omega) (by omega)
    have HG := Lib.hid (giveLog_any l A n c W1 (h.below hb1) (small_more hsm (by omega) (by omega)))
    obtain ⟨e1, e2, hee⟩ : ∃ e1 e2, lastE l = (e1, e2) := ⟨_, _, rfl⟩
    obtain ⟨t1, k1, htt⟩ : ∃ t1 k1, termE l i = (t1, k1) := ⟨_, _, rfl⟩
    obtain ⟨p, k2, hpp⟩ : ∃ p k2, atE l i = (p, k2) := ⟨_, _, rfl⟩
    obtain ⟨m, hm⟩ : ∃ m, m = p.data.length := ⟨_, rfl⟩
    obtain ⟨my, hmy⟩ : ∃ b, b = mayE l := ⟨_, rfl⟩
    obtain ⟨z, hz⟩ : ∃ z, z = (encE p).length := ⟨_, rfl⟩
    have hmp : m ≤ 100000 := by have := atE_small hsm1 i; rw [hpp] at this; rw [hm]; exact this
    have HLa := Lib.hid fun A1 c1 W (hW : Ents W (.slice A1 n c1) l.l) => C.gLast l A1 n c1 W hW hi ht hsm1 (e1, e2) hee.symm
    have HLr := Lib.hid fun W (hW : Below w.heap.size w W) => Last_any l A n c W (h.below hW) hi ht (e1, e2) hee.symm
    have HTa := Lib.hid fun A1 c1 W (hW : Ents W (.slice A1 n c1) l.l) => C.gTerm l A1 n c1 i W hW hi ht hsm1 hk (t1, k1) htt.symm
    have HTr := Lib.hid fun W (hW : Below w.heap.size w W) => Term_any l A n c i W (h.below hW) hi ht hk (t1, k1) htt.symm
    have HAa := Lib.hid fun A1 c1 W (hW : Ents W (.slice A1 n c1) l.l) => C.gAt l A1 n c1 i W hW hi ht hsm1 hk (p, k2) hpp.symm m hm
    have HAr := Lib.hid fun W (hW : Below w.heap.size w W) => At_any l A n c i W (h.below hW) hi ht hk (p, k2) hpp.symm
    have HCa := Lib.hid fun A1 c1 W (hW : Ents W (.slice A1 n c1) l.l) k hk => C.gCheck l A1 n c1 W hW hi ht hsm1 k hk
    have HMr := Lib.hid fun W (hW : Below w.heap.size w W) => May_any l A n c W (h.below hW) hi ht my hmy
    have HNu := Lib.hid fun k W (hW : Below w.heap.size w W) => num_any k W (hs.below hs.size hW)
    have HEa := Lib.hid fun A1 c1 W (hg0 : StdG W) (hW : Bys W (.slice A1 m c1) p.data) => C.gEncode p A1 m c1 W hg0 hW hmp z hz
    have HEr := Lib.hid fun A1 c1 W (hW : Bys W (.slice A1 m c1) p.data) => RefEncode_any p A1 m c1 W hW (by omega) z hz
    simp only [er_ev, ← hm] at HTa HAa HTr HAr HLa HLr HCa
    have hk1 : (k1 : Int) ≤ 100 := by have := termE_small l i; rw [htt] at this; simp only at this; omega
    have hk2 : (k2 : Int) ≤ 100 := by have := atE_code l i; rw [hpp] at this; simp only at this; omega
    have HMY := Lib.hid hmy
    obtain ⟨X, hX⟩ : ∃ X : ByteArray, X = ⟨(encE p).toArray⟩ := ⟨_, rfl⟩
    have HX := Lib.hid hX
    clear h hi ht hk hd hlo hW1 hg hb1 hq hsz hcells hsm hsm1 hee htt hpp hm hmy hz hmp hX
    go_enter Tryd.func3, Tryd.ntmps3
    go_upto_region 1 with fail
    rw [← HW.out.1, ← HW.out.2]
    go_upto_region 4 with (first
      | (go_at_call 8; go_must (refine HL.out.mono ?_; rintro y w1 ⟨rfl, rfl⟩))
      | (go_at_call 10; go_must (refine HG.out.mono ?_; rintro y w2 ⟨A1, c1, rfl, hi2, hb2⟩; have H2 := Lib.hid (And.intro hi2 hb2); clear hi2 hb2)))
    have hqx := heap_alloc_new w2 (.cells #[.int .i64 l.base, .int .i64 l.term, .slice A1 n c1] 29)
    have hb3 := below_alloc w2 (.cells #[.int .i64 l.base, .int .i64 l.term, .slice A1 n c1] 29)
    obtain ⟨W3, hW3⟩ : ∃ W, W = w2.alloc (.cells #[.int .i64 l.base, .int .i64 l.term, .slice A1 n c1] 29) := ⟨_, rfl⟩
    obtain ⟨gx, hgx⟩ : ∃ g, g = w2.heap.size := ⟨_, rfl⟩
    rw [← hW3] at hqx hb3 ⊢
    rw [← hgx] at hqx ⊢
    have hb13 : Below W1.heap.size W1 W3 := H2.out.2.trans (hb3.mono H2.out.2.size)
    have hall : ∀ W, Below W3.heap.size W3 W → (W.cell? ⟨g, 0, none⟩ = some (.int .i64 l.base) ∧ W.cell? ⟨g, 1, none⟩ = some (.int .i64 l.term) ∧ W.cell? ⟨g, 2, none⟩ = some (.slice A n c)) ∧ (W.cell? ⟨gx, 0, none⟩ = some (.int .i64 l.base) ∧ W.cell? ⟨gx, 1, none⟩ = some (.int .i64 l.term) ∧ W.cell? ⟨gx, 2, none⟩ = some (.slice A1 n c1)) ∧ Ents W (.slice A1 n c1) l.l ∧ Below w.heap.size w W := fun W hW =>
      ⟨HCL.out W (hb13.trans (hW.mono hb13.size)), cells3 ((hW.block gx (obj_lt hqx)).trans hqx), (H2.out.1.below hb3).below hW, HE.out.1.trans ((hb13.trans (hW.mono hb13.size)).mono HE.out.1.size)⟩
    have H3 := Lib.hid hall
    clear x0 x1 x2 hW3 hgx hb3 hqx hb13
    obtain ⟨⟨x0, x1, x2⟩, ⟨y0, y1, y2⟩, -⟩ := hall W3 (Below.refl _ _)
    clear hall
    have B0 := Lib.hid (Below.refl W3.heap.size W3)
    go_upto_region 9 with (first
      | (go_at_call 11; go_must (refine (HLa.out _ _ _ (H3.out _ B0.out).2.2.1).mono ?_; rintro y w4 ⟨rfl, hb4⟩; have B1 := Lib.hid (B0.out.trans (hb4.mono B0.out.size)); obtain ⟨⟨x0, x1, x2⟩, ⟨y0, y1, y2⟩, -⟩ := H3.out w4 B1.out; clear hb4))
      | (go_at_call 12; go_must (refine (HLr.out _ (H3.out _ B1.out).2.2.2).mono ?_; rintro y w5 ⟨rfl, hb5⟩; have B2 := Lib.hid (B1.out.trans (hb5.mono B1.out.size)); obtain ⟨⟨x0, x1, x2⟩, ⟨y0, y1, y2⟩, -⟩ := H3.out w5 B2.out; clear hb5))
      | (go_at_call 13; go_must (refine (HTa.out _ _ _ (H3.out _ B2.out).2.2.1).mono ?_; rintro y w6 ⟨rfl, hb6⟩; have B3 := Lib.hid (B2.out.trans (hb6.mono B2.out.size)); obtain ⟨⟨x0, x1, x2⟩, ⟨y0, y1, y2⟩, -⟩ := H3.out w6 B3.out; clear hb6))
      | (go_at_call 14; go_must (refine (HTr.out _ (H3.out _ B3.out).2.2.2).mono ?_; rintro y w7 ⟨rfl, hb7⟩; have B4 := Lib.hid (B3.out.trans (hb7.mono B3.out.size)); obtain ⟨⟨x0, x1, x2⟩, ⟨y0, y1, y2⟩, -⟩ := H3.out w7 B4.out; clear hb7))
      | (go_at_call 15; go_must (refine (HAa.out _ _ _ (H3.out _ B4.out).2.2.1).mono ?_; rintro y w8 ⟨Ap, cp, rfl, hp8, hb8⟩; have B5 := Lib.hid (B4.out.trans (hb8.mono B4.out.size)); have P8 := Lib.hid hp8; clear hb8 hp8)))
    have hqp := heap_alloc_new w8 (.cells #[.int .i64 p.index, .int .i64 p.term, .int .i64 p.kind, .slice Ap m cp] 41)
    have hb9 := below_alloc w8 (.cells #[.int .i64 p.index, .int .i64 p.term, .int .i64 p.kind, .slice Ap m cp] 41)
    obtain ⟨W9, hW9⟩ : ∃ W, W = w8.alloc (.cells #[.int .i64 p.index, .int .i64 p.term, .int .i64 p.kind, .slice Ap m cp] 41) := ⟨_, rfl⟩
    obtain ⟨gp, hgp⟩ : ∃ g, g = w8.heap.size := ⟨_, rfl⟩
    rw [← hW9] at hqp hb9 ⊢
    rw [← hgp] at hqp ⊢
    have B9 := Lib.hid (B5.out.trans (hb9.mono B5.out.size))
    have P9 := Lib.hid (And.intro hqp (P8.out.below hb9))
    clear x0 x1 x2 y0 y1 y2 hW9 hgp hqp hb9
    obtain ⟨⟨x0, x1, x2⟩, ⟨y0, y1, y2⟩, -⟩ := H3.out W9 B9.out
    go_upto_region 10 with (go_at_call 16; go_must (refine (HAr.out _ (H3.out _ B9.out).2.2.2).mono ?_; rintro y w10 ⟨Aq, cq, rfl, hp10, hb10⟩; have Q10 := Lib.hid (And.intro hp10 hb10); clear hb10 hp10))
    have hqq := heap_alloc_new w10 (.cells #[.int .i64 p.index, .int .i64 p.term, .int .i64 p.kind, .slice Aq m cq] 44)
    have hb11 := below_alloc w10 (.cells #[.int .i64 p.index, .int .i64 p.term, .int .i64 p.kind, .slice Aq m cq] 44)
    obtain ⟨W11, hW11⟩ : ∃ W, W = w10.alloc (.cells #[.int .i64 p.index, .int .i64 p.term, .int .i64 p.kind, .slice Aq m cq] 44) := ⟨_, rfl⟩
    obtain ⟨gq, hgq⟩ : ∃ g, g = w10.heap.size := ⟨_, rfl⟩
    rw [← hW11] at hqq hb11 ⊢
    rw [← hgq] at hqq ⊢
    have hb911 : Below W9.heap.size W9 W11 := Q10.out.2.trans (hb11.mono Q10.out.2.size)
    have hqp := (hb911.block gp (obj_lt P9.out.1)).trans P9.out.1
    have hall : ∀ W, Below W11.heap.size W11 W → ((W.cell? ⟨gp, 0, none⟩ = some (.int .i64 p.index) ∧ W.cell? ⟨gp, 1, none⟩ = some (.int .i64 p.term) ∧ W.cell? ⟨gp, 2, none⟩ = some (.int .i64 p.kind) ∧ W.cell? ⟨gp, 3, none⟩ = some (.slice Ap m cp)) ∧ (W.cell? ⟨gq, 0, none⟩ = some (.int .i64 p.index) ∧ W.cell? ⟨gq, 1, none⟩ = some (.int .i64 p.term) ∧ W.cell? ⟨gq, 2, none⟩ = some (.int .i64 p.kind) ∧ W.cell? ⟨gq, 3, none⟩ = some (.slice Aq m cq))) ∧ Bys W (.slice Ap m cp) p.data ∧ Bys W (.slice Aq m cq) p.data ∧ Below W3.heap.size W3 W := fun W hW =>
      ⟨⟨cells4 ((hW.block gp (obj_lt hqp)).trans hqp), cells4 ((hW.block gq (obj_lt hqq)).trans hqq)⟩, (P9.out.2.below hb911).below hW, (Q10.out.1.below hb11).below hW, (B9.out.trans (hb911.mono B9.out.size)).trans (hW.mono (B9.out.trans (hb911.mono B9.out.size)).size)⟩
    have H11 := Lib.hid hall
    clear x0 x1 x2 y0 y1 y2 hW11 hgq hqq hb11 hqp hb911 hall
    have hd0 : Below W11.heap.size W11 W11.drew := (Below.refl _ _).drew
    cases my with
    | true =>
      have HCx : Hid (∀ W, Below W3.heap.size W3 W → Calls Tryd.prog 17 #[.agg #[.int .i64 l.base, .int .i64 l.term, .slice A1 n c1]] W fun y w' => y = .returned (.nilIface) ∧ Below W.heap.size W w') := Lib.hid fun W hW => HCa.out _ _ W (H3.out W hW).2.2.1 0 (by rw [← HMY.out] <;> rfl)
      have HSS := Lib.hid fun W (hW : Below W11.heap.size W11 W) => hW
      refine wp_region_held_drew (S := fun W => Below W11.heap.size W11 W) (by kernel_rfl) hd0 (fun hHeld => ?_)
      refine wpAnyH_take (i := 0) (oi := { dst := Option.some 58, op := Op.load 29 (Operand.tmp 5), type := 29, pos := "law.go:96", after := #[], guard := Option.none }) (v := .agg #[.int .i64 l.base, .int .i64 l.term, .slice A1 n c1]) rfl (by kernel_rfl) (by kernel_rfl) (by kernel_rfl) (fun _ _ _ h => h) (Or.inl ⟨by rfl, ?_⟩) hHeld ?_
      · intro W hSw
        obtain ⟨-, ⟨z0, z1, z2⟩, -⟩ := H3.out _ (H11.out _ hSw).2.2.2
        go_simp
      simp only [Act.put, List.setIfInBounds_toArray, List.set_cons_zero, List.set_cons_succ]
      refine wpAnyH_take (i := 3) (oi := { dst := Option.some 61, op := Op.load 24 (Operand.tmp 2), type := 24, pos := "law.go:96", after := #[], guard := Option.none }) (v := .agg #[.int .i64 l.base, .int .i64 l.term, .slice A n c]) rfl (by kernel_rfl) (by kernel_rfl) (by kernel_rfl) (fun _ _ _ h => h) (Or.inl ⟨by rfl, ?_⟩) hHeld ?_
      · intro W hSw
        obtain ⟨⟨z0, z1, z2⟩, -⟩ := H3.out _ (H11.out _ hSw).2.2.2
        go_simp
      simp only [Act.put, List.setIfInBounds_toArray, List.set_cons_zero, List.set_cons_succ]
      refine wpAnyH_ready (rs := [1]) (by kernel_rfl) (by simp) ?_
      refine AllReadyH.cons (o := { dst := Option.some 59, op := Op.call { callee := Callee.value (Operand.func 17), args := #[Operand.tmp 58], argTypes := #[29] }, type := 35, pos := "law.go:96", after := #[{ on := 0, ground := Ground.data }], guard := Option.none }) rfl (fun K hK => ?_) AllReadyH.nil
      go_simp
      refine (HCx.out _ (H11.out _ hd0).2.2.2).mono ?_
      rintro y w12 ⟨rfl, hbz⟩
      have hbz : Below W11.heap.size W11 w12 := hd0.trans hbz
      refine hK.out _ _ (HSS.out _ hbz) (fun hHeld2 => ?_)
      clear hK K hHeld hHeld2
      have Kw12 := Lib.hid hbz
      clear hbz
      have hHeld : Below W11.heap.size W11 w12 := Kw12.out
      refine wpAnyH_take (i := 2) (oi := { dst := Option.some 60, op := Op.binOp BinOp.eql 35 (Operand.tmp 59) (Operand.const Value.nilIface) 35, type := 4, pos := "law.go:96", after := #[{ on := 1, ground := Ground.data }], guard := Option.none }) (v := .bool true) rfl (by kernel_rfl) (by kernel_rfl) (by kernel_rfl) (fun _ _ _ h => h) (Or.inl ⟨by rfl, ?_⟩) hHeld ?_
      · intro W hSw
        go_simp
      simp only [Act.put, List.setIfInBounds_toArray, List.set_cons_zero, List.set_cons_succ]
      refine wpAnyH_ready (rs := [4]) (by kernel_rfl) (by simp) ?_
      refine AllReadyH.cons (o := { dst := Option.some 62, op := Op.call { callee := Callee.value (Operand.func 18), args := #[Operand.tmp 61], argTypes := #[24] }, type := 4, pos := "law.go:96", after := #[{ on := 3, ground := Ground.data }, { on := 1, ground := Ground.chain }], guard := Option.none }) rfl (fun K hK => ?_) AllReadyH.nil
      go_simp
      refine (HMr.out _ (H3.out _ (H11.out _ Kw12.out).2.2.2).2.2.2).mono ?_
      rintro y w13 ⟨rfl, hbz⟩
      have hbz : Below W11.heap.size W11 w13 := Kw12.out.trans (hbz.mono Kw12.out.size)
      refine hK.out _ _ (HSS.out _ hbz) (fun hHeld2 => ?_)
      clear hK K hHeld hHeld2
      have Kw13 := Lib.hid hbz
      clear hbz
      have hHeld : Below W11.heap.size W11 w13 := Kw13.out
      refine wpAnyH_take (i := 5) (oi := { dst := Option.some 63, op := Op.binOp BinOp.eql 4 (Operand.tmp 60) (Operand.tmp 62) 4, type := 4, pos := "law.go:96", after := #[{ on := 2, ground := Ground.data }, { on := 4, ground := Ground.data }], guard := Option.none }) (v := .bool true) rfl (by kernel_rfl) (by kernel_rfl) (by kernel_rfl) (fun _ _ _ h => h) (Or.inl ⟨by rfl, ?_⟩) hHeld ?_
      · intro W hSw
        go_simp
      simp only [Act.put, List.setIfInBounds_toArray, List.set_cons_zero, List.set_cons_succ]
      refine wpAnyH_take (i := 6) (oi := { dst := Option.some 64, op := Op.move (Operand.tmp 63), type := 4, pos := "law.go:96", after := #[{ on := 5, ground := Ground.data }, { on := 4, ground := Ground.chain }], guard := Option.none }) (v := .bool true) rfl (by kernel_rfl) (by kernel_rfl) (by kernel_rfl) (fun _ _ _ h => h) (Or.inl ⟨by rfl, ?_⟩) hHeld ?_
      · intro W hSw
        go_simp
      simp only [Act.put, List.setIfInBounds_toArray, List.set_cons_zero, List.set_cons_succ]
      refine wpAnyH_take (i := 7) (oi := { dst := Option.some 65, op := Op.move (Operand.tmp 6), type := 3, pos := "law.go:96", after := #[{ on := 6, ground := Ground.guard }], guard := Option.some (6, true) }) (v := .int .i64 e1) rfl (by kernel_rfl) (by kernel_rfl) (by kernel_rfl) (fun _ _ _ h => h) (Or.inl ⟨by rfl, ?_⟩) hHeld ?_
      · intro W hSw
        go_simp
      simp only [Act.put, List.setIfInBounds_toArray, List.set_cons_zero, List.set_cons_succ]
      refine wpAnyH_take (i := 8) (oi := { dst := Option.some 66, op := Op.move (Operand.tmp 8), type := 3, pos := "law.go:96", after := #[{ on := 6, ground := Ground.guard }], guard := Option.some (6, true) }) (v := .int .i64 e1) rfl (by kernel_rfl) (by kernel_rfl) (by kernel_rfl) (fun _ _ _ h => h) (Or.inl ⟨by rfl, ?_⟩) hHeld ?_
      · intro W hSw
        go_simp
      simp only [Act.put, List.setIfInBounds_toArray, List.set_cons_zero, List.set_cons_succ]
      refine wpAnyH_take (i := 9) (oi := { dst := Option.some 67, op := Op.binOp BinOp.eql 3 (Operand.tmp 65) (Operand.tmp 66) 3, type := 4, pos := "law.go:96", after := #[{ on := 7, ground := Ground.data }, { on := 8, ground := Ground.data }, { on := 6, ground := Ground.guard }], guard := Option.some (6, true) }) (v := .bool true) rfl (by kernel_rfl) (by kernel_rfl) (by kernel_rfl) (fun _ _ _ h => h) (Or.inl ⟨by rfl, ?_⟩) hHeld ?_
      · intro W hSw
        go_simp
      simp only [Act.put, List.setIfInBounds_toArray, List.set_cons_zero, List.set_cons_succ]
      refine wpAnyH_take (i := 10) (oi := { dst := Option.some 68, op := Op.pick (Operand.tmp 64) (Operand.tmp 67) (Operand.const (Value.bool false)), type := 4, pos := "law.go:96", after := #[{ on := 6, ground := Ground.data }, { on := 9, ground := Ground.data }], guard := Option.none }) (v := .bool true) rfl (by kernel_rfl) (by kernel_rfl) (by kernel_rfl) (fun _ _ _ h => h) (Or.inl ⟨by rfl, ?_⟩) hHeld ?_
      · intro W hSw
        go_simp
      simp only [Act.put, List.setIfInBounds_toArray, List.set_cons_zero, List.set_cons_succ]
      refine wpAnyH_take (i := 11) (oi := { dst := Option.some 69, op := Op.move (Operand.tmp 68), type := 4, pos := "law.go:96", after := #[{ on := 10, ground := Ground.data }, { on := 6, ground := Ground.chain }], guard := Option.none }) (v := .bool true) rfl (by kernel_rfl) (by kernel_rfl) (by kernel_rfl) (fun _ _ _ h => h) (Or.inl ⟨by rfl, ?_⟩) hHeld ?_
      · intro W hSw
        go_simp
      simp only [Act.put, List.setIfInBounds_toArray, List.set_cons_zero, List.set_cons_succ]
      refine wpAnyH_take (i := 12) (oi := { dst := Option.some 70, op := Op.move (Operand.tmp 7), type := 3, pos := "law.go:96", after := #[{ on := 11, ground := Ground.guard }], guard := Option.some (11, true) }) (v := .int .i64 e2) rfl (by kernel_rfl) (by kernel_rfl) (by kernel_rfl) (fun _ _ _ h => h) (Or.inl ⟨by rfl, ?_⟩) hHeld ?_
      · intro W hSw
        go_simp
      simp only [Act.put, List.setIfInBounds_toArray, List.set_cons_zero, List.set_cons_succ]
      refine wpAnyH_take (i := 13) (oi := { dst := Option.some 71, op := Op.move (Operand.tmp 9), type := 3, pos := "law.go:96", after := #[{ on := 11, ground := Ground.guard }], guard := Option.some (11, true) }) (v := .int .i64 e2) rfl (by kernel_rfl) (by kernel_rfl) (by kernel_rfl) (fun _ _ _ h => h) (Or.inl ⟨by rfl, ?_⟩) hHeld ?_
      · intro W hSw
        go_simp
      simp only [Act.put, List.setIfInBounds_toArray, List.set_cons_zero, List.set_cons_succ]
      refine wpAnyH_take (i := 14) (oi := { dst := Option.some 72, op := Op.binOp BinOp.eql 3 (Operand.tmp 70) (Operand.tmp 71) 3, type := 4, pos := "law.go:96", after := #[{ on := 12, ground := Ground.data }, { on := 13, ground := Ground.data }, { on := 11, ground := Ground.guard }], guard := Option.some (11, true) }) (v := .bool true) rfl (by kernel_rfl) (by kernel_rfl) (by kernel_rfl) (fun _ _ _ h => h) (Or.inl ⟨by rfl, ?_⟩) hHeld ?_
      · intro W hSw
        go_simp
      simp only [Act.put, List.setIfInBounds_toArray, List.set_cons_zero, List.set_cons_succ]
      refine wpAnyH_take (i := 15) (oi := { dst := Option.some 73, op := Op.pick (Operand.tmp 69) (Operand.tmp 72) (Operand.const (Value.bool false)), type := 4, pos := "law.go:96", after := #[{ on := 11, ground := Ground.data }, { on := 14, ground := Ground.data }], guard := Option.none }) (v := .bool true) rfl (by kernel_rfl) (by kernel_rfl) (by kernel_rfl) (fun _ _ _ h => h) (Or.inl ⟨by rfl, ?_⟩) hHeld ?_
      · intro W hSw
        go_simp
      simp only [Act.put, List.setIfInBounds_toArray, List.set_cons_zero, List.set_cons_succ]
      refine wpAnyH_take (i := 16) (oi := { dst := Option.some 74, op := Op.move (Operand.tmp 73), type := 4, pos := "law.go:96", after := #[{ on := 15, ground := Ground.data }, { on := 11, ground := Ground.chain }], guard := Option.none }) (v := .bool true) rfl (by kernel_rfl) (by kernel_rfl) (by kernel_rfl) (fun _ _ _ h => h) (Or.inl ⟨by rfl, ?_⟩) hHeld ?_
      · intro W hSw
        go_simp
      simp only [Act.put, List.setIfInBounds_toArray, List.set_cons_zero, List.set_cons_succ]
      refine wpAnyH_take (i := 17) (oi := { dst := Option.some 75, op := Op.move (Operand.tmp 10), type := 3, pos := "law.go:96", after := #[{ on := 16, ground := Ground.guard }], guard := Option.some (16, true) }) (v := .int .i64 t1) rfl (by kernel_rfl) (by kernel_rfl) (by kernel_rfl) (fun _ _ _ h => h) (Or.inl ⟨by rfl, ?_⟩) hHeld ?_
      · intro W hSw
        go_simp
      simp only [Act.put, List.setIfInBounds_toArray, List.set_cons_zero, List.set_cons_succ]
      refine wpAnyH_take (i := 18) (oi := { dst := Option.some 76, op := Op.move (Operand.tmp 12), type := 3, pos := "law.go:96", after := #[{ on := 16, ground := Ground.guard }], guard := Option.some (16, true) }) (v := .int .i64 t1) rfl (by kernel_rfl) (by kernel_rfl) (by kernel_rfl) (fun _ _ _ h => h) (Or.inl ⟨by rfl, ?_⟩) hHeld ?_
      · intro W hSw
        go_simp
      simp only [Act.put, List.setIfInBounds_toArray, List.set_cons_zero, List.set_cons_succ]
      refine wpAnyH_take (i := 19) (oi := { dst := Option.some 77, op := Op.binOp BinOp.eql 3 (Operand.tmp 75) (Operand.tmp 76) 3, type := 4, pos := "law.go:96", after := #[{ on := 17, ground := Ground.data }, { on := 18, ground := Ground.data }, { on := 16, ground := Ground.guard }], guard := Option.some (16, true) }) (v := .bool true) rfl (by kernel_rfl) (by kernel_rfl) (by kernel_rfl) (fun _ _ _ h => h) (Or.inl ⟨by rfl, ?_⟩) hHeld ?_
      · intro W hSw
        go_simp
      simp only [Act.put, List.setIfInBounds_toArray, List.set_cons_zero, List.set_cons_succ]
      refine wpAnyH_take (i := 20) (oi := { dst := Option.some 78, op := Op.pick (Operand.tmp 74) (Operand.tmp 77) (Operand.const (Value.bool false)), type := 4, pos := "law.go:96", after := #[{ on := 16, ground := Ground.data }, { on := 19, ground := Ground.data }], guard := Option.none }) (v := .bool true) rfl (by kernel_rfl) (by kernel_rfl) (by kernel_rfl) (fun _ _ _ h => h) (Or.inl ⟨by rfl, ?_⟩) hHeld ?_
      · intro W hSw
        go_simp
      simp only [Act.put, List.setIfInBounds_toArray, List.set_cons_zero, List.set_cons_succ]
      refine wpAnyH_take (i := 21) (oi := { dst := Option.some 79, op := Op.move (Operand.tmp 78), type := 4, pos := "law.go:96", after := #[{ on := 20, ground := Ground.data }, { on := 16, ground := Ground.chain }], guard := Option.none }) (v := .bool true) rfl (by kernel_rfl) (by kernel_rfl) (by kernel_rfl) (fun _ _ _ h => h) (Or.inl ⟨by rfl, ?_⟩) hHeld ?_
      · intro W hSw
        go_simp
      simp only [Act.put, List.setIfInBounds_toArray, List.set_cons_zero, List.set_cons_succ]
      refine wpAnyH_take (i := 22) (oi := { dst := Option.some 80, op := Op.move (Operand.tmp 11), type := 35, pos := "law.go:96", after := #[{ on := 21, ground := Ground.guard }], guard := Option.some (21, true) }) (v := ev k1) rfl (by kernel_rfl) (by kernel_rfl) (by kernel_rfl) (fun _ _ _ h => h) (Or.inl ⟨by rfl, ?_⟩) hHeld ?_
      · intro W hSw
        go_simp
      simp only [Act.put, List.setIfInBounds_toArray, List.set_cons_zero, List.set_cons_succ]
      refine wpAnyH_take (i := 24) (oi := { dst := Option.some 82, op := Op.move (Operand.tmp 13), type := 3, pos := "law.go:96", after := #[{ on := 21, ground := Ground.guard }], guard := Option.some (21, true) }) (v := .int .i64 (k1 : Int)) rfl (by kernel_rfl) (by kernel_rfl) (by kernel_rfl) (fun _ _ _ h => h) (Or.inl ⟨by rfl, ?_⟩) hHeld ?_
      · intro W hSw
        go_simp
      simp only [Act.put, List.setIfInBounds_toArray, List.set_cons_zero, List.set_cons_succ]
      refine wpAnyH_ready (rs := [23]) (by kernel_rfl) (by simp) ?_
      refine AllReadyH.cons (o := { dst := Option.some 81, op := Op.call { callee := Callee.value (Operand.func 19), args := #[Operand.tmp 80], argTypes := #[35] }, type := 3, pos := "law.go:96", after := #[{ on := 22, ground := Ground.data }, { on := 21, ground := Ground.chain }, { on := 21, ground := Ground.guard }], guard := Option.some (21, true) }) rfl (fun K hK => ?_) AllReadyH.nil
      go_simp
      refine (HNu.out _ _ (H3.out _ (H11.out _ Kw13.out).2.2.2).2.2.2).mono ?_
      rintro y w14 ⟨rfl, hbz⟩
      have hbz : Below W11.heap.size W11 w14 := Kw13.out.trans (hbz.mono Kw13.out.size)
      refine hK.out _ _ (HSS.out _ hbz) (fun hHeld2 => ?_)
      clear hK K hHeld hHeld2
      have Kw14 := Lib.hid hbz
      clear hbz
      have hHeld : Below W11.heap.size W11 w14 := Kw14.out
      refine wpAnyH_take (i := 25) (oi := { dst := Option.some 83, op := Op.binOp BinOp.eql 3 (Operand.tmp 81) (Operand.tmp 82) 3, type := 4, pos := "law.go:96", after := #[{ on := 23, ground := Ground.data }, { on := 24, ground := Ground.data }, { on := 21, ground := Ground.guard }], guard := Option.some (21, true) }) (v := .bool true) rfl (by kernel_rfl) (by kernel_rfl) (by kernel_rfl) (fun _ _ _ h => h) (Or.inl ⟨by rfl, ?_⟩) hHeld ?_
      · intro W hSw
        go_simp
      simp only [Act.put, List.setIfInBounds_toArray, List.set_cons_zero, List.set_cons_succ]
      refine wpAnyH_take (i := 26) (oi := { dst := Option.some 84, op := Op.pick (Operand.tmp 79) (Operand.tmp 83) (Operand.const (Value.bool false)), type := 4, pos := "law.go:96", after := #[{ on := 21, ground := Ground.data }, { on := 25, ground := Ground.data }], guard := Option.none }) (v := .bool true) rfl (by kernel_rfl) (by kernel_rfl) (by kernel_rfl) (fun _ _ _ h => h) (Or.inl ⟨by rfl, ?_⟩) hHeld ?_
      · intro W hSw
        go_simp
      simp only [Act.put, List.setIfInBounds_toArray, List.set_cons_zero, List.set_cons_succ]
      refine wpAnyH_take (i := 27) (oi := { dst := Option.some 85, op := Op.move (Operand.tmp 84), type := 4, pos := "law.go:96", after := #[{ on := 26, ground := Ground.data }, { on := 23, ground := Ground.chain }], guard := Option.none }) (v := .bool true) rfl (by kernel_rfl) (by kernel_rfl) (by kernel_rfl) (fun _ _ _ h => h) (Or.inl ⟨by rfl, ?_⟩) hHeld ?_
      · intro W hSw
        go_simp
      simp only [Act.put, List.setIfInBounds_toArray, List.set_cons_zero, List.set_cons_succ]
      refine wpAnyH_take (i := 28) (oi := { dst := Option.some 86, op := Op.load 41 (Operand.tmp 14), type := 41, pos := "law.go:96", after := #[{ on := 27, ground := Ground.guard }], guard := Option.some (27, true) }) (v := .agg #[.int .i64 p.index, .int .i64 p.term, .int .i64 p.kind, .slice Ap m cp]) rfl (by kernel_rfl) (by kernel_rfl) (by kernel_rfl) (fun _ _ _ h => h) (Or.inl ⟨by rfl, ?_⟩) hHeld ?_
      · intro W hSw
        obtain ⟨⟨⟨z0, z1, z2, z3⟩, -⟩, -⟩ := H11.out _ hSw
        go_simp
      simp only [Act.put, List.setIfInBounds_toArray, List.set_cons_zero, List.set_cons_succ]
      refine wpAnyH_take (i := 31) (oi := { dst := Option.some 89, op := Op.load 44 (Operand.tmp 16), type := 44, pos := "law.go:96", after := #[{ on := 27, ground := Ground.guard }], guard := Option.some (27, true) }) (v := .agg #[.int .i64 p.index, .int .i64 p.term, .int .i64 p.kind, .slice Aq m cq]) rfl (by kernel_rfl) (by kernel_rfl) (by kernel_rfl) (fun _ _ _ h => h) (Or.inl ⟨by rfl, ?_⟩) hHeld ?_
      · intro W hSw
        obtain ⟨⟨-, ⟨z0, z1, z2, z3⟩⟩, -⟩ := H11.out _ hSw
        go_simp
      simp only [Act.put, List.setIfInBounds_toArray, List.set_cons_zero, List.set_cons_succ]
      refine wpAnyH_ready (rs := [29]) (by kernel_rfl) (by simp) ?_
      refine AllReadyH.cons (o := { dst := Option.some 87, op := Op.call { callee := Callee.value (Operand.func 20), args := #[Operand.tmp 86], argTypes := #[41] }, type := 39, pos := "law.go:96", after := #[{ on := 28, ground := Ground.data }, { on := 27, ground := Ground.chain }, { on := 27, ground := Ground.guard }], guard := Option.some (27, true) }) rfl (fun K hK => ?_) AllReadyH.nil
      go_simp
      refine (HEa.out _ _ _ (hG.below (H3.out _ (H11.out _ Kw14.out).2.2.2).2.2.2) (H11.out _ Kw14.out).2.1).mono ?_
      rintro y w15 ⟨A15, c15, rfl, hi15, hbz⟩
      have hbz : Below W11.heap.size W11 w15 := Kw14.out.trans (hbz.mono Kw14.out.size)
      refine hK.out _ _ hbz (fun hHeld2 => ?_)
      clear hK K hHeld hHeld2
      have K15 := Lib.hid (And.intro hi15 hbz)
      clear hi15 hbz
      refine wpAnyH_strong (S' := fun W => Below w15.heap.size w15 W) (fun W hW => K15.out.2.trans (hW.mono K15.out.2.size)) _ _ _ _ ?_
      have hHeld : Below w15.heap.size w15 w15 := Below.refl _ _
      refine wpAnyH_take (i := 30) (oi := { dst := Option.some 88, op := Op.convert 39 9 (Operand.tmp 87), type := 9, pos := "law.go:96", after := #[{ on := 29, ground := Ground.data }, { on := 27, ground := Ground.guard }], guard := Option.some (27, true) }) (v := .string X) rfl (by kernel_rfl) (by kernel_rfl) (by kernel_rfl) (fun _ _ _ h => h) (Or.inl ⟨by rfl, ?_⟩) hHeld ?_
      · intro W hSw
        have hv := conv_bytes (K15.out.1.below hSw).sl_; rw [← HX.out] at hv
        go_simp
      simp only [Act.put, List.setIfInBounds_toArray, List.set_cons_zero, List.set_cons_succ]
      refine wpAnyH_ready (rs := [32]) (by kernel_rfl) (by simp) ?_
      refine AllReadyH.cons (o := { dst := Option.some 90, op := Op.call { callee := Callee.value (Operand.func 21), args := #[Operand.tmp 89], argTypes := #[44] }, type := 39, pos := "law.go:96", after := #[{ on := 31, ground := Ground.data }, { on := 29, ground := Ground.chain }, { on := 27, ground := Ground.guard }], guard := Option.some (27, true) }) rfl (fun K hK => ?_) AllReadyH.nil
      go_simp
      refine (HEr.out _ _ _ (H11.out _ K15.out.2).2.2.1).mono ?_
      rintro y w16 ⟨A16, c16, rfl, hi16, hbz⟩
      refine hK.out _ _ hbz (fun hHeld2 => ?_)
      clear hK K hHeld hHeld2
      have K16 := Lib.hid (And.intro hi16 (And.intro hbz (K15.out.2.trans (hbz.mono K15.out.2.size))))
      clear hi16 hbz
      refine wpAnyH_strong (S' := fun W => Below w16.heap.size w16 W) (fun W hW => K16.out.2.1.trans (hW.mono K16.out.2.1.size)) _ _ _ _ ?_
      have hHeld : Below w16.heap.size w16 w16 := Below.refl _ _
      refine wpAnyH_take (i := 33) (oi := { dst := Option.some 91, op := Op.convert 39 9 (Operand.tmp 90), type := 9, pos := "law.go:96", after := #[{ on := 32, ground := Ground.data }, { on := 27, ground := Ground.guard }], guard := Option.some (27, true) }) (v := .string X) rfl (by kernel_rfl) (by kernel_rfl) (by kernel_rfl) (fun _ _ _ h => h) (Or.inl ⟨by rfl, ?_⟩) hHeld ?_
      · intro W hSw
        have hv := conv_bytes (K16.out.1.below hSw).sl_; rw [← HX.out] at hv
        go_simp
      simp only [Act.put, List.setIfInBounds_toArray, List.set_cons_zero, List.set_cons_succ]
      refine wpAnyH_take (i := 34) (oi := { dst := Option.some 92, op := Op.binOp BinOp.eql 9 (Operand.tmp 88) (Operand.tmp 91) 9, type := 4, pos := "law.go:96", after := #[{ on := 30, ground := Ground.data }, { on := 33, ground := Ground.data }, { on := 27, ground := Ground.guard }], guard := Option.some (27, true) }) (v := .bool true) rfl (by kernel_rfl) (by kernel_rfl) (by kernel_rfl) (fun _ _ _ h => h) (Or.inl ⟨by rfl, ?_⟩) hHeld ?_
      · intro W hSw
        go_simp
      simp only [Act.put, List.setIfInBounds_toArray, List.set_cons_zero, List.set_cons_succ]
      refine wpAnyH_take (i := 35) (oi := { dst := Option.some 93, op := Op.pick (Operand.tmp 85) (Operand.tmp 92) (Operand.const (Value.bool false)), type := 4, pos := "law.go:96", after := #[{ on := 27, ground := Ground.data }, { on := 34, ground := Ground.data }], guard := Option.none }) (v := .bool true) rfl (by kernel_rfl) (by kernel_rfl) (by kernel_rfl) (fun _ _ _ h => h) (Or.inl ⟨by rfl, ?_⟩) hHeld ?_
      · intro W hSw
        go_simp
      simp only [Act.put, List.setIfInBounds_toArray, List.set_cons_zero, List.set_cons_succ]
      refine wpAnyH_take (i := 36) (oi := { dst := Option.some 94, op := Op.move (Operand.tmp 93), type := 4, pos := "law.go:96", after := #[{ on := 35, ground := Ground.data }, { on := 32, ground := Ground.chain }], guard := Option.none }) (v := .bool true) rfl (by kernel_rfl) (by kernel_rfl) (by kernel_rfl) (fun _ _ _ h => h) (Or.inl ⟨by rfl, ?_⟩) hHeld ?_
      · intro W hSw
        go_simp
      simp only [Act.put, List.setIfInBounds_toArray, List.set_cons_zero, List.set_cons_succ]
      refine wpAnyH_take (i := 37) (oi := { dst := Option.some 95, op := Op.move (Operand.tmp 15), type := 35, pos := "law.go:96", after := #[{ on := 36, ground := Ground.guard }], guard := Option.some (36, true) }) (v := ev k2) rfl (by kernel_rfl) (by kernel_rfl) (by kernel_rfl) (fun _ _ _ h => h) (Or.inl ⟨by rfl, ?_⟩) hHeld ?_
      · intro W hSw
        go_simp
      simp only [Act.put, List.setIfInBounds_toArray, List.set_cons_zero, List.set_cons_succ]
      refine wpAnyH_take (i := 39) (oi := { dst := Option.some 97, op := Op.move (Operand.tmp 17), type := 3, pos := "law.go:96", after := #[{ on := 36, ground := Ground.guard }], guard := Option.some (36, true) }) (v := .int .i64 (k2 : Int)) rfl (by kernel_rfl) (by kernel_rfl) (by kernel_rfl) (fun _ _ _ h => h) (Or.inl ⟨by rfl, ?_⟩) hHeld ?_
      · intro W hSw
        go_simp
      simp only [Act.put, List.setIfInBounds_toArray, List.set_cons_zero, List.set_cons_succ]
      refine wpAnyH_ready (rs := [38]) (by kernel_rfl) (by simp) ?_
      refine AllReadyH.cons (o := { dst := Option.some 96, op := Op.call { callee := Callee.value (Operand.func 19), args := #[Operand.tmp 95], argTypes := #[35] }, type := 3, pos := "law.go:96", after := #[{ on := 37, ground := Ground.data }, { on := 36, ground := Ground.chain }, { on := 36, ground := Ground.guard }], guard := Option.some (36, true) }) rfl (fun K hK => ?_) AllReadyH.nil
      go_simp
      refine (HNu.out _ _ (H3.out _ (H11.out _ K16.out.2.2).2.2.2).2.2.2).mono ?_
      rintro y w17 ⟨rfl, hbz⟩
      refine hK.out _ _ hbz (fun hHeld2 => ?_)
      clear hK K hHeld
      have hHeld := hHeld2
      clear hHeld2
      have K17 := Lib.hid hbz
      clear hbz
      refine wpAnyH_take (i := 40) (oi := { dst := Option.some 98, op := Op.binOp BinOp.eql 3 (Operand.tmp 96) (Operand.tmp 97) 3, type := 4, pos := "law.go:96", after := #[{ on := 38, ground := Ground.data }, { on := 39, ground := Ground.data }, { on := 36, ground := Ground.guard }], guard := Option.some (36, true) }) (v := .bool true) rfl (by kernel_rfl) (by kernel_rfl) (by kernel_rfl) (fun _ _ _ h => h) (Or.inl ⟨by rfl, ?_⟩) hHeld ?_
      · intro W hSw
        go_simp
      simp only [Act.put, List.setIfInBounds_toArray, List.set_cons_zero, List.set_cons_succ]
      refine wpAnyH_take (i := 41) (oi := { dst := Option.some 99, op := Op.pick (Operand.tmp 94) (Operand.tmp 98) (Operand.const (Value.bool false)), type := 4, pos := "law.go:96", after := #[{ on := 36, ground := Ground.data }, { on := 40, ground := Ground.data }], guard := Option.none }) (v := .bool true) rfl (by kernel_rfl) (by kernel_rfl) (by kernel_rfl) (fun _ _ _ h => h) (Or.inl ⟨by rfl, ?_⟩) hHeld ?_
      · intro W hSw
        go_simp
      simp only [Act.put, List.setIfInBounds_toArray, List.set_cons_zero, List.set_cons_succ]
      refine wpAnyH_take (i := 42) (oi := { dst := Option.some 100, op := Op.move (Operand.tmp 99), type := 4, pos := "law.go:96", after := #[{ on := 41, ground := Ground.data }, { on := 38, ground := Ground.chain }], guard := Option.none }) (v := .bool true) rfl (by kernel_rfl) (by kernel_rfl) (by kernel_rfl) (fun _ _ _ h => h) (Or.inl ⟨by rfl, ?_⟩) hHeld ?_
      · intro W hSw
        go_simp
      simp only [Act.put, List.setIfInBounds_toArray, List.set_cons_zero, List.set_cons_succ]
      refine wpAnyH_ready (rs := [43]) (by kernel_rfl) (by simp) ?_
      refine AllReadyH.cons (o := { dst := Option.some 101, op := Op.call { callee := Callee.value (Operand.func 9), args := #[], argTypes := #[] }, type := 4, pos := "law.go:96", after := #[{ on := 42, ground := Ground.chain }, { on := 42, ground := Ground.guard }], guard := Option.some (42, true) }) rfl (fun K hK => ?_) AllReadyH.nil
      go_simp
      refine (sureG C _).mono ?_
      rintro y w18 ⟨rfl, hbz⟩
      have hbz : Below w16.heap.size w16 w18 := K17.out.trans (hbz.mono K17.out.size)
      refine hK.out _ _ hbz (fun hHeld2 => ?_)
      clear hK K hHeld
      have hHeld := hHeld2
      clear hHeld2
      have K18 := Lib.hid hbz
      clear hbz
      refine wpAnyH_take (i := 44) (oi := { dst := Option.some 102, op := Op.pick (Operand.tmp 100) (Operand.tmp 101) (Operand.const (Value.bool false)), type := 4, pos := "law.go:96", after := #[{ on := 42, ground := Ground.data }, { on := 43, ground := Ground.data }], guard := Option.none }) (v := .bool true) rfl (by kernel_rfl) (by kernel_rfl) (by kernel_rfl) (fun _ _ _ h => h) (Or.inl ⟨by rfl, ?_⟩) hHeld ?_
      · intro W hSw
        go_simp
      simp only [Act.put, List.setIfInBounds_toArray, List.set_cons_zero, List.set_cons_succ]
      refine wpAnyH_take (i := 45) (oi := { dst := Option.some 4, op := Op.assign (Operand.tmp 102), type := 4, pos := "law.go:96", after := #[{ on := 44, ground := Ground.data }, { on := 43, ground := Ground.chain }, { on := 0, ground := Ground.phase }, { on := 1, ground := Ground.phase }, { on := 2, ground := Ground.phase }, { on := 3, ground := Ground.phase }, { on := 4, ground := Ground.phase }, { on := 5, ground := Ground.phase }, { on := 6, ground := Ground.phase }, { on := 7, ground := Ground.phase }, { on := 8, ground := Ground.phase }, { on := 9, ground := Ground.phase }, { on := 10, ground := Ground.phase }, { on := 11, ground := Ground.phase }, { on := 12, ground := Ground.phase }, { on := 13, ground := Ground.phase }, { on := 14, ground := Ground.phase }, { on := 15, ground := Ground.phase }, { on := 16, ground := Ground.phase }, { on := 17, ground := Ground.phase }, { on := 18, ground := Ground.phase }, { on := 19, ground := Ground.phase }, { on := 20, ground := Ground.phase }, { on := 21, ground := Ground.phase }, { on := 22, ground := Ground.phase }, { on := 23, ground := Ground.phase }, { on := 24, ground := Ground.phase }, { on := 25, ground := Ground.phase }, { on := 26, ground := Ground.phase }, { on := 27, ground := Ground.phase }, { on := 28, ground := Ground.phase }, { on := 29, ground := Ground.phase }, { on := 30, ground := Ground.phase }, { on := 31, ground := Ground.phase }, { on := 32, ground := Ground.phase }, { on := 33, ground := Ground.phase }, { on := 34, ground := Ground.phase }, { on := 35, ground := Ground.phase }, { on := 36, ground := Ground.phase }, { on := 37, ground := Ground.phase }, { on := 38, ground := Ground.phase }, { on := 39, ground := Ground.phase }, { on := 40, ground := Ground.phase }, { on := 41, ground := Ground.phase }, { on := 42, ground := Ground.phase }, { on := 43, ground := Ground.phase }, { on := 44, ground := Ground.phase }], guard := Option.none }) (v := .bool true) rfl (by kernel_rfl) (by kernel_rfl) (by kernel_rfl) (fun _ _ _ h => h) (Or.inl ⟨by rfl, ?_⟩) hHeld ?_
      · intro W hSw
        go_simp
      simp only [Act.put, List.setIfInBounds_toArray, List.set_cons_zero, List.set_cons_succ]
      clear hHeld
      refine wpAnyH_done (by kernel_rfl) ?_ _
      go_wp2_with fail
      go_ret
      exact ⟨rfl, (H3.out _ (H11.out _ (K16.out.2.2.trans (K18.out.mono K16.out.2.2.size))).2.2.2).2.2.2⟩
    | false =>
      have HCx : Hid (∀ W, Below W3.heap.size W3 W → Calls Tryd.prog 17 #[.agg #[.int .i64 l.base, .int .i64 l.term, .slice A1 n c1]] W fun y w' => y = .returned (.iface 72 (.int .i64 1)) ∧ Below W.heap.size W w') := Lib.hid fun W hW => HCa.out _ _ W (H3.out W hW).2.2.1 1 (by rw [← HMY.out] <;> rfl)
      have HSS := Lib.hid fun W (hW : Below W11.heap.size W11 W) => hW
      refine wp_region_held_drew (S := fun W => Below W11.heap.size W11 W) (by kernel_rfl) hd0 (fun hHeld => ?_)
      refine wpAnyH_take (i := 0) (oi := { dst := Option.some 58, op := Op.load 29 (Operand.tmp 5), type := 29, pos := "law.go:96", after := #[], guard := Option.none }) (v := .agg #[.int .i64 l.base, .int .i64 l.term, .slice A1 n c1]) rfl (by kernel_rfl) (by kernel_rfl) (by kernel_rfl) (fun _ _ _ h => h) (Or.inl ⟨by rfl, ?_⟩) hHeld ?_
      · intro W hSw
        obtain ⟨-, ⟨z0, z1, z2⟩, -⟩ := H3.out _ (H11.out _ hSw).2.2.2
        go_simp
      simp only [Act.put, List.setIfInBounds_toArray, List.set_cons_zero, List.set_cons_succ]
      refine wpAnyH_take (i := 3) (oi := { dst := Option.some 61, op := Op.load 24 (Operand.tmp 2), type := 24, pos := "law.go:96", after := #[], guard := Option.none }) (v := .agg #[.int .i64 l.base, .int .i64 l.term, .slice A n c]) rfl (by kernel_rfl) (by kernel_rfl) (by kernel_rfl) (fun _ _ _ h => h) (Or.inl ⟨by rfl, ?_⟩) hHeld ?_
      · intro W hSw
        obtain ⟨⟨z0, z1, z2⟩, -⟩ := H3.out _ (H11.out _ hSw).2.2.2
        go_simp
      simp only [Act.put, List.setIfInBounds_toArray, List.set_cons_zero, List.set_cons_succ]
      refine wpAnyH_ready (rs := [1]) (by kernel_rfl) (by simp) ?_
      refine AllReadyH.cons (o := { dst := Option.some 59, op := Op.call { callee := Callee.value (Operand.func 17), args := #[Operand.tmp 58], argTypes := #[29] }, type := 35, pos := "law.go:96", after := #[{ on := 0, ground := Ground.data }], guard := Option.none }) rfl (fun K hK => ?_) AllReadyH.nil
      go_simp
      refine (HCx.out _ (H11.out _ hd0).2.2.2).mono ?_
      rintro y w12 ⟨rfl, hbz⟩
      have hbz : Below W11.heap.size W11 w12 := hd0.trans hbz
      refine hK.out _ _ (HSS.out _ hbz) (fun hHeld2 => ?_)
      clear hK K hHeld hHeld2
      have Kw12 := Lib.hid hbz
      clear hbz
      have hHeld : Below W11.heap.size W11 w12 := Kw12.out
      refine wpAnyH_take (i := 2) (oi := { dst := Option.some 60, op := Op.binOp BinOp.eql 35 (Operand.tmp 59) (Operand.const Value.nilIface) 35, type := 4, pos := "law.go:96", after := #[{ on := 1, ground := Ground.data }], guard := Option.none }) (v := .bool false) rfl (by kernel_rfl) (by kernel_rfl) (by kernel_rfl) (fun _ _ _ h => h) (Or.inl ⟨by rfl, ?_⟩) hHeld ?_
      · intro W hSw
        go_simp
      simp only [Act.put, List.setIfInBounds_toArray, List.set_cons_zero, List.set_cons_succ]
      refine wpAnyH_ready (rs := [4]) (by kernel_rfl) (by simp) ?_
      refine AllReadyH.cons (o := { dst := Option.some 62, op := Op.call { callee := Callee.value (Operand.func 18), args := #[Operand.tmp 61], argTypes := #[24] }, type := 4, pos := "law.go:96", after := #[{ on := 3, ground := Ground.data }, { on := 1, ground := Ground.chain }], guard := Option.none }) rfl (fun K hK => ?_) AllReadyH.nil
      go_simp
      refine (HMr.out _ (H3.out _ (H11.out _ Kw12.out).2.2.2).2.2.2).mono ?_
      rintro y w13 ⟨rfl, hbz⟩
      have hbz : Below W11.heap.size W11 w13 := Kw12.out.trans (hbz.mono Kw12.out.size)
      refine hK.out _ _ (HSS.out _ hbz) (fun hHeld2 => ?_)
      clear hK K hHeld hHeld2
      have Kw13 := Lib.hid hbz
      clear hbz
      have hHeld : Below W11.heap.size W11 w13 := Kw13.out
      refine wpAnyH_take (i := 5) (oi := { dst := Option.some 63, op := Op.binOp BinOp.eql 4 (Operand.tmp 60) (Operand.tmp 62) 4, type := 4, pos := "law.go:96", after := #[{ on := 2, ground := Ground.data }, { on := 4, ground := Ground.data }], guard := Option.none }) (v := .bool true) rfl (by kernel_rfl) (by kernel_rfl) (by kernel_rfl) (fun _ _ _ h => h) (Or.inl ⟨by rfl, ?_⟩) hHeld ?_
      · intro W hSw
        go_simp
      simp only [Act.put, List.setIfInBounds_toArray, List.set_cons_zero, List.set_cons_succ]
      refine wpAnyH_take (i := 6) (oi := { dst := Option.some 64, op := Op.move (Operand.tmp 63), type := 4, pos := "law.go:96", after := #[{ on := 5, ground := Ground.data }, { on := 4, ground := Ground.chain }], guard := Option.none }) (v := .bool true) rfl (by kernel_rfl) (by kernel_rfl) (by kernel_rfl) (fun _ _ _ h => h) (Or.inl ⟨by rfl, ?_⟩) hHeld ?_
      · intro W hSw
        go_simp
      simp only [Act.put, List.setIfInBounds_toArray, List.set_cons_zero, List.set_cons_succ]
      refine wpAnyH_take (i := 7) (oi := { dst := Option.some 65, op := Op.move (Operand.tmp 6), type := 3, pos := "law.go:96", after := #[{ on := 6, ground := Ground.guard }], guard := Option.some (6, true) }) (v := .int .i64 e1) rfl (by kernel_rfl) (by kernel_rfl) (by kernel_rfl) (fun _ _ _ h => h) (Or.inl ⟨by rfl, ?_⟩) hHeld ?_
      · intro W hSw
        go_simp
      simp only [Act.put, List.setIfInBounds_toArray, List.set_cons_zero, List.set_cons_succ]
      refine wpAnyH_take (i := 8) (oi := { dst := Option.some 66, op := Op.move (Operand.tmp 8), type := 3, pos := "law.go:96", after := #[{ on := 6, ground := Ground.guard }], guard := Option.some (6, true) }) (v := .int .i64 e1) rfl (by kernel_rfl) (by kernel_rfl) (by kernel_rfl) (fun _ _ _ h => h) (Or.inl ⟨by rfl, ?_⟩) hHeld ?_
      · intro W hSw
        go_simp
      simp only [Act.put, List.setIfInBounds_toArray, List.set_cons_zero, List.set_cons_succ]
      refine wpAnyH_take (i := 9) (oi := { dst := Option.some 67, op := Op.binOp BinOp.eql 3 (Operand.tmp 65) (Operand.tmp 66) 3, type := 4, pos := "law.go:96", after := #[{ on := 7, ground := Ground.data }, { on := 8, ground := Ground.data }, { on := 6, ground := Ground.guard }], guard := Option.some (6, true) }) (v := .bool true) rfl (by kernel_rfl) (by kernel_rfl) (by kernel_rfl) (fun _ _ _ h => h) (Or.inl ⟨by rfl, ?_⟩) hHeld ?_
      · intro W hSw
        go_simp
      simp only [Act.put, List.setIfInBounds_toArray, List.set_cons_zero, List.set_cons_succ]
      refine wpAnyH_take (i := 10) (oi := { dst := Option.some 68, op := Op.pick (Operand.tmp 64) (Operand.tmp 67) (Operand.const (Value.bool false)), type := 4, pos := "law.go:96", after := #[{ on := 6, ground := Ground.data }, { on := 9, ground := Ground.data }], guard := Option.none }) (v := .bool true) rfl (by kernel_rfl) (by kernel_rfl) (by kernel_rfl) (fun _ _ _ h => h) (Or.inl ⟨by rfl, ?_⟩) hHeld ?_
      · intro W hSw
        go_simp
      simp only [Act.put, List.setIfInBounds_toArray, List.set_cons_zero, List.set_cons_succ]
      refine wpAnyH_take (i := 11) (oi := { dst := Option.some 69, op := Op.move (Operand.tmp 68), type := 4, pos := "law.go:96", after := #[{ on := 10, ground := Ground.data }, { on := 6, ground := Ground.chain }], guard := Option.none }) (v := .bool true) rfl (by kernel_rfl) (by kernel_rfl) (by kernel_rfl) (fun _ _ _ h => h) (Or.inl ⟨by rfl, ?_⟩) hHeld ?_
      · intro W hSw
        go_simp
      simp only [Act.put, List.setIfInBounds_toArray, List.set_cons_zero, List.set_cons_succ]
      refine wpAnyH_take (i := 12) (oi := { dst := Option.some 70, op := Op.move (Operand.tmp 7), type := 3, pos := "law.go:96", after := #[{ on := 11, ground := Ground.guard }], guard := Option.some (11, true) }) (v := .int .i64 e2) rfl (by kernel_rfl) (by kernel_rfl) (by kernel_rfl) (fun _ _ _ h => h) (Or.inl ⟨by rfl, ?_⟩) hHeld ?_
      · intro W hSw
        go_simp
      simp only [Act.put, List.setIfInBounds_toArray, List.set_cons_zero, List.set_cons_succ]
      refine wpAnyH_take (i := 13) (oi := { dst := Option.some 71, op := Op.move (Operand.tmp 9), type := 3, pos := "law.go:96", after := #[{ on := 11, ground := Ground.guard }], guard := Option.some (11, true) }) (v := .int .i64 e2) rfl (by kernel_rfl) (by kernel_rfl) (by kernel_rfl) (fun _ _ _ h => h) (Or.inl ⟨by rfl, ?_⟩) hHeld ?_
      · intro W hSw
        go_simp
      simp only [Act.put, List.setIfInBounds_toArray, List.set_cons_zero, List.set_cons_succ]
      refine wpAnyH_take (i := 14) (oi := { dst := Option.some 72, op := Op.binOp BinOp.eql 3 (Operand.tmp 70) (Operand.tmp 71) 3, type := 4, pos := "law.go:96", after := #[{ on := 12, ground := Ground.data }, { on := 13, ground := Ground.data }, { on := 11, ground := Ground.guard }], guard := Option.some (11, true) }) (v := .bool true) rfl (by kernel_rfl) (by kernel_rfl) (by kernel_rfl) (fun _ _ _ h => h) (Or.inl ⟨by rfl, ?_⟩) hHeld ?_
      · intro W hSw
        go_simp
      simp only [Act.put, List.setIfInBounds_toArray, List.set_cons_zero, List.set_cons_succ]
      refine wpAnyH_take (i := 15) (oi := { dst := Option.some 73, op := Op.pick (Operand.tmp 69) (Operand.tmp 72) (Operand.const (Value.bool false)), type := 4, pos := "law.go:96", after := #[{ on := 11, ground := Ground.data }, { on := 14, ground := Ground.data }], guard := Option.none }) (v := .bool true) rfl (by kernel_rfl) (by kernel_rfl) (by kernel_rfl) (fun _ _ _ h => h) (Or.inl ⟨by rfl, ?_⟩) hHeld ?_
      · intro W hSw
        go_simp
      simp only [Act.put, List.setIfInBounds_toArray, List.set_cons_zero, List.set_cons_succ]
      refine wpAnyH_take (i := 16) (oi := { dst := Option.some 74, op := Op.move (Operand.tmp 73), type := 4, pos := "law.go:96", after := #[{ on := 15, ground := Ground.data }, { on := 11, ground := Ground.chain }], guard := Option.none }) (v := .bool true) rfl (by kernel_rfl) (by kernel_rfl) (by kernel_rfl) (fun _ _ _ h => h) (Or.inl ⟨by rfl, ?_⟩) hHeld ?_
      · intro W hSw
        go_simp
      simp only [Act.put, List.setIfInBounds_toArray, List.set_cons_zero, List.set_cons_succ]
      refine wpAnyH_take (i := 17) (oi := { dst := Option.some 75, op := Op.move (Operand.tmp 10), type := 3, pos := "law.go:96", after := #[{ on := 16, ground := Ground.guard }], guard := Option.some (16, true) }) (v := .int .i64 t1) rfl (by kernel_rfl) (by kernel_rfl) (by kernel_rfl) (fun _ _ _ h => h) (Or.inl ⟨by rfl, ?_⟩) hHeld ?_
      · intro W hSw
        go_simp
      simp only [Act.put, List.setIfInBounds_toArray, List.set_cons_zero, List.set_cons_succ]
      refine wpAnyH_take (i := 18) (oi := { dst := Option.some 76, op := Op.move (Operand.tmp 12), type := 3, pos := "law.go:96", after := #[{ on := 16, ground := Ground.guard }], guard := Option.some (16, true) }) (v := .int .i64 t1) rfl (by kernel_rfl) (by kernel_rfl) (by kernel_rfl) (fun _ _ _ h => h) (Or.inl ⟨by rfl, ?_⟩) hHeld ?_
      · intro W hSw
        go_simp
      simp only [Act.put, List.setIfInBounds_toArray, List.set_cons_zero, List.set_cons_succ]
      refine wpAnyH_take (i := 19) (oi := { dst := Option.some 77, op := Op.binOp BinOp.eql 3 (Operand.tmp 75) (Operand.tmp 76) 3, type := 4, pos := "law.go:96", after := #[{ on := 17, ground := Ground.data }, { on := 18, ground := Ground.data }, { on := 16, ground := Ground.guard }], guard := Option.some (16, true) }) (v := .bool true) rfl (by kernel_rfl) (by kernel_rfl) (by kernel_rfl) (fun _ _ _ h => h) (Or.inl ⟨by rfl, ?_⟩) hHeld ?_
      · intro W hSw
        go_simp
      simp only [Act.put, List.setIfInBounds_toArray, List.set_cons_zero, List.set_cons_succ]
      refine wpAnyH_take (i := 20) (oi := { dst := Option.some 78, op := Op.pick (Operand.tmp 74) (Operand.tmp 77) (Operand.const (Value.bool false)), type := 4, pos := "law.go:96", after := #[{ on := 16, ground := Ground.data }, { on := 19, ground := Ground.data }], guard := Option.none }) (v := .bool true) rfl (by kernel_rfl) (by kernel_rfl) (by kernel_rfl) (fun _ _ _ h => h) (Or.inl ⟨by rfl, ?_⟩) hHeld ?_
      · intro W hSw
        go_simp
      simp only [Act.put, List.setIfInBounds_toArray, List.set_cons_zero, List.set_cons_succ]
      refine wpAnyH_take (i := 21) (oi := { dst := Option.some 79, op := Op.move (Operand.tmp 78), type := 4, pos := "law.go:96", after := #[{ on := 20, ground := Ground.data }, { on := 16, ground := Ground.chain }], guard := Option.none }) (v := .bool true) rfl (by kernel_rfl) (by kernel_rfl) (by kernel_rfl) (fun _ _ _ h => h) (Or.inl ⟨by rfl, ?_⟩) hHeld ?_
      · intro W hSw
        go_simp
      simp only [Act.put, List.setIfInBounds_toArray, List.set_cons_zero, List.set_cons_succ]
      refine wpAnyH_take (i := 22) (oi := { dst := Option.some 80, op := Op.move (Operand.tmp 11), type := 35, pos := "law.go:96", after := #[{ on := 21, ground := Ground.guard }], guard := Option.some (21, true) }) (v := ev k1) rfl (by kernel_rfl) (by kernel_rfl) (by kernel_rfl) (fun _ _ _ h => h) (Or.inl ⟨by rfl, ?_⟩) hHeld ?_
      · intro W hSw
        go_simp
      simp only [Act.put, List.setIfInBounds_toArray, List.set_cons_zero, List.set_cons_succ]
      refine wpAnyH_take (i := 24) (oi := { dst := Option.some 82, op := Op.move (Operand.tmp 13), type := 3, pos := "law.go:96", after := #[{ on := 21, ground := Ground.guard }], guard := Option.some (21, true) }) (v := .int .i64 (k1 : Int)) rfl (by kernel_rfl) (by kernel_rfl) (by kernel_rfl) (fun _ _ _ h => h) (Or.inl ⟨by rfl, ?_⟩) hHeld ?_
      · intro W hSw
        go_simp
      simp only [Act.put, List.setIfInBounds_toArray, List.set_cons_zero, List.set_cons_succ]
      refine wpAnyH_ready (rs := [23]) (by kernel_rfl) (by simp) ?_
      refine AllReadyH.cons (o := { dst := Option.some 81, op := Op.call { callee := Callee.value (Operand.func 19), args := #[Operand.tmp 80], argTypes := #[35] }, type := 3, pos := "law.go:96", after := #[{ on := 22, ground := Ground.data }, { on := 21, ground := Ground.chain }, { on := 21, ground := Ground.guard }], guard := Option.some (21, true) }) rfl (fun K hK => ?_) AllReadyH.nil
      go_simp
      refine (HNu.out _ _ (H3.out _ (H11.out _ Kw13.out).2.2.2).2.2.2).mono ?_
      rintro y w14 ⟨rfl, hbz⟩
      have hbz : Below W11.heap.size W11 w14 := Kw13.out.trans (hbz.mono Kw13.out.size)
      refine hK.out _ _ (HSS.out _ hbz) (fun hHeld2 => ?_)
      clear hK K hHeld hHeld2
      have Kw14 := Lib.hid hbz
      clear hbz
      have hHeld : Below W11.heap.size W11 w14 := Kw14.out
      refine wpAnyH_take (i := 25) (oi := { dst := Option.some 83, op := Op.binOp BinOp.eql 3 (Operand.tmp 81) (Operand.tmp 82) 3, type := 4, pos := "law.go:96", after := #[{ on := 23, ground := Ground.data }, { on := 24, ground := Ground.data }, { on := 21, ground := Ground.guard }], guard := Option.some (21, true) }) (v := .bool true) rfl (by kernel_rfl) (by kernel_rfl) (by kernel_rfl) (fun _ _ _ h => h) (Or.inl ⟨by rfl, ?_⟩) hHeld ?_
      · intro W hSw
        go_simp
      simp only [Act.put, List.setIfInBounds_toArray, List.set_cons_zero, List.set_cons_succ]
      refine wpAnyH_take (i := 26) (oi := { dst := Option.some 84, op := Op.pick (Operand.tmp 79) (Operand.tmp 83) (Operand.const (Value.bool false)), type := 4, pos := "law.go:96", after := #[{ on := 21, ground := Ground.data }, { on := 25, ground := Ground.data }], guard := Option.none }) (v := .bool true) rfl (by kernel_rfl) (by kernel_rfl) (by kernel_rfl) (fun _ _ _ h => h) (Or.inl ⟨by rfl, ?_⟩) hHeld ?_
      · intro W hSw
        go_simp
      simp only [Act.put, List.setIfInBounds_toArray, List.set_cons_zero, List.set_cons_succ]
      refine wpAnyH_take (i := 27) (oi := { dst := Option.some 85, op := Op.move (Operand.tmp 84), type := 4, pos := "law.go:96", after := #[{ on := 26, ground := Ground.data }, { on := 23, ground := Ground.chain }], guard := Option.none }) (v := .bool true) rfl (by kernel_rfl) (by kernel_rfl) (by kernel_rfl) (fun _ _ _ h => h) (Or.inl ⟨by rfl, ?_⟩) hHeld ?_
      · intro W hSw
        go_simp
      simp only [Act.put, List.setIfInBounds_toArray, List.set_cons_zero, List.set_cons_succ]
      refine wpAnyH_take (i := 28) (oi := { dst := Option.some 86, op := Op.load 41 (Operand.tmp 14), type := 41, pos := "law.go:96", after := #[{ on := 27, ground := Ground.guard }], guard := Option.some (27, true) }) (v := .agg #[.int .i64 p.index, .int .i64 p.term, .int .i64 p.kind, .slice Ap m cp]) rfl (by kernel_rfl) (by kernel_rfl) (by kernel_rfl) (fun _ _ _ h => h) (Or.inl ⟨by rfl, ?_⟩) hHeld ?_
      · intro W hSw
        obtain ⟨⟨⟨z0, z1, z2, z3⟩, -⟩, -⟩ := H11.out _ hSw
        go_simp
      simp only [Act.put, List.setIfInBounds_toArray, List.set_cons_zero, List.set_cons_succ]
      refine wpAnyH_take (i := 31) (oi := { dst := Option.some 89, op := Op.load 44 (Operand.tmp 16), type := 44, pos := "law.go:96", after := #[{ on := 27, ground := Ground.guard }], guard := Option.some (27, true) }) (v := .agg #[.int .i64 p.index, .int .i64 p.term, .int .i64 p.kind, .slice Aq m cq]) rfl (by kernel_rfl) (by kernel_rfl) (by kernel_rfl) (fun _ _ _ h => h) (Or.inl ⟨by rfl, ?_⟩) hHeld ?_
      · intro W hSw
        obtain ⟨⟨-, ⟨z0, z1, z2, z3⟩⟩, -⟩ := H11.out _ hSw
        go_simp
      simp only [Act.put, List.setIfInBounds_toArray, List.set_cons_zero, List.set_cons_succ]
      refine wpAnyH_ready (rs := [29]) (by kernel_rfl) (by simp) ?_
      refine AllReadyH.cons (o := { dst := Option.some 87, op := Op.call { callee := Callee.value (Operand.func 20), args := #[Operand.tmp 86], argTypes := #[41] }, type := 39, pos := "law.go:96", after := #[{ on := 28, ground := Ground.data }, { on := 27, ground := Ground.chain }, { on := 27, ground := Ground.guard }], guard := Option.some (27, true) }) rfl (fun K hK => ?_) AllReadyH.nil
      go_simp
      refine (HEa.out _ _ _ (hG.below (H3.out _ (H11.out _ Kw14.out).2.2.2).2.2.2) (H11.out _ Kw14.out).2.1).mono ?_
      rintro y w15 ⟨A15, c15, rfl, hi15, hbz⟩
      have hbz : Below W11.heap.size W11 w15 := Kw14.out.trans (hbz.mono Kw14.out.size)
      refine hK.out _ _ hbz (fun hHeld2 => ?_)
      clear hK K hHeld hHeld2
      have K15 := Lib.hid (And.intro hi15 hbz)
      clear hi15 hbz
      refine wpAnyH_strong (S' := fun W => Below w15.heap.size w15 W) (fun W hW => K15.out.2.trans (hW.mono K15.out.2.size)) _ _ _ _ ?_
      have hHeld : Below w15.heap.size w15 w15 := Below.refl _ _
      refine wpAnyH_take (i := 30) (oi := { dst := Option.some 88, op := Op.convert 39 9 (Operand.tmp 87), type := 9, pos := "law.go:96", after := #[{ on := 29, ground := Ground.data }, { on := 27, ground := Ground.guard }], guard := Option.some (27, true) }) (v := .string X) rfl (by kernel_rfl) (by kernel_rfl) (by kernel_rfl) (fun _ _ _ h => h) (Or.inl ⟨by rfl, ?_⟩) hHeld ?_
      · intro W hSw
        have hv := conv_bytes (K15.out.1.below hSw).sl_; rw [← HX.out] at hv
        go_simp
      simp only [Act.put, List.setIfInBounds_toArray, List.set_cons_zero, List.set_cons_succ]
      refine wpAnyH_ready (rs := [32]) (by kernel_rfl) (by simp) ?_
      refine AllReadyH.cons (o := { dst := Option.some 90, op := Op.call { callee := Callee.value (Operand.func 21), args := #[Operand.tmp 89], argTypes := #[44] }, type := 39, pos := "law.go:96", after := #[{ on := 31, ground := Ground.data }, { on := 29, ground := Ground.chain }, { on := 27, ground := Ground.guard }], guard := Option.some (27, true) }) rfl (fun K hK => ?_) AllReadyH.nil
      go_simp
      refine (HEr.out _ _ _ (H11.out _ K15.out.2).2.2.1).mono ?_
      rintro y w16 ⟨A16, c16, rfl, hi16, hbz⟩
      refine hK.out _ _ hbz (fun hHeld2 => ?_)
      clear hK K hHeld hHeld2
      have K16 := Lib.hid (And.intro hi16 (And.intro hbz (K15.out.2.trans (hbz.mono K15.out.2.size))))
      clear hi16 hbz
      refine wpAnyH_strong (S' := fun W => Below w16.heap.size w16 W) (fun W hW => K16.out.2.1.trans (hW.mono K16.out.2.1.size)) _ _ _ _ ?_
      have hHeld : Below w16.heap.size w16 w16 := Below.refl _ _
      refine wpAnyH_take (i := 33) (oi := { dst := Option.some 91, op := Op.convert 39 9 (Operand.tmp 90), type := 9, pos := "law.go:96", after := #[{ on := 32, ground := Ground.data }, { on := 27, ground := Ground.guard }], guard := Option.some (27, true) }) (v := .string X) rfl (by kernel_rfl) (by kernel_rfl) (by kernel_rfl) (fun _ _ _ h => h) (Or.inl ⟨by rfl, ?_⟩) hHeld ?_
      · intro W hSw
        have hv := conv_bytes (K16.out.1.below hSw).sl_; rw [← HX.out] at hv
        go_simp
      simp only [Act.put, List.setIfInBounds_toArray, List.set_cons_zero, List.set_cons_succ]
      refine wpAnyH_take (i := 34) (oi := { dst := Option.some 92, op := Op.binOp BinOp.eql 9 (Operand.tmp 88) (Operand.tmp 91) 9, type := 4, pos := "law.go:96", after := #[{ on := 30, ground := Ground.data }, { on := 33, ground := Ground.data }, { on := 27, ground := Ground.guard }], guard := Option.some (27, true) }) (v := .bool true) rfl (by kernel_rfl) (by kernel_rfl) (by kernel_rfl) (fun _ _ _ h => h) (Or.inl ⟨by rfl, ?_⟩) hHeld ?_
      · intro W hSw
        go_simp
      simp only [Act.put, List.setIfInBounds_toArray, List.set_cons_zero, List.set_cons_succ]
      refine wpAnyH_take (i := 35) (oi := { dst := Option.some 93, op := Op.pick (Operand.tmp 85) (Operand.tmp 92) (Operand.const (Value.bool false)), type := 4, pos := "law.go:96", after := #[{ on := 27, ground := Ground.data }, { on := 34, ground := Ground.data }], guard := Option.none }) (v := .bool true) rfl (by kernel_rfl) (by kernel_rfl) (by kernel_rfl) (fun _ _ _ h => h) (Or.inl ⟨by rfl, ?_⟩) hHeld ?_
      · intro W hSw
        go_simp
      simp only [Act.put, List.setIfInBounds_toArray, List.set_cons_zero, List.set_cons_succ]
      refine wpAnyH_take (i := 36) (oi := { dst := Option.some 94, op := Op.move (Operand.tmp 93), type := 4, pos := "law.go:96", after := #[{ on := 35, ground := Ground.data }, { on := 32, ground := Ground.chain }], guard := Option.none }) (v := .bool true) rfl (by kernel_rfl) (by kernel_rfl) (by kernel_rfl) (fun _ _ _ h => h) (Or.inl ⟨by rfl, ?_⟩) hHeld ?_
      · intro W hSw
        go_simp
      simp only [Act.put, List.setIfInBounds_toArray, List.set_cons_zero, List.set_cons_succ]
      refine wpAnyH_take (i := 37) (oi := { dst := Option.some 95, op := Op.move (Operand.tmp 15), type := 35, pos := "law.go:96", after := #[{ on := 36, ground := Ground.guard }], guard := Option.some (36, true) }) (v := ev k2) rfl (by kernel_rfl) (by kernel_rfl) (by kernel_rfl) (fun _ _ _ h => h) (Or.inl ⟨by rfl, ?_⟩) hHeld ?_
      · intro W hSw
        go_simp
      simp only [Act.put, List.setIfInBounds_toArray, List.set_cons_zero, List.set_cons_succ]
      refine wpAnyH_take (i := 39) (oi := { dst := Option.some 97, op := Op.move (Operand.tmp 17), type := 3, pos := "law.go:96", after := #[{ on := 36, ground := Ground.guard }], guard := Option.some (36, true) }) (v := .int .i64 (k2 : Int)) rfl (by kernel_rfl) (by kernel_rfl) (by kernel_rfl) (fun _ _ _ h => h) (Or.inl ⟨by rfl, ?_⟩) hHeld ?_
      · intro W hSw
        go_simp
      simp only [Act.put, List.setIfInBounds_toArray, List.set_cons_zero, List.set_cons_succ]
      refine wpAnyH_ready (rs := [38]) (by kernel_rfl) (by simp) ?_
      refine AllReadyH.cons (o := { dst := Option.some 96, op := Op.call { callee := Callee.value (Operand.func 19), args := #[Operand.tmp 95], argTypes := #[35] }, type := 3, pos := "law.go:96", after := #[{ on := 37, ground := Ground.data }, { on := 36, ground := Ground.chain }, { on := 36, ground := Ground.guard }], guard := Option.some (36, true) }) rfl (fun K hK => ?_) AllReadyH.nil
      go_simp
      refine (HNu.out _ _ (H3.out _ (H11.out _ K16.out.2.2).2.2.2).2.2.2).mono ?_
      rintro y w17 ⟨rfl, hbz⟩
      refine hK.out _ _ hbz (fun hHeld2 => ?_)
      clear hK K hHeld
      have hHeld := hHeld2
      clear hHeld2
      have K17 := Lib.hid hbz
      clear hbz
      refine wpAnyH_take (i := 40) (oi := { dst := Option.some 98, op := Op.binOp BinOp.eql 3 (Operand.tmp 96) (Operand.tmp 97) 3, type := 4, pos := "law.go:96", after := #[{ on := 38, ground := Ground.data }, { on := 39, ground := Ground.data }, { on := 36, ground := Ground.guard }], guard := Option.some (36, true) }) (v := .bool true) rfl (by kernel_rfl) (by kernel_rfl) (by kernel_rfl) (fun _ _ _ h => h) (Or.inl ⟨by rfl, ?_⟩) hHeld ?_
      · intro W hSw
        go_simp
      simp only [Act.put, List.setIfInBounds_toArray, List.set_cons_zero, List.set_cons_succ]
      refine wpAnyH_take (i := 41) (oi := { dst := Option.some 99, op := Op.pick (Operand.tmp 94) (Operand.tmp 98) (Operand.const (Value.bool false)), type := 4, pos := "law.go:96", after := #[{ on := 36, ground := Ground.data }, { on := 40, ground := Ground.data }], guard := Option.none }) (v := .bool true) rfl (by kernel_rfl) (by kernel_rfl) (by kernel_rfl) (fun _ _ _ h => h) (Or.inl ⟨by rfl, ?_⟩) hHeld ?_
      · intro W hSw
        go_simp
      simp only [Act.put, List.setIfInBounds_toArray, List.set_cons_zero, List.set_cons_succ]
      refine wpAnyH_take (i := 42) (oi := { dst := Option.some 100, op := Op.move (Operand.tmp 99), type := 4, pos := "law.go:96", after := #[{ on := 41, ground := Ground.data }, { on := 38, ground := Ground.chain }], guard := Option.none }) (v := .bool true) rfl (by kernel_rfl) (by kernel_rfl) (by kernel_rfl) (fun _ _ _ h => h) (Or.inl ⟨by rfl, ?_⟩) hHeld ?_
      · intro W hSw
        go_simp
      simp only [Act.put, List.setIfInBounds_toArray, List.set_cons_zero, List.set_cons_succ]
      refine wpAnyH_ready (rs := [43]) (by kernel_rfl) (by simp) ?_
      refine AllReadyH.cons (o := { dst := Option.some 101, op := Op.call { callee := Callee.value (Operand.func 9), args := #[], argTypes := #[] }, type := 4, pos := "law.go:96", after := #[{ on := 42, ground := Ground.chain }, { on := 42, ground := Ground.guard }], guard := Option.some (42, true) }) rfl (fun K hK => ?_) AllReadyH.nil
      go_simp
      refine (sureG C _).mono ?_
      rintro y w18 ⟨rfl, hbz⟩
      have hbz : Below w16.heap.size w16 w18 := K17.out.trans (hbz.mono K17.out.size)
      refine hK.out _ _ hbz (fun hHeld2 => ?_)
      clear hK K hHeld
      have hHeld := hHeld2
      clear hHeld2
      have K18 := Lib.hid hbz
      clear hbz
      refine wpAnyH_take (i := 44) (oi := { dst := Option.some 102, op := Op.pick (Operand.tmp 100) (Operand.tmp 101) (Operand.const (Value.bool false)), type := 4, pos := "law.go:96", after := #[{ on := 42, ground := Ground.data }, { on := 43, ground := Ground.data }], guard := Option.none }) (v := .bool true) rfl (by kernel_rfl) (by kernel_rfl) (by kernel_rfl) (fun _ _ _ h => h) (Or.inl ⟨by rfl, ?_⟩) hHeld ?_
      · intro W hSw
        go_simp
      simp only [Act.put, List.setIfInBounds_toArray, List.set_cons_zero, List.set_cons_succ]
      refine wpAnyH_take (i := 45) (oi := { dst := Option.some 4, op := Op.assign (Operand.tmp 102), type := 4, pos := "law.go:96", after := #[{ on := 44, ground := Ground.data }, { on := 43, ground := Ground.chain }, { on := 0, ground := Ground.phase }, { on := 1, ground := Ground.phase }, { on := 2, ground := Ground.phase }, { on := 3, ground := Ground.phase }, { on := 4, ground := Ground.phase }, { on := 5, ground := Ground.phase }, { on := 6, ground := Ground.phase }, { on := 7, ground := Ground.phase }, { on := 8, ground := Ground.phase }, { on := 9, ground := Ground.phase }, { on := 10, ground := Ground.phase }, { on := 11, ground := Ground.phase }, { on := 12, ground := Ground.phase }, { on := 13, ground := Ground.phase }, { on := 14, ground := Ground.phase }, { on := 15, ground := Ground.phase }, { on := 16, ground := Ground.phase }, { on := 17, ground := Ground.phase }, { on := 18, ground := Ground.phase }, { on := 19, ground := Ground.phase }, { on := 20, ground := Ground.phase }, { on := 21, ground := Ground.phase }, { on := 22, ground := Ground.phase }, { on := 23, ground := Ground.phase }, { on := 24, ground := Ground.phase }, { on := 25, ground := Ground.phase }, { on := 26, ground := Ground.phase }, { on := 27, ground := Ground.phase }, { on := 28, ground := Ground.phase }, { on := 29, ground := Ground.phase }, { on := 30, ground := Ground.phase }, { on := 31, ground := Ground.phase }, { on := 32, ground := Ground.phase }, { on := 33, ground := Ground.phase }, { on := 34, ground := Ground.phase }, { on := 35, ground := Ground.phase }, { on := 36, ground := Ground.phase }, { on := 37, ground := Ground.phase }, { on := 38, ground := Ground.phase }, { on := 39, ground := Ground.phase }, { on := 40, ground := Ground.phase }, { on := 41, ground := Ground.phase }, { on := 42, ground := Ground.phase }, { on := 43, ground := Ground.phase }, { on := 44, ground := Ground.phase }], guard := Option.none }) (v := .bool true) rfl (by kernel_rfl) (by kernel_rfl) (by kernel_rfl) (fun _ _ _ h => h) (Or.inl ⟨by rfl, ?_⟩) hHeld ?_
      · intro W hSw
        go_simp
      simp only [Act.put, List.setIfInBounds_toArray, List.set_cons_zero, List.set_cons_succ]
      clear hHeld
      refine wpAnyH_done (by kernel_rfl) ?_ _
      go_wp2_with fail
      go_ret
      exact ⟨rfl, (H3.out _ (H11.out _ (K16.out.2.2.trans (K18.out.mono K16.out.2.2.size))).2.2.2).2.2.2⟩

end Go.Proofs.YtlngcfaadfkbnaaDoor.pk
