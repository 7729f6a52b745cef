/-
  The law PackNumbers' own walk: two numbers are laid as the document lays them, and taken off as the document takes them.
-/
import Derived.Test.YteblpfnmcbehmaaDoorRef5
import Derived.Test.YteblpfnmcbehmaaDoorRefW
import Derived.Test.YteblpfnmcbehmaaDoorSure
import Derived.Test.YteblpfnmcbehmaaDoorLay
import Derived.Test.YteblpfnmcbehmaaDoorTailQ
import Derived.Deep.RegionHeld3
import Derived.Lib.QuietBelow
import Derived.BigQuiet
namespace Go.Proofs.YteblpfnmcbehmaaDoor.pk
open Go Go.RowKit
set_option maxRecDepth 100000

theorem WR.below {w w' : World} {B p : Nat} {v : Value} {bs : List UInt8} (h : WR w B p v bs) (hb : Below w.heap.size w w') : WR w' B p v bs := by
  refine ⟨h.low, (hb.block p h.lt).trans h.blk, ?_⟩
  refine h.own.kept (grown_below hb (some w.heap.size)) (Or.inr fun e => ?_)
  have := (h.own.lt _ e).2
  omega

theorem undrew2 {w w' : World} (h : Below w.drew.heap.size w.drew w') : Below w.heap.size w w' := ⟨h.os, h.tape, h.output, h.size, h.block⟩

theorem lInt_len (k : Int) (h0 : -9223372036854775808 ≤ k) (h1 : k ≤ 9223372036854775807) : (lInt k).length ≤ 23 := by
  have hd := decDigits_le k.natAbs (by omega)
  unfold lInt Lib.itoa
  by_cases hk : k < 0
  · rw [if_pos hk]; simp; omega
  · rw [if_neg hk, show k.toNat = k.natAbs from by omega]; simp; omega

set_option maxHeartbeats 4000000 in
theorem numbers_true (n0 n1 : Nat) (hn0 : n0 < 18446744073709551616) (k : Int) (hk0 : -9223372036854775808 ≤ k) (hk1 : k ≤ 9223372036854775807) (A : Option Addr) (n c : Nat) (bs : List UInt8) (w : World) (hs : Std w)
    (h : Sl w w.heap.size (.slice A n c) bs) (hl : bs.length ≤ 140737488355328) :
    Calls Tryd.prog 3 #[.agg #[.int .u64 (n0 : Int), .int .u64 (n1 : Int)], .int .i64 k, .slice A n c] w fun x w' => x = .returned (.bool true) ∧ Below w.heap.size w w' := by
  have hG := hs.size
  obtain ⟨W0, hW0⟩ : ∃ W0, W0 = w.alloc (.cells #[.int .u64 (n0 : Int), .int .u64 (n1 : Int)] 23) := ⟨_, rfl⟩
  have hb0 : Below w.heap.size w W0 := by rw [hW0]; exact (Below.refl _ _).alloc (Nat.le_refl _) _
  have hX : w.heap.size < W0.heap.size := by rw [hW0]; simp
  have q0 : W0.cell? ⟨w.heap.size, 0, none⟩ = some (.int .u64 (n0 : Int)) := by rw [hW0]; simp
  have q1 : W0.cell? ⟨w.heap.size, 1, none⟩ = some (.int .u64 (n1 : Int)) := by rw [hW0]; simp
  have HB0 := Lib.hid hb0
  have HS0 := Lib.hid (hs.below hG hb0)
  have HS := Lib.hid hs
  have H := Lib.hid h
  go_enter Tryd.func3, Tryd.ntmps3
  go_wp2_with fail
  rw [← hW0]
  clear hW0 hb0 h hs
  go_wp2_with fail
  go_region_held3 (fun W => W.cell? ⟨w.heap.size, 0, none⟩ = some (.int .u64 (n0 : Int)) ∧ W.cell? ⟨w.heap.size, 1, none⟩ = some (.int .u64 (n1 : Int)))
    (first | (refine ⟨?_, ?_⟩ <;> assumption) | go_keep)
    (first
      | (go_at_call 8; refine (New_any _).mono ?_; rintro x w1 ⟨rfl, h2, hb2'⟩; have hb2 := undrew2 hb2'; have H2 := Lib.hid (show WR w1 W0.heap.size W0.heap.size _ [] from h2); have HB2 := Lib.hid hb2; have q20 := (hb2.cell (p := ⟨w.heap.size, 0, none⟩) hX).trans q0; have q21 := (hb2.cell (p := ⟨w.heap.size, 1, none⟩) hX).trans q1; clear h2 hb2 hb2')
      | (go_at_call 9; go_must (refine (Writer_Uint W0.heap.size W0.heap.size n0 hn0 _ [] _ (HS0.out.below (Nat.le_trans hG HB0.out.size) HB2.out) (Nat.le_trans hG HB0.out.size) H2.out (by simp)).mono ?_; rintro x w2 ⟨v2, rfl, h3, k3⟩; have H3 := Lib.hid h3; have HB3 := Lib.hid (HB2.out.trans k3.below); have q30 := (HB3.out.cell (p := ⟨w.heap.size, 0, none⟩) hX).trans q0; have q31 := (HB3.out.cell (p := ⟨w.heap.size, 1, none⟩) hX).trans q1; clear h3 k3))
      | (go_at_call 10; go_must (refine (Writer_Int W0.heap.size W0.heap.size k hk0 hk1 _ _ _ (HS0.out.below (Nat.le_trans hG HB0.out.size) HB3.out) (Nat.le_trans hG HB0.out.size) H3.out (by have := decDigits_le n0 hn0; simp [lUint]; omega)).mono ?_; rintro x w3 ⟨v3, rfl, h4, k4⟩; have H4 := Lib.hid h4; have HB4 := Lib.hid (HB3.out.trans k4.below); have q40 := (HB4.out.cell (p := ⟨w.heap.size, 0, none⟩) hX).trans q0; have q41 := (HB4.out.cell (p := ⟨w.heap.size, 1, none⟩) hX).trans q1; clear h4 k4)))
  have hL : (lUint n0 ++ lInt k).length ≤ 45 := by
    have h1 := decDigits_le n0 hn0
    have h2 : (lInt k).length ≤ 23 := lInt_len k hk0 hk1
    rw [List.length_append]
    unfold lUint
    simp
    omega
  have hL0 : (lUint n0).length ≤ 22 := by
    have h1 := decDigits_le n0 hn0
    unfold lUint
    simp
    omega
  have H4' := Lib.hid (show WR w3 W0.heap.size W0.heap.size v3 (lUint n0 ++ lInt k) from by simpa using H4.out)
  have HBw3 := Lib.hid (HB0.out.trans (HB4.out.mono HB0.out.size))
  have hXw : w.heap.size < w3.heap.size := Nat.lt_of_lt_of_le hX HB4.out.size
  obtain ⟨s1, x1, hs1⟩ : ∃ s1 x1, rUint n1 (bs, 0) = (s1, x1) := ⟨_, _, rfl⟩
  obtain ⟨L1, k1⟩ := s1
  obtain ⟨s2, y2, hs2⟩ : ∃ s2 y2, rInt (L1, k1) = (s2, y2) := ⟨_, _, rfl⟩
  obtain ⟨L2, k2⟩ := s2
  have HS1 := Lib.hid hs1
  have HS2 := Lib.hid hs2
  have HLL := Lib.hid hL
  have HLL0 := Lib.hid hL0
  rename_i hHeld
  clear hHeld q20 q21 q30 q31 H2 HB2 H3 HB3 H4 hs1 hs2 hL hL0 q0 q1
  go_wp2_with (first
    | (go_at_call 12; go_must (refine (RefUint_any none 0 0 n0 hn0 [] _ 0 (Sl.nil_ _ _) (by simp)).mono ?_; rintro x w4 ⟨v4, rfl, hO4, hb4⟩; obtain ⟨A4, c4, rfl, hx4⟩ := Sl.of_own hO4 w4.heap.size (fun g hg => (hO4.lt g hg).2); have T4 := Lib.hid (show Sl w4 w4.heap.size (.slice A4 ([] ++ lUint n0).length c4) ([] ++ lUint n0) from ⟨A4, c4, rfl, hx4⟩); have HB34 := Lib.hid hb4; clear hO4 hb4 hx4))
    | (go_at_call 11; go_must (refine (RefInt_any A4 _ c4 k hk0 hk1 ([] ++ lUint n0) _ _ T4.out (by have := HLL0.out; simp; omega)).mono ?_; rintro x w5 ⟨v5, rfl, hO5, hb5⟩; obtain ⟨A5, c5, hv5, hx5⟩ := Sl.of_own hO5 w5.heap.size (fun g hg => (hO5.lt g hg).2); obtain ⟨N5, hN5⟩ : ∃ N5, N5 = ([] ++ lUint n0 ++ lInt k).length := ⟨_, rfl⟩; rw [← hN5] at hv5; subst hv5; have T5 := Lib.hid (show Sl w5 w5.heap.size (.slice A5 N5 c5) (lUint n0 ++ lInt k) from ⟨A5, c5, by rw [hN5]; rfl, hx5⟩); clear hN5; have HB35 := Lib.hid (HB34.out.trans (hb5.mono HB34.out.size)); have HBw5 := Lib.hid (HBw3.out.trans (HB35.out.mono HBw3.out.size)); have HSw5 := Lib.hid (HS.out.below hG HBw5.out); clear hO5 hb5 hx5))
    | (go_at_call 13; go_must (refine (Read_any A n c bs _ _ (H.out.below HBw5.out) hl).mono ?_; rintro x w6 ⟨p, v6, rfl, hp6, h6, hb6⟩; have H6 := Lib.hid h6; have HB56 := Lib.hid hb6; have HSw6 := Lib.hid (HSw5.out.below (Nat.le_trans hG HBw5.out.size) hb6); clear h6 hb6))
    | (go_at_call 14; go_must (refine (Uint_any p n1 (bs, 0) _ _ HSw6.out H6.out).mono ?_; rw [HS1.out]; rintro x w7 ⟨v7, rfl, h7, hg7⟩; have H7 := Lib.hid h7; have HB57 := Lib.hid (HB56.out.grown hg7 HB56.out.size (fun k hk => by injection hk with hk; omega)); have HSw7 := Lib.hid (HSw5.out.below (Nat.le_trans hG HBw5.out.size) HB57.out); clear h7 hg7))
    | (go_at_call 15; go_must (refine (Int_any p (L1, k1) _ _ HSw7.out H7.out).mono ?_; rw [HS2.out]; rintro x w8 ⟨v8, rfl, h8, hg8⟩; have H8 := Lib.hid h8; have HB58 := Lib.hid (HB57.out.grown hg8 HB57.out.size (fun k hk => by injection hk with hk; omega)); have HBw8 := Lib.hid (HBw5.out.trans (HB58.out.mono HBw5.out.size)); clear h8 hg8))
    | (go_at_call 16; go_must (refine (ReadUint_any A n c 0 n1 bs _ HBw8.out.size (H.out.below HBw8.out)).mono ?_; rw [HS1.out]; rintro x w9 ⟨A9, c9, rfl, h9, hb9⟩; have H9 := Lib.hid h9; have HB89 := Lib.hid hb9; clear h9 hb9)))
  obtain ⟨wa, hwa⟩ : ∃ wa, wa = w9.alloc (Obj.cells #[Value.slice A9 L1.length c9, Value.int IntKind.i64 (k1 : Int)] 36) := ⟨_, rfl⟩
  rw [← hwa]
  have hb9a : Below w9.heap.size w9 wa := by rw [hwa]; exact (Below.refl _ _).alloc (Nat.le_refl _) _
  have hB89 := HB89.out
  have hBw9 : Below w.heap.size w w9 := HBw8.out.trans (hB89.mono HBw8.out.size)
  have hRa : RB wa w9.heap.size (.slice A9 L1.length c9) (.int .i64 (k1 : Int)) := by rw [hwa]; exact heap_alloc_new _ _
  have hza : w.heap.size ≤ wa.heap.size := Nat.le_trans hBw9.size hb9a.size
  refine (ReadInt_any A9 _ c9 k1 L1 _ hza (H9.out.below (hb9a.mono hBw9.size))).mono ?_
  rw [HS2.out]
  rintro x w10 ⟨A10, c10, rfl, h10, hb10⟩
  have hR10 := hRa.below hb10
  obtain ⟨x0, x1', xf0, xf1⟩ := hR10.facts
  have hR11 := hR10.set (.slice A10 L2.length c10) (.int .i64 (k2 : Int))
  have hb910 : Below w9.heap.size w9 w10 := hb9a.trans (hb10.mono hb9a.size)
  have HR11 := Lib.hid hR11
  have HB911 := Lib.hid ((hb910.setCell (p := ⟨w9.heap.size, 0, none⟩) (Nat.le_refl _) (.slice A10 L2.length c10)).setCell (p := ⟨w9.heap.size, 1, none⟩) (Nat.le_refl _) (.int .i64 (k2 : Int)))
  have HBw9 := Lib.hid hBw9
  clear hwa hRa hR10 hR11 hb9a hb10 hb910 h10 hBw9 hB89 hza
  go_wp2_with fail
  obtain ⟨w11, hw11⟩ : ∃ w11, w11 = (w10.setCell ⟨w9.heap.size, 0, none⟩ (.slice A10 L2.length c10)).setCell ⟨w9.heap.size, 1, none⟩ (.int .i64 (k2 : Int)) := ⟨_, rfl⟩
  rw [← hw11] at HR11 HB911 ⊢
  have hb811 : Below w8.heap.size w8 w11 := HB89.out.trans (HB911.out.mono HB89.out.size)
  have hb511 : Below w5.heap.size w5 w11 := HB58.out.trans (hb811.mono HB58.out.size)
  have hb311 : Below w3.heap.size w3 w11 := HB35.out.trans (hb511.mono HB35.out.size)
  have hbw11 : Below w.heap.size w w11 := HBw3.out.trans (hb311.mono HBw3.out.size)
  have HB511 := Lib.hid hb511
  have HRD := Lib.hid (H8.out.below hb811 H8.out.lt)
  have HWR := Lib.hid (H4'.out.below hb311)
  have HR := HR11.out
  have HB11 := Lib.hid (Below.refl w11.heap.size w11)
  have HQ : Hid (∀ W, Below w11.heap.size w11 W → W.cell? ⟨w9.heap.size, 0, none⟩ = some (.slice A10 L2.length c10) ∧ W.cell? ⟨w9.heap.size, 1, none⟩ = some (.int .i64 (k2 : Int))) :=
    Lib.hid fun W hW => ⟨(HR.below hW).facts.1, (HR.below hW).facts.2.1⟩
  generalize hLg : lUint n0 ++ lInt k = L at *
  have HC : Hid (∀ W, Below w11.heap.size w11 W → (convert 24 9 (.slice A5 N5 c5)).run Tryd.prog W = .ok (.string ⟨L.toArray⟩) W) :=
    Lib.hid fun W hW => conv_bytes (T5.out.below (hb511.trans (hW.mono hb511.size)))
  have HBW := Lib.hid hbw11
  have hlow : 6 ≤ w11.heap.size := Nat.le_trans hG hbw11.size
  have HSt : Hid (∀ W, Below w11.heap.size w11 W → Std W) := Lib.hid fun W hW => (HS.out.below hG hbw11).below hlow hW
  have HRW : Hid (∀ W, Below w11.heap.size w11 W → RD W p v8 L2 k2) := Lib.hid fun W hW => HRD.out.below hW HRD.out.lt
  have hz11 := hbw11.size
  clear hLg hw11 hb811 hb511 hb311 hbw11 x0 x1' xf0 xf1 q40 q41 HR HRD hlow HB511
  have hd : Below w11.heap.size w11 w11.drew := (Below.refl _ _).drew
  have HWRd := Lib.hid (HWR.out.below hd)
  obtain ⟨qd0, qd1⟩ := HQ.out _ hd
  have hcd := HC.out _ hd
  have HD := Lib.hid hd
  clear hd
  refine wp_region_held_drew (S := fun W => Below w11.heap.size w11 W) (by kernel_rfl) HD.out (fun hHeld => ?_)
  refine wpAnyH_take (i := 0) (oi := { dst := some 48, op := Op.move (Operand.tmp 8), type := 25, pos := "law.go:39", after := #[], guard := Option.none }) (v := .pointer (some ⟨W0.heap.size, 0, none⟩)) rfl (by kernel_rfl) (by kernel_rfl) (by kernel_rfl) (fun _ _ _ h => h) (Or.inl ⟨by rfl, ?_⟩) hHeld ?_
  · intro W hSw
    go_simp
  simp only [Act.put, List.setIfInBounds_toArray, List.set_cons_zero, List.set_cons_succ]
  refine wpAnyH_take (i := 3) (oi := { dst := some 51, op := Op.move (Operand.tmp 9), type := 24, pos := "law.go:39", after := #[], guard := Option.none }) (v := .slice A5 N5 c5) rfl (by kernel_rfl) (by kernel_rfl) (by kernel_rfl) (fun _ _ _ h => h) (Or.inl ⟨by rfl, ?_⟩) hHeld ?_
  · intro W hSw
    go_simp
  simp only [Act.put, List.setIfInBounds_toArray, List.set_cons_zero, List.set_cons_succ]
  refine wpAnyH_take (i := 4) (oi := { dst := some 52, op := Op.convert 24 9 (Operand.tmp 51), type := 9, pos := "law.go:39", after := #[{ on := 3, ground := Ground.data }], guard := Option.none }) (v := .string ⟨L.toArray⟩) rfl (by kernel_rfl) (by kernel_rfl) (by kernel_rfl) (fun _ _ _ h => h) (Or.inl ⟨by rfl, ?_⟩) hHeld ?_
  · intro W hSw
    have hcW := HC.out W hSw
    go_simp
  simp only [Act.put, List.setIfInBounds_toArray, List.set_cons_zero, List.set_cons_succ]
  refine wpAnyH_ready (rs := [1]) (by kernel_rfl) (by simp) ?_
  refine AllReadyH.cons (o := { dst := some 49, op := Op.call { callee := Callee.value (Operand.func 18), args := #[Operand.tmp 48], argTypes := #[25] }, type := 24, pos := "law.go:39", after := #[{ on := 0, ground := Ground.data }], guard := Option.none }) rfl (fun K hK => ?_) AllReadyH.nil
  go_wp2_with fail
  refine (Writer_Done W0.heap.size W0.heap.size v3 L _ HWRd.out (by have := HLL.out; omega)).mono ?_
  rintro x wb ⟨u, rfl, hOb, hbb⟩
  obtain ⟨Au, cu, hvu, hxu⟩ := Sl.of_own hOb wb.heap.size (fun g hg => (hOb.lt g hg).2)
  obtain ⟨Nu, hNu⟩ : ∃ Nu, Nu = L.length := ⟨_, rfl⟩
  rw [← hNu] at hvu
  subst hvu
  have hTu : Sl wb wb.heap.size (.slice Au Nu cu) L := ⟨Au, cu, by rw [hNu], hxu⟩
  have hcu := conv_bytes hTu
  have hbb2 : Below w11.heap.size w11 wb := HD.out.trans (hbb.mono HD.out.size)
  have HBb := Lib.hid hbb2
  clear hbb hOb hxu hNu hTu hHeld
  refine hK.out _ _ hbb2 (fun hHeld => ?_)
  clear hK K hbb2
  refine wpAnyH_ready (rs := [2]) (by kernel_rfl) (by simp) ?_
  refine AllReadyH.cons (o := { dst := some 50, op := Op.convert 24 9 (Operand.tmp 49), type := 9, pos := "law.go:39", after := #[{ on := 1, ground := Ground.data }], guard := Option.none }) rfl (fun K hK => ?_) AllReadyH.nil
  go_simp
  refine hK.out _ _ hHeld (fun hHeld => ?_)
  clear hK K
  refine wpAnyH_take (i := 5) (oi := { dst := some 53, op := Op.binOp BinOp.eql 9 (Operand.tmp 50) (Operand.tmp 52) 9, type := 4, pos := "law.go:39", after := #[{ on := 2, ground := Ground.data }, { on := 4, ground := Ground.data }], guard := Option.none }) (v := .bool true) rfl (by kernel_rfl) (by kernel_rfl) (by kernel_rfl) (fun _ _ _ h => h) (Or.inl ⟨by rfl, ?_⟩) hHeld ?_
  · intro W hSw
    go_simp
  simp only [Act.put, List.setIfInBounds_toArray, List.set_cons_zero, List.set_cons_succ]
  refine wpAnyH_take (i := 6) (oi := { dst := some 54, op := Op.move (Operand.tmp 53), type := 4, pos := "law.go:39", after := #[{ on := 5, ground := Ground.data }, { on := 1, ground := Ground.chain }], guard := Option.none }) (v := .bool true) rfl (by kernel_rfl) (by kernel_rfl) (by kernel_rfl) (fun _ _ _ h => h) (Or.inl ⟨by rfl, ?_⟩) hHeld ?_
  · intro W hSw
    go_simp
  simp only [Act.put, List.setIfInBounds_toArray, List.set_cons_zero, List.set_cons_succ]
  have hzb := HBb.out.size
  have HSb := Lib.hid (HSt.out _ HBb.out)
  have HRb := Lib.hid (HRW.out _ HBb.out)
  obtain ⟨qb0, qb1⟩ := HQ.out _ HBb.out
  have k0 := cell_regrown qb0
  have k1' := cell_regrown qb1
  have hlow : 6 ≤ wb.heap.size := Nat.le_trans hG (Nat.le_trans hz11 hzb)
  have cS : ∀ d os, Calls Tryd.prog 23 #[] (Sort.grow (redrawn wb d) os) fun e w'' => e = .returned (.bool true) ∧ ∃ p : Regrown, w'' = Sort.grow (redrawn wb p.d) p.os :=
    fun d os => Calls.regrown_of (sure_any _ (HSb.out.below hlow (below_regrown wb d os)))
  have cN : ∀ d os, Calls Tryd.prog 19 #[ev (dn (L2, k2))] (Sort.grow (redrawn wb d) os) fun e w'' => e = .returned (.int .i64 (dn (L2, k2) : Int)) ∧ ∃ p : Regrown, w'' = Sort.grow (redrawn wb p.d) p.os :=
    fun d os => Calls.regrown_of (num_any _ _ (HSb.out.below hlow (below_regrown wb d os)))
  have cL : ∀ d os, Calls Tryd.prog 22 #[.pointer (some ⟨p, 0, none⟩)] (Sort.grow (redrawn wb d) os) fun e w'' => e = .returned (.int .i64 (L2.length : Int)) ∧ ∃ p : Regrown, w'' = Sort.grow (redrawn wb p.d) p.os :=
    fun d os => Calls.regrown_of ((Left_any p k2 v8 L2 _ (HRb.out.below (below_regrown wb d os) HRb.out.lt)).mono (fun _ _ ⟨he, hw⟩ => ⟨he, by subst hw; exact Below.refl _ _⟩))
  have cD : ∀ d os, Calls Tryd.prog 20 #[.pointer (some ⟨p, 0, none⟩)] (Sort.grow (redrawn wb d) os) fun e w'' => e = .returned (ev (dn (L2, k2))) ∧ ∃ p : Regrown, w'' = Sort.grow (redrawn wb p.d) p.os :=
    fun d os => Calls.regrown_of ((Done_any p (L2, k2) v8 _ (HRb.out.below (below_regrown wb d os) HRb.out.lt)).mono (fun _ _ ⟨he, hw⟩ => ⟨he, by subst hw; exact Below.refl _ _⟩))
  have cR : ∀ d os, Calls Tryd.prog 21 #[.agg #[.slice A10 L2.length c10, .int .i64 (k2 : Int)]] (Sort.grow (redrawn wb d) os) fun e w'' => e = .returned (.int .i64 (dn (L2, k2) : Int)) ∧ ∃ p : Regrown, w'' = Sort.grow (redrawn wb p.d) p.os :=
    fun d os => Calls.regrown_of (RefDone_dn A10 c10 (L2, k2) _)
  clear qb0 qb1 hlow hHeld
  refine wpAnyH_quiet_tail (C := fun W => ∃ p : Regrown, W = Sort.grow (redrawn wb p.d) p.os) 7 rfl ⟨⟨wb.drawn, #[]⟩, by rw [Sort.grow_empty]; rfl⟩ (fun W hW => ?_) (by kernel_rfl) (by kernel_rfl) ?_
  · obtain ⟨⟨dq, osq⟩, rfl⟩ := hW
    exact HBb.out.trans ((below_regrown wb dq osq).mono hzb)
  simp only [List.drop_succ_cons, List.drop_zero]
  repeat (go_big_quiet_step (first | exact cS _ _ | exact cN _ _ | exact cL _ _ | exact cD _ _ | exact cR _ _))
  refine wpQuiet_nil ?_
  intro _ hw'
  obtain ⟨⟨dq, osq⟩, hw''⟩ := hw'
  subst hw''
  go_wp2
  go_ret
  exact ⟨rfl, HBW.out.trans ((HBb.out.mono hz11).trans ((below_regrown wb dq osq).mono (Nat.le_trans hz11 hzb)))⟩

end Go.Proofs.YteblpfnmcbehmaaDoor.pk
