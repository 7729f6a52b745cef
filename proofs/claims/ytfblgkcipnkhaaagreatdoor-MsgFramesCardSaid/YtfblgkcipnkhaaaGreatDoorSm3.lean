/-
  The program's own opening: walked.
-/
import Derived.Test.YtfblgkcipnkhaaaGreatDoorSm2
import Derived.Test.YtfblgkcipnkhaaaGreatDoorTailQ
import Derived.Stop.BytesEq
namespace Go.Proofs.YtfblgkcipnkhaaaGreatDoor.pk
open Go Go.RowKit
set_option maxRecDepth 100000

/-- Two arrays of four bytes, compared. -/
theorem eq_four (x0 x1 x2 x3 y0 y1 y2 y3 : UInt8) (w : World) :
    (Op.equalIn 10000 141 (.agg #[.int .u8 (x0.toNat : Int), .int .u8 (x1.toNat : Int), .int .u8 (x2.toNat : Int), .int .u8 (x3.toNat : Int)]) (.agg #[.int .u8 (y0.toNat : Int), .int .u8 (y1.toNat : Int), .int .u8 (y2.toNat : Int), .int .u8 (y3.toNat : Int)])).run Tryz.prog w = .ok ([x0, x1, x2, x3] == [y0, y1, y2, y3]) w := by
  have h := run_equalIn_bytes (P := Tryz.prog) w 9998 141 5 4 Tryz.underlying141 Tryz.underlying5 (fun _ => by kernel_rfl) [x0, x1, x2, x3] [y0, y1, y2, y3] rfl rfl
  have e : ∀ a b c d : UInt8, (([a, b, c, d].map Extern.Stop.cell).toArray : Array Value) = #[.int .u8 (a.toNat : Int), .int .u8 (b.toNat : Int), .int .u8 (c.toNat : Int), .int .u8 (d.toNat : Int)] := fun _ _ _ _ => rfl
  rw [e, e] at h
  exact h

set_option maxHeartbeats 2000000 in
theorem Open_any (A : Option Addr) (n c : Nat) (b : List UInt8) (w : World) (B : Nat) (hB : B ≤ w.heap.size) (h : Sl w B (.slice A n c) b) :
    Calls Tryz.prog 55 #[.slice A n c] w fun x w' => ∃ v, x = .returned (.tuple #[.int .u8 ((openK b).toNat : Int), v, er (openE b)]) ∧ Sl w' w'.heap.size v (openX b) ∧ Below w.heap.size w w' := by
  obtain ⟨i0, hi, hz0, hz1, hz2⟩ := info_parts info_u8
  obtain ⟨hn, hc1, hc2⟩ := h.len
  by_cases h5 : b.length < 5
  · have he : openE b = 12 := by unfold openE; rw [if_pos h5]
    have hk : openK b = 0 := by unfold openK; rw [he]; rfl
    have hx : openX b = [] := by unfold openX; rw [he]; rfl
    have i1 : (n : Int) < 5 := by omega
    rw [he, hk, hx]
    clear he hk hx hn h h5
    go_enter Tryz.func55, Tryz.ntmps55
    go_wp2
    go_ret3
    exact ⟨_, rfl, Sl.nil_ _ _, Below.refl _ _⟩
  · obtain ⟨k0, r, rfl⟩ : ∃ k0 r, b = k0 :: r := by
      cases b with
      | nil => simp at h5
      | cons a r => exact ⟨a, r, rfl⟩
    obtain ⟨bk, off, rfl, hbk, hn1, hcc, hcm, hc0⟩ := h.head
    obtain ⟨m, hm⟩ : ∃ m, m = n - 4 := ⟨_, rfl⟩
    have hmn : m = (k0 :: r).length - 4 := by omega
    have hfr := h.front (k := m) (by omega)
    have hct := h.cut (k := m) (by omega)
    rw [if_neg (by omega), show n - m = 4 from by omega] at hct
    simp only [Option.map_some, Lib.add_plain] at hct
    have hc1' := hfr.cut (k := 1) (by rw [List.length_take]; omega)
    rw [if_neg (by omega)] at hc1'
    simp only [Option.map_some, Lib.add_plain] at hc1'
    obtain ⟨d0, d1, d2, d3, hD⟩ : ∃ d0 d1 d2 d3 : UInt8, (k0 :: r).drop m = [d0, d1, d2, d3] := by
      have hl : ((k0 :: r).drop m).length = 4 := by rw [List.length_drop]; omega
      match hdd : (k0 :: r).drop m, hl with
      | [d0, d1, d2, d3], _ => exact ⟨d0, d1, d2, d3, rfl⟩
    have HQ : Hid (∀ W, Below w.heap.size w W → W.cell? ⟨bk, off + m, none⟩ = some (.int .u8 (d0.toNat : Int)) ∧ W.cell? ⟨bk, off + m + 1, none⟩ = some (.int .u8 (d1.toNat : Int)) ∧ W.cell? ⟨bk, off + m + 2, none⟩ = some (.int .u8 (d2.toNat : Int)) ∧ W.cell? ⟨bk, off + m + 3, none⟩ = some (.int .u8 (d3.toNat : Int))) := by
      refine Lib.hid fun W hW => ?_
      have hx := hct.below (hW.mono hB)
      rw [hD] at hx
      obtain ⟨A', c', hv, _, _, h3⟩ := hx
      injection hv with e1 _ _
      rcases h3 with h3 | ⟨b2, off2, hA2, _, hcell⟩
      · cases h3
      · rw [hA2] at e1
        injection e1 with e1
        injection e1 with e1 e2 _
        subst e1; subst e2
        exact ⟨hcell 0 (by simp), hcell 1 (by simp), hcell 2 (by simp), hcell 3 (by simp)⟩
    have hE : openE (k0 :: r) = if tail4 (sum ((k0 :: r).take m)) ≠ (k0 :: r).drop m then 11 else if k0 = 0 then 1 else if 1048577 < m then 2 else 0 := by
      unfold openE
      rw [if_neg h5, ← hmn]
      rfl
    have hX : openX (k0 :: r) = if openE (k0 :: r) = 0 then ((k0 :: r).take m).drop 1 else [] := by unfold openX; rw [← hmn]
    have hK : openK (k0 :: r) = if openE (k0 :: r) = 0 then k0 else 0 := rfl
    have HS := Lib.hid (sum_lt ((k0 :: r).take m))
    have HFL := Lib.hid (show ((k0 :: r).take m).length = m from by rw [List.length_take]; omega)
    rw [hD] at hE
    obtain ⟨t0, t1, t2, t3, ht⟩ := tail4_four (sum ((k0 :: r).take m))
    rw [ht] at hE
    have HT := Lib.hid ht
    have HC0 := Lib.hid hc0
    have HFR := Lib.hid hfr
    have HX1 := Lib.hid hc1'
    have HE := Lib.hid hE
    have HX := Lib.hid hX
    have HKK := Lib.hid hK
    have HM := Lib.hid (show 1 ≤ m ∧ m + 4 = n by omega)
    have hat : ∀ W, (Instr.arrayAt 141 (.slice (some ⟨bk, off + m, none⟩) 4 (c - m))).run Tryz.prog W = .ok (.pointer (some ⟨bk, off + m, none⟩)) W := fun W => run_arrayAt W 141 _ 4 _ 4 (c - m) Tryz.underlying141 (Nat.le_refl _)
    have hat' := Lib.hid hat
    have i1 : ¬ (n : Int) < 5 := by omega
    have i2 : (n : Int) - 4 = (m : Int) := by omega
    have i3 : IntKind.i64.wrap (m : Int) = (m : Int) := IntWalk.i64_in _ (by omega)
    have i4 : (m : Int) ≤ (n : Int) := by omega
    have i5 : (n : Int) ≤ (c : Int) := by omega
    have i6 : (1 : Int) ≤ (m : Int) := by omega
    have i7 : (m : Int) ≤ (c : Int) := by omega
    have i8 : (0 : Int) < (n : Int) := by omega
    have i10 : ¬ c = m := by omega
    have i11 : ¬ c = 1 := by omega
    have i9 : (c : Int) ≤ 9223372036854775807 := by omega
    obtain ⟨F, hF⟩ : ∃ F, F = (k0 :: r).take m := ⟨_, rfl⟩
    have hgap : n - m = 4 := by omega
    rw [← hF] at HFR HX1 HX HS HT HFL
    have q0 := HC0.out
    clear hm hmn hfr hct hc1' hc0 hE hX hK hF h hn h5 hn1 hcc hcm hc1 hc2 hat hD ht
    go_enter Tryz.func55, Tryz.ntmps55
    go_wp2_with fail
    go_region
    go_wp2_with fail
    have hd : Below w.heap.size w w.drew.drew := (Below.refl _ _).drew.drew
    have HD := Lib.hid hd
    refine wp_region_held_drew (S := fun W => Below w.heap.size w W) (by kernel_rfl) hd (fun hHeld => ?_)
    clear hd q0
    refine wpAnyH_take (i := 0) (oi := { dst := Option.some 22, op := Op.move (Operand.tmp 0), type := 22, pos := "seal.go:59", after := #[], guard := Option.none }) (v := .slice (some ⟨bk, off, none⟩) n c) rfl (by kernel_rfl) (by kernel_rfl) (by kernel_rfl) (fun _ _ _ h => h) (Or.inl ⟨by rfl, ?_⟩) hHeld ?_
    · intro W hSw
      go_simp
    simp only [Act.put, List.setIfInBounds_toArray, List.set_cons_zero, List.set_cons_succ]
    refine wpAnyH_take (i := 1) (oi := { dst := Option.some 23, op := Op.move (Operand.tmp 5), type := 3, pos := "seal.go:59", after := #[], guard := Option.none }) (v := .int .i64 (m : Int)) rfl (by kernel_rfl) (by kernel_rfl) (by kernel_rfl) (fun _ _ _ h => h) (Or.inl ⟨by rfl, ?_⟩) hHeld ?_
    · intro W hSw
      go_simp
    simp only [Act.put, List.setIfInBounds_toArray, List.set_cons_zero, List.set_cons_succ]
    refine wpAnyH_take (i := 2) (oi := { dst := Option.some 24, op := Op.slice 22 (Operand.tmp 22) (Option.some (Operand.tmp 23)) Option.none Option.none, type := 22, pos := "seal.go:59", after := #[{ on := 0, ground := Ground.data }, { on := 1, ground := Ground.data }], guard := Option.none }) (v := .slice (some ⟨bk, off + m, none⟩) 4 (c - m)) rfl (by kernel_rfl) (by kernel_rfl) (by kernel_rfl) (fun _ _ _ h => h) (Or.inl ⟨by rfl, ?_⟩) hHeld ?_
    · intro W hSw
      go_simp
    simp only [Act.put, List.setIfInBounds_toArray, List.set_cons_zero, List.set_cons_succ]
    refine wpAnyH_take (i := 3) (oi := { dst := Option.some 25, op := Op.sliceToArrayPointer 141 (Operand.tmp 24), type := 0, pos := "seal.go:59", after := #[{ on := 2, ground := Ground.data }], guard := Option.none }) (v := .pointer (some ⟨bk, off + m, none⟩)) rfl (by kernel_rfl) (by kernel_rfl) (by kernel_rfl) (fun _ _ _ h => h) (Or.inl ⟨by rfl, ?_⟩) hHeld ?_
    · intro W hSw
      have hat := hat'.out
      go_simp
    simp only [Act.put, List.setIfInBounds_toArray, List.set_cons_zero, List.set_cons_succ]
    refine wpAnyH_take (i := 4) (oi := { dst := Option.some 26, op := Op.load 141 (Operand.tmp 25), type := 141, pos := "seal.go:59", after := #[{ on := 3, ground := Ground.data }], guard := Option.none }) (v := .agg #[.int .u8 (d0.toNat : Int), .int .u8 (d1.toNat : Int), .int .u8 (d2.toNat : Int), .int .u8 (d3.toNat : Int)]) rfl (by kernel_rfl) (by kernel_rfl) (by kernel_rfl) (fun _ _ _ h => h) (Or.inl ⟨by rfl, ?_⟩) hHeld ?_
    · intro W hSw
      obtain ⟨q0, q1, q2, q3⟩ := HQ.out W hSw
      go_simp
    simp only [Act.put, List.setIfInBounds_toArray, List.set_cons_zero, List.set_cons_succ]
    refine wpAnyH_take (i := 5) (oi := { dst := Option.some 27, op := Op.move (Operand.tmp 0), type := 22, pos := "seal.go:59", after := #[], guard := Option.none }) (v := .slice (some ⟨bk, off, none⟩) n c) rfl (by kernel_rfl) (by kernel_rfl) (by kernel_rfl) (fun _ _ _ h => h) (Or.inl ⟨by rfl, ?_⟩) hHeld ?_
    · intro W hSw
      go_simp
    simp only [Act.put, List.setIfInBounds_toArray, List.set_cons_zero, List.set_cons_succ]
    refine wpAnyH_take (i := 6) (oi := { dst := Option.some 28, op := Op.move (Operand.tmp 5), type := 3, pos := "seal.go:59", after := #[], guard := Option.none }) (v := .int .i64 (m : Int)) rfl (by kernel_rfl) (by kernel_rfl) (by kernel_rfl) (fun _ _ _ h => h) (Or.inl ⟨by rfl, ?_⟩) hHeld ?_
    · intro W hSw
      go_simp
    simp only [Act.put, List.setIfInBounds_toArray, List.set_cons_zero, List.set_cons_succ]
    refine wpAnyH_take (i := 7) (oi := { dst := Option.some 29, op := Op.slice 22 (Operand.tmp 27) Option.none (Option.some (Operand.tmp 28)) Option.none, type := 22, pos := "seal.go:59", after := #[{ on := 5, ground := Ground.data }, { on := 6, ground := Ground.data }], guard := Option.none }) (v := .slice (some ⟨bk, off, none⟩) m c) rfl (by kernel_rfl) (by kernel_rfl) (by kernel_rfl) (fun _ _ _ h => h) (Or.inl ⟨by rfl, ?_⟩) hHeld ?_
    · intro W hSw
      go_simp
    simp only [Act.put, List.setIfInBounds_toArray, List.set_cons_zero, List.set_cons_succ]
    refine wpAnyH_ready (rs := [8]) (by kernel_rfl) (by simp) ?_
    refine AllReadyH.cons (o := { dst := Option.some 30, op := Op.call { callee := Callee.value (Operand.func 83), args := #[Operand.tmp 29], argTypes := #[22] }, type := 92, pos := "seal.go:59", after := #[{ on := 7, ground := Ground.data }], guard := Option.none }) rfl (fun K hK => ?_) AllReadyH.nil
    go_simp
    refine (Sum_any (some ⟨bk, off, none⟩) m c F _ B (HFR.out.below (HD.out.mono hB))).mono ?_
    rintro y w4 ⟨rfl, rfl⟩
    refine hK.out _ _ hHeld (fun hHeld => ?_)
    clear hK K
    refine wpAnyH_ready (rs := [9]) (by kernel_rfl) (by simp) ?_
    refine AllReadyH.cons (o := { dst := Option.some 31, op := Op.call { callee := Callee.value (Operand.func 82), args := #[Operand.tmp 30], argTypes := #[92] }, type := 141, pos := "seal.go:59", after := #[{ on := 8, ground := Ground.data }, { on := 8, ground := Ground.chain }], guard := Option.none }) rfl (fun K hK => ?_) AllReadyH.nil
    go_simp
    refine (SumBytes_any _ HS.out t0 t1 t2 t3 HT.out _).mono ?_
    rintro y w5 ⟨rfl, hb5⟩
    have hbw5 : Below w.heap.size w w5 := HD.out.trans (hb5.mono HD.out.size)
    have HB5 := Lib.hid hbw5
    clear hb5 hHeld
    refine hK.out _ _ hbw5 (fun hHeld => ?_)
    clear hK K hbw5
    have q5 : w5.cell? ⟨bk, off, none⟩ = some (.int .u8 (k0.toNat : Int)) := (HB5.out.cell (p := ⟨bk, off, none⟩) (by show bk < w.heap.size; omega)).trans HC0.out
    clear q5
    have HX5 := Lib.hid (HX1.out.below (HB5.out.mono hB))
    have hfl1 : (F.drop 1).length = m - 1 := by rw [List.length_drop, HFL.out]
    have HFL1 := Lib.hid hfl1
    clear hfl1
    by_cases hTD : [t0, t1, t2, t3] = [d0, d1, d2, d3]
    · have hE2 := HE.out
      rw [if_neg (by rw [hTD]; simp)] at hE2
      have HE2 := Lib.hid hE2
      have HEQ : Hid (∀ W : World, (Op.equalIn 10000 141 (.agg #[.int .u8 (d0.toNat : Int), .int .u8 (d1.toNat : Int), .int .u8 (d2.toNat : Int), .int .u8 (d3.toNat : Int)]) (.agg #[.int .u8 (t0.toNat : Int), .int .u8 (t1.toNat : Int), .int .u8 (t2.toNat : Int), .int .u8 (t3.toNat : Int)])).run Tryz.prog W = .ok true W) :=
        Lib.hid fun W => by rw [eq_four, ← hTD]; simp
      clear hE2 HE hTD
      refine wpAnyH_take (i := 10) (oi := { dst := Option.some 32, op := Op.binOp BinOp.neq 141 (Operand.tmp 26) (Operand.tmp 31) 141, type := 4, pos := "seal.go:59", after := #[{ on := 4, ground := Ground.data }, { on := 9, ground := Ground.data }], guard := Option.none }) (v := .bool false) rfl (by kernel_rfl) (by kernel_rfl) (by kernel_rfl) (fun _ _ _ h => h) (Or.inl ⟨by rfl, ?_⟩) hHeld ?_
      · intro W hSw
        have heq := HEQ.out W
        go_simp
      simp only [Act.put, List.setIfInBounds_toArray, List.set_cons_zero, List.set_cons_succ]
      refine wpAnyH_take (i := 11) (oi := { dst := Option.some 21, op := Op.assign (Operand.tmp 32), type := 4, pos := "seal.go:59", after := #[{ on := 10, ground := Ground.data }, { on := 9, ground := Ground.chain }], guard := Option.none }) (v := .bool false) rfl (by kernel_rfl) (by kernel_rfl) (by kernel_rfl) (fun _ _ _ h => h) (Or.inl ⟨by rfl, ?_⟩) hHeld ?_
      · intro W hSw
        go_simp
      simp only [Act.put, List.setIfInBounds_toArray, List.set_cons_zero, List.set_cons_succ]
      refine wpAnyH_done (by kernel_rfl) ?_ _
      by_cases hk0 : k0 = 0
      · have hk0I : (k0.toNat : Int) = 0 := by rw [hk0]; rfl
        have he : openE (k0 :: r) = 1 := by rw [HE2.out, if_pos hk0]
        have hkk : openK (k0 :: r) = 0 := by rw [HKK.out, he]; rfl
        have hx : openX (k0 :: r) = [] := by rw [HX.out, he]; rfl
        have HR := Lib.hid (And.intro he (And.intro hkk hx))
        clear hk0 he hkk hx HE2 HKK HX
        go_wp2_with fail
        go_ret3
        rw [HR.out.1, HR.out.2.1, HR.out.2.2]
        exact ⟨_, rfl, Sl.nil_ _ _, HB5.out⟩
      · have hk00 : ¬ k0.toNat = 0 := fun e => hk0 (UInt8.toNat_inj.1 (by rw [e]; rfl))
        have hk0I : ¬ (k0.toNat : Int) = 0 := by omega
        have hk0B : ((k0.toNat : Int) == 0) = false := by rw [beq_eq_false_iff_ne]; exact hk0I
        by_cases hl : 1048577 < m
        · have he : openE (k0 :: r) = 2 := by rw [HE2.out, if_neg hk0, if_pos hl]
          have hkk : openK (k0 :: r) = 0 := by rw [HKK.out, he]; rfl
          have hx : openX (k0 :: r) = [] := by rw [HX.out, he]; rfl
          have HR := Lib.hid (And.intro he (And.intro hkk hx))
          have j1 : (1048576 : Int) < ((m - 1 : Nat) : Int) := by omega
          clear hk0 he hkk hx HE2 HKK HX hk00 hl
          go_wp2_with fail
          go_ret3
          rw [HR.out.1, HR.out.2.1, HR.out.2.2]
          exact ⟨_, rfl, Sl.nil_ _ _, HB5.out⟩
        · have he : openE (k0 :: r) = 0 := by rw [HE2.out, if_neg hk0, if_neg hl]
          have hkk : openK (k0 :: r) = k0 := by rw [HKK.out, if_pos he]
          have hx : openX (k0 :: r) = F.drop 1 := by rw [HX.out, if_pos he]
          have HR := Lib.hid (And.intro he (And.intro hkk hx))
          have j1 : ¬ (1048576 : Int) < ((m - 1 : Nat) : Int) := by omega
          have HL := Lib.hid (show m - 1 ≤ 1048576 by omega)
          clear hk0 he hkk hx HE2 HKK HX hk00 hl
          go_wp2_with (at_builtin; refine wpList_append_sl rfl _ _ 22 rfl w.heap.size 5 i0 _ Tryz.underlying22 hi hz0 hz1 hz2 rfl (.slice none 0 0) 0 [] rfl (World.ownsRow_nil _ _ _ _) B (some ⟨bk, off + 1, none⟩) (m - 1) (c - 1) (F.drop 1) rfl HX5.out (by have := HL.out; rw [HFL1.out]; omega) HB5.out.size ?_; intro v7 w7 hown7 hg7; have HB7 := Lib.hid (HB5.out.grown hg7 HB5.out.size (fun k hk => by cases hk)); have HO7 := Lib.hid hown7; clear hown7 hg7)
          go_ret3
          rw [HR.out.1, HR.out.2.1, HR.out.2.2]
          have ho7 := HO7.out
          rw [Nat.zero_add, List.nil_append] at ho7
          obtain ⟨A9, c9, hv9, hs9⟩ := own_sl ho7 rfl
          exact ⟨_, rfl, by rw [hv9]; exact hs9, HB7.out⟩
    · have hE2 := HE.out
      rw [if_pos hTD] at hE2
      have hkk : openK (k0 :: r) = 0 := by rw [HKK.out, hE2]; rfl
      have hx : openX (k0 :: r) = [] := by rw [HX.out, hE2]; rfl
      have HR := Lib.hid (And.intro hE2 (And.intro hkk hx))
      have HEQ : Hid (∀ W : World, (Op.equalIn 10000 141 (.agg #[.int .u8 (d0.toNat : Int), .int .u8 (d1.toNat : Int), .int .u8 (d2.toNat : Int), .int .u8 (d3.toNat : Int)]) (.agg #[.int .u8 (t0.toNat : Int), .int .u8 (t1.toNat : Int), .int .u8 (t2.toNat : Int), .int .u8 (t3.toNat : Int)])).run Tryz.prog W = .ok false W) :=
        Lib.hid fun W => by rw [eq_four, beq_eq_false_iff_ne.2 (fun e => hTD e.symm)]
      clear hE2 HE hTD hkk hx HKK HX
      refine wpAnyH_take (i := 10) (oi := { dst := Option.some 32, op := Op.binOp BinOp.neq 141 (Operand.tmp 26) (Operand.tmp 31) 141, type := 4, pos := "seal.go:59", after := #[{ on := 4, ground := Ground.data }, { on := 9, ground := Ground.data }], guard := Option.none }) (v := .bool true) rfl (by kernel_rfl) (by kernel_rfl) (by kernel_rfl) (fun _ _ _ h => h) (Or.inl ⟨by rfl, ?_⟩) hHeld ?_
      · intro W hSw
        have heq := HEQ.out W
        go_simp
      simp only [Act.put, List.setIfInBounds_toArray, List.set_cons_zero, List.set_cons_succ]
      refine wpAnyH_take (i := 11) (oi := { dst := Option.some 21, op := Op.assign (Operand.tmp 32), type := 4, pos := "seal.go:59", after := #[{ on := 10, ground := Ground.data }, { on := 9, ground := Ground.chain }], guard := Option.none }) (v := .bool true) rfl (by kernel_rfl) (by kernel_rfl) (by kernel_rfl) (fun _ _ _ h => h) (Or.inl ⟨by rfl, ?_⟩) hHeld ?_
      · intro W hSw
        go_simp
      simp only [Act.put, List.setIfInBounds_toArray, List.set_cons_zero, List.set_cons_succ]
      refine wpAnyH_done (by kernel_rfl) ?_ _
      go_wp2_with fail
      go_ret3
      rw [HR.out.1, HR.out.2.1, HR.out.2.2]
      exact ⟨_, rfl, Sl.nil_ _ _, HB5.out⟩

end Go.Proofs.YtfblgkcipnkhaaaGreatDoor.pk
