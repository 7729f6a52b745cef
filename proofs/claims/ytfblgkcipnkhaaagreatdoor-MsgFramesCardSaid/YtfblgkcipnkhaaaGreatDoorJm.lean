/-
  Texts of the proof, joined: RefOpen, RefOpB.
-/
import Derived.Test.YtfblgkcipnkhaaaGreatDoorJl
import Derived.Test.YtfblgkcipnkhaaaGreatDoorTailQ

/-
  What the document opens: the plain functions.
-/
namespace Go.Proofs.YtfblgkcipnkhaaaGreatDoor.pk
open Go Go.RowKit
set_option maxRecDepth 100000

set_option maxHeartbeats 1000000 in
theorem RefOpen_any (A : Option Addr) (n c : Nat) (b : List UInt8) (w : World) (B : Nat) (hB : B ≤ w.heap.size) (h : Sl w B (.slice A n c) b) :
    Calls Tryz.prog 56 #[.slice A n c] w fun x w' => ∃ v, x = .returned (.tuple #[.int .u8 ((openK b).toNat : Int), v, .int .i64 (openE b : Int)]) ∧ Sl w' w'.heap.size v (openX b) ∧ Below w.heap.size w w' := by
  obtain ⟨hn, hc1, hc2⟩ := h.len
  by_cases h5 : b.length < 5
  · have he : openE b = 12 := by unfold openE; rw [if_pos h5]
    have hk : openK b = 0 := by unfold openK; rw [he]; rfl
    have hx : openX b = [] := by unfold openX; rw [he]; rfl
    have i1 : (n : Int) < 5 := by omega
    rw [he, hk, hx]
    clear he hk hx hn h h5
    go_enter Tryz.func56, Tryz.ntmps56
    go_wp2
    go_ret3
    exact ⟨_, rfl, Sl.nil_ _ _, Below.refl _ _⟩
  · obtain ⟨k0, r, rfl⟩ : ∃ k0 r, b = k0 :: r := by
      cases b with
      | nil => simp at h5
      | cons a r => exact ⟨a, r, rfl⟩
    obtain ⟨bk, off, rfl, hbk, hn1, hcc, hcm, hc0⟩ := h.head
    obtain ⟨m, hm⟩ : ∃ m, m = n - 4 := ⟨_, rfl⟩
    have hmn : m = (k0 :: r).length - 4 := by omega
    have hfr := h.front (k := m) (by omega)
    have hct := h.cut (k := m) (by omega)
    rw [if_neg (by omega), show n - m = 4 from by omega] at hct
    simp only [Option.map_some, Lib.add_plain] at hct
    have hc1' := hfr.cut (k := 1) (by rw [List.length_take]; omega)
    rw [if_neg (by omega)] at hc1'
    simp only [Option.map_some, Lib.add_plain] at hc1'
    have HC0 := Lib.hid hc0
    have HFR := Lib.hid hfr
    have HX1 := Lib.hid hc1'
    have HW : Hid (∀ W, Below w.heap.size w W → (convert 22 9 (.slice (some ⟨bk, off + m, none⟩) 4 (c - m))).run Tryz.prog W = .ok (.string ⟨((k0 :: r).drop m).toArray⟩) W) :=
      Lib.hid fun W hW => conv_bytes (hct.below (hW.mono hB))
    have hE : openE (k0 :: r) = if tail4 (sum ((k0 :: r).take m)) ≠ (k0 :: r).drop m then 11 else if k0 = 0 then 1 else if 1048577 < m then 2 else 0 := by
      unfold openE
      rw [if_neg h5, ← hmn]
      rfl
    have hX : openX (k0 :: r) = if openE (k0 :: r) = 0 then ((k0 :: r).take m).drop 1 else [] := by unfold openX; rw [← hmn]
    have hK : openK (k0 :: r) = if openE (k0 :: r) = 0 then k0 else 0 := rfl
    have HS := Lib.hid (sum_lt ((k0 :: r).take m))
    have HE := Lib.hid hE
    have HX := Lib.hid hX
    have HKK := Lib.hid hK
    have HM := Lib.hid (show 1 ≤ m ∧ m + 4 = n by omega)
    have i1 : ¬ (n : Int) < 5 := by omega
    have i2 : (n : Int) - 4 = (m : Int) := by omega
    have i3 : IntKind.i64.wrap (m : Int) = (m : Int) := IntWalk.i64_in _ (by omega)
    have i4 : (m : Int) ≤ (n : Int) := by omega
    have i5 : (n : Int) ≤ (c : Int) := by omega
    have i6 : (1 : Int) ≤ (m : Int) := by omega
    have i7 : (m : Int) ≤ (c : Int) := by omega
    have i8 : (0 : Int) < (n : Int) := by omega
    have i10 : ¬ c = m := by omega
    have i9 : (c : Int) ≤ 9223372036854775807 := by omega
    obtain ⟨D, hD⟩ : ∃ D, D = (k0 :: r).drop m := ⟨_, rfl⟩
    obtain ⟨F, hF⟩ : ∃ F, F = (k0 :: r).take m := ⟨_, rfl⟩
    have hgap : n - m = 4 := by omega
    rw [← hD] at HW HE
    rw [← hF] at HFR HX1 HE HX HS
    clear hm hmn hfr hct hc1' hc0 hE hX hK hD hF h hn h5 hn1 hcc hcm hc1 hc2
    go_enter Tryz.func56, Tryz.ntmps56
    go_wp2_with fail
    have hd : Below w.heap.size w w.drew := (Below.refl _ _).drew
    have HD := Lib.hid hd
    refine wp_region_held_drew (S := fun W => Below w.heap.size w W) (by kernel_rfl) hd (fun hHeld => ?_)
    clear hd
    refine wpAnyH_take (i := 0) (oi := { dst := Option.some 12, op := Op.move (Operand.tmp 0), type := 22, pos := "ref.go:53", after := #[], guard := Option.none }) (v := .slice (some ⟨bk, off, none⟩) n c) rfl (by kernel_rfl) (by kernel_rfl) (by kernel_rfl) (fun _ _ _ h => h) (Or.inl ⟨by rfl, ?_⟩) hHeld ?_
    · intro W hSw
      go_simp
    simp only [Act.put, List.setIfInBounds_toArray, List.set_cons_zero, List.set_cons_succ]
    refine wpAnyH_take (i := 1) (oi := { dst := Option.some 13, op := Op.move (Operand.tmp 5), type := 3, pos := "ref.go:53", after := #[], guard := Option.none }) (v := .int .i64 (m : Int)) rfl (by kernel_rfl) (by kernel_rfl) (by kernel_rfl) (fun _ _ _ h => h) (Or.inl ⟨by rfl, ?_⟩) hHeld ?_
    · intro W hSw
      go_simp
    simp only [Act.put, List.setIfInBounds_toArray, List.set_cons_zero, List.set_cons_succ]
    refine wpAnyH_take (i := 2) (oi := { dst := Option.some 14, op := Op.slice 22 (Operand.tmp 12) Option.none (Option.some (Operand.tmp 13)) Option.none, type := 22, pos := "ref.go:53", after := #[{ on := 0, ground := Ground.data }, { on := 1, ground := Ground.data }], guard := Option.none }) (v := .slice (some ⟨bk, off, none⟩) m c) rfl (by kernel_rfl) (by kernel_rfl) (by kernel_rfl) (fun _ _ _ h => h) (Or.inl ⟨by rfl, ?_⟩) hHeld ?_
    · intro W hSw
      go_simp
    simp only [Act.put, List.setIfInBounds_toArray, List.set_cons_zero, List.set_cons_succ]
    refine wpAnyH_take (i := 6) (oi := { dst := Option.some 18, op := Op.move (Operand.tmp 0), type := 22, pos := "ref.go:53", after := #[], guard := Option.none }) (v := .slice (some ⟨bk, off, none⟩) n c) rfl (by kernel_rfl) (by kernel_rfl) (by kernel_rfl) (fun _ _ _ h => h) (Or.inl ⟨by rfl, ?_⟩) hHeld ?_
    · intro W hSw
      go_simp
    simp only [Act.put, List.setIfInBounds_toArray, List.set_cons_zero, List.set_cons_succ]
    refine wpAnyH_take (i := 7) (oi := { dst := Option.some 19, op := Op.move (Operand.tmp 5), type := 3, pos := "ref.go:53", after := #[], guard := Option.none }) (v := .int .i64 (m : Int)) rfl (by kernel_rfl) (by kernel_rfl) (by kernel_rfl) (fun _ _ _ h => h) (Or.inl ⟨by rfl, ?_⟩) hHeld ?_
    · intro W hSw
      go_simp
    simp only [Act.put, List.setIfInBounds_toArray, List.set_cons_zero, List.set_cons_succ]
    refine wpAnyH_take (i := 8) (oi := { dst := Option.some 20, op := Op.slice 22 (Operand.tmp 18) (Option.some (Operand.tmp 19)) Option.none Option.none, type := 22, pos := "ref.go:53", after := #[{ on := 6, ground := Ground.data }, { on := 7, ground := Ground.data }], guard := Option.none }) (v := .slice (some ⟨bk, off + m, none⟩) 4 (c - m)) rfl (by kernel_rfl) (by kernel_rfl) (by kernel_rfl) (fun _ _ _ h => h) (Or.inl ⟨by rfl, ?_⟩) hHeld ?_
    · intro W hSw
      go_simp
    simp only [Act.put, List.setIfInBounds_toArray, List.set_cons_zero, List.set_cons_succ]
    refine wpAnyH_take (i := 9) (oi := { dst := Option.some 21, op := Op.convert 22 9 (Operand.tmp 20), type := 9, pos := "ref.go:53", after := #[{ on := 8, ground := Ground.data }], guard := Option.none }) (v := .string ⟨D.toArray⟩) rfl (by kernel_rfl) (by kernel_rfl) (by kernel_rfl) (fun _ _ _ h => h) (Or.inl ⟨by rfl, ?_⟩) hHeld ?_
    · intro W hSw
      have hcW := HW.out W hSw
      go_simp
    simp only [Act.put, List.setIfInBounds_toArray, List.set_cons_zero, List.set_cons_succ]
    refine wpAnyH_ready (rs := [3]) (by kernel_rfl) (by simp) ?_
    refine AllReadyH.cons (o := { dst := Option.some 15, op := Op.call { callee := Callee.value (Operand.func 54), args := #[Operand.tmp 14], argTypes := #[22] }, type := 92, pos := "ref.go:53", after := #[{ on := 2, ground := Ground.data }], guard := Option.none }) rfl (fun K hK => ?_) AllReadyH.nil
    go_simp
    refine (RefSum_any (some ⟨bk, off, none⟩) m c F _ B (by show B ≤ w.heap.size; exact hB) (HFR.out.below (HD.out.mono hB))).mono ?_
    rintro y w4 ⟨rfl, hb4⟩
    have hbw4 : Below w.heap.size w w4 := HD.out.trans (hb4.mono HD.out.size)
    have HB4 := Lib.hid hbw4
    clear hb4 hHeld
    refine hK.out _ _ hbw4 (fun hHeld => ?_)
    clear hK K hbw4
    refine wpAnyH_ready (rs := [4]) (by kernel_rfl) (by simp) ?_
    refine AllReadyH.cons (o := { dst := Option.some 16, op := Op.call { callee := Callee.value (Operand.func 53), args := #[Operand.tmp 15], argTypes := #[92] }, type := 22, pos := "ref.go:53", after := #[{ on := 3, ground := Ground.data }, { on := 3, ground := Ground.chain }], guard := Option.none }) rfl (fun K hK => ?_) AllReadyH.nil
    go_simp
    refine (RefTail_any _ HS.out _).mono ?_
    rintro y w5 ⟨a5, rfl, h5, hb5⟩
    have hcf := conv_bytes h5
    have hbw5 : Below w.heap.size w w5 := HB4.out.trans (hb5.mono HB4.out.size)
    have HB5 := Lib.hid hbw5
    clear hb5 h5 hHeld
    refine hK.out _ _ hbw5 (fun hHeld => ?_)
    clear hK K hbw5
    generalize hT : tail4 (sum F) = T at hcf HE
    refine wpAnyH_ready (rs := [5]) (by kernel_rfl) (by simp) ?_
    refine AllReadyH.cons (o := { dst := Option.some 17, op := Op.convert 22 9 (Operand.tmp 16), type := 9, pos := "ref.go:53", after := #[{ on := 4, ground := Ground.data }], guard := Option.none }) rfl (fun K hK => ?_) AllReadyH.nil
    go_simp
    refine hK.out _ _ hHeld (fun hHeld => ?_)
    clear hK K
    have q5 : w5.cell? ⟨bk, off, none⟩ = some (.int .u8 (k0.toNat : Int)) := (HB5.out.cell (p := ⟨bk, off, none⟩) (by show bk < w.heap.size; omega)).trans HC0.out
    have HX5 := Lib.hid (HX1.out.below (HB5.out.mono hB))
    by_cases hTD : T = D
    · have hE2 := HE.out
      rw [if_neg (by rw [hTD]; simp)] at hE2
      have HE2 := Lib.hid hE2
      subst hTD
      clear hE2 HE hT
      refine wpAnyH_take (i := 10) (oi := { dst := Option.some 22, op := Op.binOp BinOp.neq 9 (Operand.tmp 17) (Operand.tmp 21) 9, type := 4, pos := "ref.go:53", after := #[{ on := 5, ground := Ground.data }, { on := 9, ground := Ground.data }], guard := Option.none }) (v := .bool false) rfl (by kernel_rfl) (by kernel_rfl) (by kernel_rfl) (fun _ _ _ h => h) (Or.inl ⟨by rfl, ?_⟩) hHeld ?_
      · intro W hSw
        go_simp
      simp only [Act.put, List.setIfInBounds_toArray, List.set_cons_zero, List.set_cons_succ]
      refine wpAnyH_done (by kernel_rfl) ?_ _
      by_cases hk0 : k0 = 0
      · have hk0I : (k0.toNat : Int) = 0 := by rw [hk0]; rfl
        have he : openE (k0 :: r) = 1 := by rw [HE2.out, if_pos hk0]
        have hkk : openK (k0 :: r) = 0 := by rw [HKK.out, he]; rfl
        have hx : openX (k0 :: r) = [] := by rw [HX.out, he]; rfl
        have HR := Lib.hid (And.intro he (And.intro hkk hx))
        rw [hk0I] at q5
        clear hk0 hk0I he hkk hx HE2 HKK HX
        go_wp2_with fail
        go_ret3
        rw [HR.out.1, HR.out.2.1, HR.out.2.2]
        exact ⟨_, rfl, Sl.nil_ _ _, HB5.out⟩
      · have hk00 : ¬ k0.toNat = 0 := fun e => hk0 (UInt8.toNat_inj.1 (by rw [e]; rfl))
        have hk0I : ¬ (k0.toNat : Int) = 0 := by omega
        have hk0B : ((k0.toNat : Int) == 0) = false := by rw [beq_eq_false_iff_ne]; exact hk0I
        by_cases hl : 1048577 < m
        · have he : openE (k0 :: r) = 2 := by rw [HE2.out, if_neg hk0, if_pos hl]
          have hkk : openK (k0 :: r) = 0 := by rw [HKK.out, he]; rfl
          have hx : openX (k0 :: r) = [] := by rw [HX.out, he]; rfl
          have HR := Lib.hid (And.intro he (And.intro hkk hx))
          have j1 : (1048577 : Int) < (m : Int) := by omega
          generalize (k0.toNat : Int) = kI at q5 hk0I hk0B
          clear hk0 he hkk hx HE2 HKK HX hk00 hl
          go_wp2_with fail
          go_ret3
          rw [HR.out.1, HR.out.2.1, HR.out.2.2]
          exact ⟨_, rfl, Sl.nil_ _ _, HB5.out⟩
        · have he : openE (k0 :: r) = 0 := by rw [HE2.out, if_neg hk0, if_neg hl]
          have hkk : openK (k0 :: r) = k0 := by rw [HKK.out, if_pos he]
          have hx : openX (k0 :: r) = F.drop 1 := by rw [HX.out, if_pos he]
          have HR := Lib.hid (And.intro he (And.intro hkk hx))
          have j1 : ¬ (1048577 : Int) < (m : Int) := by omega
          clear hk0 he hkk hx HE2 HKK HX hk00 hl
          go_wp2_with fail
          go_region
          all_goals go_wp2_with fail
          go_ret3
          rw [HR.out.1, HR.out.2.1, HR.out.2.2]
          exact ⟨_, rfl, (HX5.out.below (Below.refl _ _).drew).more (by show B ≤ w5.heap.size; exact Nat.le_trans hB HB5.out.size), HB5.out.drew⟩
    · have hE2 := HE.out
      rw [if_pos hTD] at hE2
      have hkk : openK (k0 :: r) = 0 := by rw [HKK.out, hE2]; rfl
      have hx : openX (k0 :: r) = [] := by rw [HX.out, hE2]; rfl
      have HR := Lib.hid (And.intro hE2 (And.intro hkk hx))
      clear hE2 HE hT hkk hx HKK HX
      refine wpAnyH_take (i := 10) (oi := { dst := Option.some 22, op := Op.binOp BinOp.neq 9 (Operand.tmp 17) (Operand.tmp 21) 9, type := 4, pos := "ref.go:53", after := #[{ on := 5, ground := Ground.data }, { on := 9, ground := Ground.data }], guard := Option.none }) (v := .bool true) rfl (by kernel_rfl) (by kernel_rfl) (by kernel_rfl) (fun _ _ _ h => h) (Or.inl ⟨by rfl, ?_⟩) hHeld ?_
      · intro W hSw
        go_simp
      simp only [Act.put, List.setIfInBounds_toArray, List.set_cons_zero, List.set_cons_succ]
      refine wpAnyH_done (by kernel_rfl) ?_ _
      go_wp2_with fail
      go_ret3
      rw [HR.out.1, HR.out.2.1, HR.out.2.2]
      exact ⟨_, rfl, Sl.nil_ _ _, HB5.out⟩

end Go.Proofs.YtfblgkcipnkhaaaGreatDoor.pk

/-
  The document's Open once more, with the place of what it gives (by script out of s2's text).
-/
namespace Go.Proofs.YtfblgkcipnkhaaaGreatDoor.pk
open Go Go.RowKit
set_option maxRecDepth 100000

set_option maxHeartbeats 1000000 in
theorem RefOpenB_any (A : Option Addr) (n c : Nat) (b : List UInt8) (w : World) (B : Nat) (hB : B ≤ w.heap.size) (h : Sl w B (.slice A n c) b) :
    Calls Tryz.prog 56 #[.slice A n c] w fun x w' => ∃ v, x = .returned (.tuple #[.int .u8 ((openK b).toNat : Int), v, .int .i64 (openE b : Int)]) ∧ Sl w' B v (openX b) ∧ Below w.heap.size w w' := by
  obtain ⟨hn, hc1, hc2⟩ := h.len
  by_cases h5 : b.length < 5
  · have he : openE b = 12 := by unfold openE; rw [if_pos h5]
    have hk : openK b = 0 := by unfold openK; rw [he]; rfl
    have hx : openX b = [] := by unfold openX; rw [he]; rfl
    have i1 : (n : Int) < 5 := by omega
    rw [he, hk, hx]
    clear he hk hx hn h h5
    go_enter Tryz.func56, Tryz.ntmps56
    go_wp2
    go_ret3
    exact ⟨_, rfl, Sl.nil_ _ _, Below.refl _ _⟩
  · obtain ⟨k0, r, rfl⟩ : ∃ k0 r, b = k0 :: r := by
      cases b with
      | nil => simp at h5
      | cons a r => exact ⟨a, r, rfl⟩
    obtain ⟨bk, off, rfl, hbk, hn1, hcc, hcm, hc0⟩ := h.head
    obtain ⟨m, hm⟩ : ∃ m, m = n - 4 := ⟨_, rfl⟩
    have hmn : m = (k0 :: r).length - 4 := by omega
    have hfr := h.front (k := m) (by omega)
    have hct := h.cut (k := m) (by omega)
    rw [if_neg (by omega), show n - m = 4 from by omega] at hct
    simp only [Option.map_some, Lib.add_plain] at hct
    have hc1' := hfr.cut (k := 1) (by rw [List.length_take]; omega)
    rw [if_neg (by omega)] at hc1'
    simp only [Option.map_some, Lib.add_plain] at hc1'
    have HC0 := Lib.hid hc0
    have HFR := Lib.hid hfr
    have HX1 := Lib.hid hc1'
    have HW : Hid (∀ W, Below w.heap.size w W → (convert 22 9 (.slice (some ⟨bk, off + m, none⟩) 4 (c - m))).run Tryz.prog W = .ok (.string ⟨((k0 :: r).drop m).toArray⟩) W) :=
      Lib.hid fun W hW => conv_bytes (hct.below (hW.mono hB))
    have hE : openE (k0 :: r) = if tail4 (sum ((k0 :: r).take m)) ≠ (k0 :: r).drop m then 11 else if k0 = 0 then 1 else if 1048577 < m then 2 else 0 := by
      unfold openE
      rw [if_neg h5, ← hmn]
      rfl
    have hX : openX (k0 :: r) = if openE (k0 :: r) = 0 then ((k0 :: r).take m).drop 1 else [] := by unfold openX; rw [← hmn]
    have hK : openK (k0 :: r) = if openE (k0 :: r) = 0 then k0 else 0 := rfl
    have HS := Lib.hid (sum_lt ((k0 :: r).take m))
    have HE := Lib.hid hE
    have HX := Lib.hid hX
    have HKK := Lib.hid hK
    have HM := Lib.hid (show 1 ≤ m ∧ m + 4 = n by omega)
    have i1 : ¬ (n : Int) < 5 := by omega
    have i2 : (n : Int) - 4 = (m : Int) := by omega
    have i3 : IntKind.i64.wrap (m : Int) = (m : Int) := IntWalk.i64_in _ (by omega)
    have i4 : (m : Int) ≤ (n : Int) := by omega
    have i5 : (n : Int) ≤ (c : Int) := by omega
    have i6 : (1 : Int) ≤ (m : Int) := by omega
    have i7 : (m : Int) ≤ (c : Int) := by omega
    have i8 : (0 : Int) < (n : Int) := by omega
    have i10 : ¬ c = m := by omega
    have i9 : (c : Int) ≤ 9223372036854775807 := by omega
    obtain ⟨D, hD⟩ : ∃ D, D = (k0 :: r).drop m := ⟨_, rfl⟩
    obtain ⟨F, hF⟩ : ∃ F, F = (k0 :: r).take m := ⟨_, rfl⟩
    have hgap : n - m = 4 := by omega
    rw [← hD] at HW HE
    rw [← hF] at HFR HX1 HE HX HS
    clear hm hmn hfr hct hc1' hc0 hE hX hK hD hF h hn h5 hn1 hcc hcm hc1 hc2
    go_enter Tryz.func56, Tryz.ntmps56
    go_wp2_with fail
    have hd : Below w.heap.size w w.drew := (Below.refl _ _).drew
    have HD := Lib.hid hd
    refine wp_region_held_drew (S := fun W => Below w.heap.size w W) (by kernel_rfl) hd (fun hHeld => ?_)
    clear hd
    refine wpAnyH_take (i := 0) (oi := { dst := Option.some 12, op := Op.move (Operand.tmp 0), type := 22, pos := "ref.go:53", after := #[], guard := Option.none }) (v := .slice (some ⟨bk, off, none⟩) n c) rfl (by kernel_rfl) (by kernel_rfl) (by kernel_rfl) (fun _ _ _ h => h) (Or.inl ⟨by rfl, ?_⟩) hHeld ?_
    · intro W hSw
      go_simp
    simp only [Act.put, List.setIfInBounds_toArray, List.set_cons_zero, List.set_cons_succ]
    refine wpAnyH_take (i := 1) (oi := { dst := Option.some 13, op := Op.move (Operand.tmp 5), type := 3, pos := "ref.go:53", after := #[], guard := Option.none }) (v := .int .i64 (m : Int)) rfl (by kernel_rfl) (by kernel_rfl) (by kernel_rfl) (fun _ _ _ h => h) (Or.inl ⟨by rfl, ?_⟩) hHeld ?_
    · intro W hSw
      go_simp
    simp only [Act.put, List.setIfInBounds_toArray, List.set_cons_zero, List.set_cons_succ]
    refine wpAnyH_take (i := 2) (oi := { dst := Option.some 14, op := Op.slice 22 (Operand.tmp 12) Option.none (Option.some (Operand.tmp 13)) Option.none, type := 22, pos := "ref.go:53", after := #[{ on := 0, ground := Ground.data }, { on := 1, ground := Ground.data }], guard := Option.none }) (v := .slice (some ⟨bk, off, none⟩) m c) rfl (by kernel_rfl) (by kernel_rfl) (by kernel_rfl) (fun _ _ _ h => h) (Or.inl ⟨by rfl, ?_⟩) hHeld ?_
    · intro W hSw
      go_simp
    simp only [Act.put, List.setIfInBounds_toArray, List.set_cons_zero, List.set_cons_succ]
    refine wpAnyH_take (i := 6) (oi := { dst := Option.some 18, op := Op.move (Operand.tmp 0), type := 22, pos := "ref.go:53", after := #[], guard := Option.none }) (v := .slice (some ⟨bk, off, none⟩) n c) rfl (by kernel_rfl) (by kernel_rfl) (by kernel_rfl) (fun _ _ _ h => h) (Or.inl ⟨by rfl, ?_⟩) hHeld ?_
    · intro W hSw
      go_simp
    simp only [Act.put, List.setIfInBounds_toArray, List.set_cons_zero, List.set_cons_succ]
    refine wpAnyH_take (i := 7) (oi := { dst := Option.some 19, op := Op.move (Operand.tmp 5), type := 3, pos := "ref.go:53", after := #[], guard := Option.none }) (v := .int .i64 (m : Int)) rfl (by kernel_rfl) (by kernel_rfl) (by kernel_rfl) (fun _ _ _ h => h) (Or.inl ⟨by rfl, ?_⟩) hHeld ?_
    · intro W hSw
      go_simp
    simp only [Act.put, List.setIfInBounds_toArray, List.set_cons_zero, List.set_cons_succ]
    refine wpAnyH_take (i := 8) (oi := { dst := Option.some 20, op := Op.slice 22 (Operand.tmp 18) (Option.some (Operand.tmp 19)) Option.none Option.none, type := 22, pos := "ref.go:53", after := #[{ on := 6, ground := Ground.data }, { on := 7, ground := Ground.data }], guard := Option.none }) (v := .slice (some ⟨bk, off + m, none⟩) 4 (c - m)) rfl (by kernel_rfl) (by kernel_rfl) (by kernel_rfl) (fun _ _ _ h => h) (Or.inl ⟨by rfl, ?_⟩) hHeld ?_
    · intro W hSw
      go_simp
    simp only [Act.put, List.setIfInBounds_toArray, List.set_cons_zero, List.set_cons_succ]
    refine wpAnyH_take (i := 9) (oi := { dst := Option.some 21, op := Op.convert 22 9 (Operand.tmp 20), type := 9, pos := "ref.go:53", after := #[{ on := 8, ground := Ground.data }], guard := Option.none }) (v := .string ⟨D.toArray⟩) rfl (by kernel_rfl) (by kernel_rfl) (by kernel_rfl) (fun _ _ _ h => h) (Or.inl ⟨by rfl, ?_⟩) hHeld ?_
    · intro W hSw
      have hcW := HW.out W hSw
      go_simp
    simp only [Act.put, List.setIfInBounds_toArray, List.set_cons_zero, List.set_cons_succ]
    refine wpAnyH_ready (rs := [3]) (by kernel_rfl) (by simp) ?_
    refine AllReadyH.cons (o := { dst := Option.some 15, op := Op.call { callee := Callee.value (Operand.func 54), args := #[Operand.tmp 14], argTypes := #[22] }, type := 92, pos := "ref.go:53", after := #[{ on := 2, ground := Ground.data }], guard := Option.none }) rfl (fun K hK => ?_) AllReadyH.nil
    go_simp
    refine (RefSum_any (some ⟨bk, off, none⟩) m c F _ B (by show B ≤ w.heap.size; exact hB) (HFR.out.below (HD.out.mono hB))).mono ?_
    rintro y w4 ⟨rfl, hb4⟩
    have hbw4 : Below w.heap.size w w4 := HD.out.trans (hb4.mono HD.out.size)
    have HB4 := Lib.hid hbw4
    clear hb4 hHeld
    refine hK.out _ _ hbw4 (fun hHeld => ?_)
    clear hK K hbw4
    refine wpAnyH_ready (rs := [4]) (by kernel_rfl) (by simp) ?_
    refine AllReadyH.cons (o := { dst := Option.some 16, op := Op.call { callee := Callee.value (Operand.func 53), args := #[Operand.tmp 15], argTypes := #[92] }, type := 22, pos := "ref.go:53", after := #[{ on := 3, ground := Ground.data }, { on := 3, ground := Ground.chain }], guard := Option.none }) rfl (fun K hK => ?_) AllReadyH.nil
    go_simp
    refine (RefTail_any _ HS.out _).mono ?_
    rintro y w5 ⟨a5, rfl, h5, hb5⟩
    have hcf := conv_bytes h5
    have hbw5 : Below w.heap.size w w5 := HB4.out.trans (hb5.mono HB4.out.size)
    have HB5 := Lib.hid hbw5
    clear hb5 h5 hHeld
    refine hK.out _ _ hbw5 (fun hHeld => ?_)
    clear hK K hbw5
    generalize hT : tail4 (sum F) = T at hcf HE
    refine wpAnyH_ready (rs := [5]) (by kernel_rfl) (by simp) ?_
    refine AllReadyH.cons (o := { dst := Option.some 17, op := Op.convert 22 9 (Operand.tmp 16), type := 9, pos := "ref.go:53", after := #[{ on := 4, ground := Ground.data }], guard := Option.none }) rfl (fun K hK => ?_) AllReadyH.nil
    go_simp
    refine hK.out _ _ hHeld (fun hHeld => ?_)
    clear hK K
    have q5 : w5.cell? ⟨bk, off, none⟩ = some (.int .u8 (k0.toNat : Int)) := (HB5.out.cell (p := ⟨bk, off, none⟩) (by show bk < w.heap.size; omega)).trans HC0.out
    have HX5 := Lib.hid (HX1.out.below (HB5.out.mono hB))
    by_cases hTD : T = D
    · have hE2 := HE.out
      rw [if_neg (by rw [hTD]; simp)] at hE2
      have HE2 := Lib.hid hE2
      subst hTD
      clear hE2 HE hT
      refine wpAnyH_take (i := 10) (oi := { dst := Option.some 22, op := Op.binOp BinOp.neq 9 (Operand.tmp 17) (Operand.tmp 21) 9, type := 4, pos := "ref.go:53", after := #[{ on := 5, ground := Ground.data }, { on := 9, ground := Ground.data }], guard := Option.none }) (v := .bool false) rfl (by kernel_rfl) (by kernel_rfl) (by kernel_rfl) (fun _ _ _ h => h) (Or.inl ⟨by rfl, ?_⟩) hHeld ?_
      · intro W hSw
        go_simp
      simp only [Act.put, List.setIfInBounds_toArray, List.set_cons_zero, List.set_cons_succ]
      refine wpAnyH_done (by kernel_rfl) ?_ _
      by_cases hk0 : k0 = 0
      · have hk0I : (k0.toNat : Int) = 0 := by rw [hk0]; rfl
        have he : openE (k0 :: r) = 1 := by rw [HE2.out, if_pos hk0]
        have hkk : openK (k0 :: r) = 0 := by rw [HKK.out, he]; rfl
        have hx : openX (k0 :: r) = [] := by rw [HX.out, he]; rfl
        have HR := Lib.hid (And.intro he (And.intro hkk hx))
        rw [hk0I] at q5
        clear hk0 hk0I he hkk hx HE2 HKK HX
        go_wp2_with fail
        go_ret3
        rw [HR.out.1, HR.out.2.1, HR.out.2.2]
        exact ⟨_, rfl, Sl.nil_ _ _, HB5.out⟩
      · have hk00 : ¬ k0.toNat = 0 := fun e => hk0 (UInt8.toNat_inj.1 (by rw [e]; rfl))
        have hk0I : ¬ (k0.toNat : Int) = 0 := by omega
        have hk0B : ((k0.toNat : Int) == 0) = false := by rw [beq_eq_false_iff_ne]; exact hk0I
        by_cases hl : 1048577 < m
        · have he : openE (k0 :: r) = 2 := by rw [HE2.out, if_neg hk0, if_pos hl]
          have hkk : openK (k0 :: r) = 0 := by rw [HKK.out, he]; rfl
          have hx : openX (k0 :: r) = [] := by rw [HX.out, he]; rfl
          have HR := Lib.hid (And.intro he (And.intro hkk hx))
          have j1 : (1048577 : Int) < (m : Int) := by omega
          generalize (k0.toNat : Int) = kI at q5 hk0I hk0B
          clear hk0 he hkk hx HE2 HKK HX hk00 hl
          go_wp2_with fail
          go_ret3
          rw [HR.out.1, HR.out.2.1, HR.out.2.2]
          exact ⟨_, rfl, Sl.nil_ _ _, HB5.out⟩
        · have he : openE (k0 :: r) = 0 := by rw [HE2.out, if_neg hk0, if_neg hl]
          have hkk : openK (k0 :: r) = k0 := by rw [HKK.out, if_pos he]
          have hx : openX (k0 :: r) = F.drop 1 := by rw [HX.out, if_pos he]
          have HR := Lib.hid (And.intro he (And.intro hkk hx))
          have j1 : ¬ (1048577 : Int) < (m : Int) := by omega
          clear hk0 he hkk hx HE2 HKK HX hk00 hl
          go_wp2_with fail
          go_region
          all_goals go_wp2_with fail
          go_ret3
          rw [HR.out.1, HR.out.2.1, HR.out.2.2]
          exact ⟨_, rfl, HX5.out.below (Below.refl _ _).drew, HB5.out.drew⟩
    · have hE2 := HE.out
      rw [if_pos hTD] at hE2
      have hkk : openK (k0 :: r) = 0 := by rw [HKK.out, hE2]; rfl
      have hx : openX (k0 :: r) = [] := by rw [HX.out, hE2]; rfl
      have HR := Lib.hid (And.intro hE2 (And.intro hkk hx))
      clear hE2 HE hT hkk hx HKK HX
      refine wpAnyH_take (i := 10) (oi := { dst := Option.some 22, op := Op.binOp BinOp.neq 9 (Operand.tmp 17) (Operand.tmp 21) 9, type := 4, pos := "ref.go:53", after := #[{ on := 5, ground := Ground.data }, { on := 9, ground := Ground.data }], guard := Option.none }) (v := .bool true) rfl (by kernel_rfl) (by kernel_rfl) (by kernel_rfl) (fun _ _ _ h => h) (Or.inl ⟨by rfl, ?_⟩) hHeld ?_
      · intro W hSw
        go_simp
      simp only [Act.put, List.setIfInBounds_toArray, List.set_cons_zero, List.set_cons_succ]
      refine wpAnyH_done (by kernel_rfl) ?_ _
      go_wp2_with fail
      go_ret3
      rw [HR.out.1, HR.out.2.1, HR.out.2.2]
      exact ⟨_, rfl, Sl.nil_ _ _, HB5.out⟩

end Go.Proofs.YtfblgkcipnkhaaaGreatDoor.pk
