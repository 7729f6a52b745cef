/-
  The law DiskStays' own walk: what was synced stays; what was written is read.
-/
import Derived.Test.YtlhagbcomnjnoaaSureD
import Derived.Test.YtlhagbcomnjnoaaOwnD
import Derived.Test.YtlhagbcomnjnoaaActs
import Derived.Test.YtlhagbcomnjnoaaPrefP
import Derived.Test.YtlhagbcomnjnoaaTailQ
import Derived.BigRegion
namespace Go.Proofs.Ytlhagbcomnjnoaa.pk
open Go Go.RowKit
set_option maxRecDepth 100000

theorem calm_few {d : Dk} {i : Nat} (hi : i ≤ 20) (h : d.L.length ≤ i) : d.L.length < 100000 := by omega

set_option maxHeartbeats 4000000 in
theorem stays_true {Q : ConD → Prop} (C : ConD) (B : ConB Q C) (A A' A'' : Option Addr) (m c m' c' m'' c'' : Nat) (la lb : List Ac) (keep : List Int) (w : World) (ha : ActsT w (fun k => k < w.heap.size) (.slice A m c) la) (hb : ActsT w (fun k => k < w.heap.size) (.slice A' m' c') lb) (hk : IntsT w (fun k => k < w.heap.size) (.slice A'' m'' c'') keep)
    (hki : ∀ z ∈ keep, inI z) (hkl : keep.length * 8 ≤ 140737488355328) :
    Calls Try.prog 3 #[.slice A m c, .slice A' m' c', .slice A'' m'' c''] w fun x w' => x = .returned (.bool true) ∧ Below w.heap.size w w' := by
  obtain ⟨A1, c1, hv, hmc, hcm⟩ := ha.form
  injection hv with e1 e2 e3
  subst e1; subst e3
  obtain ⟨A2, c2, hv, hmc', hcm'⟩ := hb.form
  injection hv with e4 e5 e6
  subst e4; subst e6
  obtain ⟨A3, c3, hv, _, _⟩ := hk.form
  injection hv with e7 e8 e9
  subst e7; subst e9
  have HM := Lib.hid e2
  have HM' := Lib.hid e5
  have HM'' := Lib.hid e8
  have hmB : (m : Int) ≤ 9223372036854775807 := by omega
  have hmB' : (m' : Int) ≤ 9223372036854775807 := by omega
  have HA := Lib.hid ha
  have HB := Lib.hid hb
  have HK := Lib.hid (And.intro hk (And.intro hki hkl))
  clear ha hb hk hki hkl e2 e5 e8 hmc hcm hmc' hcm'
  go_enter Try.func3, Try.ntmps3
  go_upto_region 4 with (go_at_call 5; go_must (refine (live_new B w 60 (by omega) (by omega) 60 rfl).mono ?_; rintro y w1 ⟨p, S, rfl, h1⟩; have L1 := Lib.hid h1; clear h1))
  go_upto_block 0 with fail
  go_cut [9] (fun _ W => ∃ (S2 : Nat → Prop) (d : Dk), Live C w W S2 p d ∧ Calm d ∧ d.L.length ≤ 20)
  case first =>
    go_wp2_with fail
    go_loopw [9] (fun ii wr => ∃ (i : Nat) (S2 : Nat → Prop) (d : Dk), i ≤ 20 ∧ i ≤ m ∧ ii = .int .i64 (i : Int) ∧ Live C w wr S2 p d ∧ Calm d ∧ d.L.length ≤ i) (fun ii _ => 20 - (intOf ii).toNat)
    case atStart => exact ⟨0, S, _, by omega, by omega, rfl, L1.out, calm_new, Nat.le_refl _⟩
    case round =>
      obtain ⟨i, S2, d, hi, him, rfl, hlr, hcd, hdl⟩ := hrel
      have LR := Lib.hid hlr
      have HC := Lib.hid (And.intro hcd hdl)
      clear hlr hcd hdl
      by_cases hlt : i < m ∧ i < 20
      · obtain ⟨hlt1, hlt2⟩ := hlt
        obtain ⟨b, off, Ad, cd, Ak, ck, rfl, hb, hok, -, hq1, -, hq3, -, hsl, -⟩ := HA.out.at_ i (by have := HM.out; omega)
        have i1 : (i : Int) < (m : Int) := by omega
        have i2 : (i : Int) < 20 := by omega
        have i0 : (0 : Int) ≤ (i : Int) := by omega
        obtain ⟨x, hx⟩ : ∃ x, x = (la[i]'(by have := HM.out; omega)).data := ⟨_, rfl⟩
        obtain ⟨at_, hat⟩ : ∃ z, z = (la[i]'(by have := HM.out; omega)).at_ := ⟨_, rfl⟩
        have hati := hok.2.1
        rw [← hx] at hq3 hsl
        rw [← hat] at hq1 hati
        have HQ := Lib.hid (And.intro hb (And.intro hq1 hq3))
        have HSL := Lib.hid hsl
        have HATI := Lib.hid hati
        obtain ⟨lx, hlx⟩ : ∃ lx, lx = x.length := ⟨_, rfl⟩
        rw [← hlx] at HSL HQ
        clear hb hok hq1 hq3 hsl hati hx hat hlx
        go_wp2_with fail
        have hd : Below w.heap.size w wr.drew := LR.out.below.drew
        refine wp_region_held_drew (S := fun W => Below w.heap.size w W) (by kernel_rfl) hd (fun hHeld => ?_)
        clear hd
        refine wpAnyH_take (i := 0) (oi := { dst := Option.some 40, op := Op.move (Operand.tmp 7), type := 24, pos := "law.go:113", after := #[], guard := Option.none }) (v := .pointer (some ⟨p, 0, none⟩)) rfl (by kernel_rfl) (by kernel_rfl) (by kernel_rfl) (fun _ _ _ h => h) (Or.inl ⟨by rfl, ?_⟩) hHeld ?_
        · intro W hSw
          have hq := (hSw.cell (p := ⟨b, off + i * 5 + 1, none⟩) HQ.out.1).trans HQ.out.2.1
          go_simp
        simp only [Act.put, List.setIfInBounds_toArray, List.set_cons_zero, List.set_cons_succ]
        refine wpAnyH_take (i := 1) (oi := { dst := Option.some 41, op := Op.move (Operand.tmp 0), type := 22, pos := "law.go:113", after := #[], guard := Option.none }) (v := .slice (some ⟨b, off, none⟩) m c) rfl (by kernel_rfl) (by kernel_rfl) (by kernel_rfl) (fun _ _ _ h => h) (Or.inl ⟨by rfl, ?_⟩) hHeld ?_
        · intro W hSw
          have hq := (hSw.cell (p := ⟨b, off + i * 5 + 1, none⟩) HQ.out.1).trans HQ.out.2.1
          go_simp
        simp only [Act.put, List.setIfInBounds_toArray, List.set_cons_zero, List.set_cons_succ]
        refine wpAnyH_take (i := 2) (oi := { dst := Option.some 42, op := Op.move (Operand.tmp 9), type := 3, pos := "law.go:113", after := #[], guard := Option.none }) (v := .int .i64 (i : Int)) rfl (by kernel_rfl) (by kernel_rfl) (by kernel_rfl) (fun _ _ _ h => h) (Or.inl ⟨by rfl, ?_⟩) hHeld ?_
        · intro W hSw
          have hq := (hSw.cell (p := ⟨b, off + i * 5 + 1, none⟩) HQ.out.1).trans HQ.out.2.1
          go_simp
        simp only [Act.put, List.setIfInBounds_toArray, List.set_cons_zero, List.set_cons_succ]
        refine wpAnyH_take (i := 3) (oi := { dst := Option.some 43, op := Op.indexAddr 22 (Operand.tmp 41) (Operand.tmp 42), type := 0, pos := "law.go:113", after := #[{ on := 1, ground := Ground.data }, { on := 2, ground := Ground.data }], guard := Option.none }) (v := .pointer (some ⟨b, off + i * 5, none⟩)) rfl (by kernel_rfl) (by kernel_rfl) (by kernel_rfl) (fun _ _ _ h => h) (Or.inl ⟨by rfl, ?_⟩) hHeld ?_
        · intro W hSw
          have hq := (hSw.cell (p := ⟨b, off + i * 5 + 1, none⟩) HQ.out.1).trans HQ.out.2.1
          go_simp
        simp only [Act.put, List.setIfInBounds_toArray, List.set_cons_zero, List.set_cons_succ]
        refine wpAnyH_take (i := 4) (oi := { dst := Option.some 44, op := Op.fieldAddr 32 (Operand.tmp 43) 1, type := 0, pos := "law.go:113", after := #[{ on := 3, ground := Ground.data }], guard := Option.none }) (v := .pointer (some ⟨b, off + i * 5 + 1, none⟩)) rfl (by kernel_rfl) (by kernel_rfl) (by kernel_rfl) (fun _ _ _ h => h) (Or.inl ⟨by rfl, ?_⟩) hHeld ?_
        · intro W hSw
          have hq := (hSw.cell (p := ⟨b, off + i * 5 + 1, none⟩) HQ.out.1).trans HQ.out.2.1
          go_simp
        simp only [Act.put, List.setIfInBounds_toArray, List.set_cons_zero, List.set_cons_succ]
        refine wpAnyH_take (i := 5) (oi := { dst := Option.some 45, op := Op.load 3 (Operand.tmp 44), type := 3, pos := "law.go:113", after := #[{ on := 4, ground := Ground.data }], guard := Option.none }) (v := .int .i64 at_) rfl (by kernel_rfl) (by kernel_rfl) (by kernel_rfl) (fun _ _ _ h => h) (Or.inl ⟨by rfl, ?_⟩) hHeld ?_
        · intro W hSw
          have hq := (hSw.cell (p := ⟨b, off + i * 5 + 1, none⟩) HQ.out.1).trans HQ.out.2.1
          go_simp
        simp only [Act.put, List.setIfInBounds_toArray, List.set_cons_zero, List.set_cons_succ]
        refine wpAnyH_take (i := 6) (oi := { dst := Option.some 46, op := Op.move (Operand.tmp 0), type := 22, pos := "law.go:113", after := #[], guard := Option.none }) (v := .slice (some ⟨b, off, none⟩) m c) rfl (by kernel_rfl) (by kernel_rfl) (by kernel_rfl) (fun _ _ _ h => h) (Or.inl ⟨by rfl, ?_⟩) hHeld ?_
        · intro W hSw
          have hq := (hSw.cell (p := ⟨b, off + i * 5 + 3, none⟩) HQ.out.1).trans HQ.out.2.2
          go_simp
        simp only [Act.put, List.setIfInBounds_toArray, List.set_cons_zero, List.set_cons_succ]
        refine wpAnyH_take (i := 7) (oi := { dst := Option.some 47, op := Op.move (Operand.tmp 9), type := 3, pos := "law.go:113", after := #[], guard := Option.none }) (v := .int .i64 (i : Int)) rfl (by kernel_rfl) (by kernel_rfl) (by kernel_rfl) (fun _ _ _ h => h) (Or.inl ⟨by rfl, ?_⟩) hHeld ?_
        · intro W hSw
          have hq := (hSw.cell (p := ⟨b, off + i * 5 + 3, none⟩) HQ.out.1).trans HQ.out.2.2
          go_simp
        simp only [Act.put, List.setIfInBounds_toArray, List.set_cons_zero, List.set_cons_succ]
        refine wpAnyH_take (i := 8) (oi := { dst := Option.some 48, op := Op.indexAddr 22 (Operand.tmp 46) (Operand.tmp 47), type := 0, pos := "law.go:113", after := #[{ on := 6, ground := Ground.data }, { on := 7, ground := Ground.data }], guard := Option.none }) (v := .pointer (some ⟨b, off + i * 5, none⟩)) rfl (by kernel_rfl) (by kernel_rfl) (by kernel_rfl) (fun _ _ _ h => h) (Or.inl ⟨by rfl, ?_⟩) hHeld ?_
        · intro W hSw
          have hq := (hSw.cell (p := ⟨b, off + i * 5 + 3, none⟩) HQ.out.1).trans HQ.out.2.2
          go_simp
        simp only [Act.put, List.setIfInBounds_toArray, List.set_cons_zero, List.set_cons_succ]
        refine wpAnyH_take (i := 9) (oi := { dst := Option.some 49, op := Op.fieldAddr 32 (Operand.tmp 48) 3, type := 0, pos := "law.go:113", after := #[{ on := 8, ground := Ground.data }], guard := Option.none }) (v := .pointer (some ⟨b, off + i * 5 + 3, none⟩)) rfl (by kernel_rfl) (by kernel_rfl) (by kernel_rfl) (fun _ _ _ h => h) (Or.inl ⟨by rfl, ?_⟩) hHeld ?_
        · intro W hSw
          have hq := (hSw.cell (p := ⟨b, off + i * 5 + 3, none⟩) HQ.out.1).trans HQ.out.2.2
          go_simp
        simp only [Act.put, List.setIfInBounds_toArray, List.set_cons_zero, List.set_cons_succ]
        refine wpAnyH_take (i := 10) (oi := { dst := Option.some 50, op := Op.load 30 (Operand.tmp 49), type := 30, pos := "law.go:113", after := #[{ on := 9, ground := Ground.data }], guard := Option.none }) (v := .slice Ad lx cd) rfl (by kernel_rfl) (by kernel_rfl) (by kernel_rfl) (fun _ _ _ h => h) (Or.inl ⟨by rfl, ?_⟩) hHeld ?_
        · intro W hSw
          have hq := (hSw.cell (p := ⟨b, off + i * 5 + 3, none⟩) HQ.out.1).trans HQ.out.2.2
          go_simp
        simp only [Act.put, List.setIfInBounds_toArray, List.set_cons_zero, List.set_cons_succ]
        refine wpAnyH_ready (rs := [11]) (by kernel_rfl) (by simp) ?_
        refine AllReadyH.cons (o := { dst := Option.some 51, op := Op.call { callee := Callee.value (Operand.func 6), args := #[Operand.tmp 40, Operand.tmp 45, Operand.tmp 50], argTypes := #[24, 3, 30] }, type := 26, pos := "law.go:113", after := #[{ on := 0, ground := Ground.data }, { on := 5, ground := Ground.data }, { on := 10, ground := Ground.data }], guard := Option.none }) rfl (fun K hK => ?_) AllReadyH.nil
        go_simp
        have hp := HC.out.1.put at_ x
        have hpl := putD_lenL d at_ x
        refine (live_write LR.out.drew at_ Ad lx cd x HATI.out (by have := HC.out.2; omega) (LR.out.drew.arg HSL.out)).mono ?_
        rintro y w3 ⟨S3, rfl, h3, _⟩
        have L3 := Lib.hid h3
        have HC3 := Lib.hid (show Calm (putD d at_ x) ∧ (putD d at_ x).L.length ≤ i + 1 from ⟨hp.1, by have := HC.out.2; omega⟩)
        clear h3 hp hpl hHeld
        refine hK.out _ _ L3.out.below (fun hHeld => ?_)
        clear hK K hHeld
        refine wpAnyH_done (by kernel_rfl) ?_ _
        go_wp2_with fail
        go_roundw
        case rel => exact ⟨i + 1, S3, _, by omega, by omega, by go_num, L3.out, HC3.out.1, HC3.out.2⟩
        case measure => simp [intOf]; omega
      · have hge : ¬ ((i : Int) < (m : Int)) ∨ ((i : Int) < (m : Int) ∧ ¬ (i : Int) < 20) := by omega
        clear hlt
        rcases hge with hge | ⟨hge1, hge2⟩
        all_goals
          go_wp2_with fail
          go_meet
          exact ⟨S2, d, LR.out, HC.out.1, by have := HC.out.2; omega⟩
  case rest =>
    obtain ⟨S2, d2, hl2, hc2, hd2⟩ := hcut
    have L2 := Lib.hid hl2
    have hsy := hc2.sync
    have HC2 := Lib.hid hsy
    clear hl2 hc2 hd2
    go_upto_region 10 with (first
      | (go_at_call 8; go_must (refine (live_waits L3.out).mono ?_; rw [HC2.out.2.2]; rintro y w4 ⟨rfl, h4, _⟩; have L4 := Lib.hid h4; clear h4))
      | (go_at_call 7; go_must (refine (live_sync L2.out).mono ?_; rw [HC2.out.2.1, er_zero]; rintro y w3 ⟨S3, rfl, h3, _⟩; have L3 := Lib.hid h3; clear h3)))
    have hrd := HC2.out.1.read HC2.out.2.2
    have HRD := Lib.hid hrd
    clear hrd hsy
    go_upto_region 11 with (go_at_call 9; go_must (refine (live_read L4.out 0 60 (by unfold inI; omega) (by unfold inI; omega)).mono ?_; rw [HRD.out.1, HRD.out.2, er_zero]; rintro y w5 ⟨v5, rfl, h5, l5, hb5⟩; have L5 := Lib.hid l5; have T5 := Lib.hid h5; clear h5 l5 hb5))
    obtain ⟨B0, hB0⟩ : ∃ B0, B0 = (syncD d2).B := ⟨_, rfl⟩
    obtain ⟨d3, hd3⟩ : ∃ d3, d3 = syncD d2 := ⟨_, rfl⟩
    rw [← hd3] at hB0 HC2 L5 T5
    rw [← hB0] at T5
    have HB0 := Lib.hid hB0
    clear hB0 hd3
    go_upto_region 12 with fail
    obtain ⟨W6, hW6⟩ : ∃ W6, W6 = w5.alloc (.cells #[.bool false, .bool false, .bool false, .bool false, .bool false, .bool false, .bool false, .bool false, .bool false, .bool false, .bool false, .bool false, .bool false, .bool false, .bool false, .bool false, .bool false, .bool false, .bool false, .bool false, .bool false, .bool false, .bool false, .bool false, .bool false, .bool false, .bool false, .bool false, .bool false, .bool false, .bool false, .bool false, .bool false, .bool false, .bool false, .bool false, .bool false, .bool false, .bool false, .bool false, .bool false, .bool false, .bool false, .bool false, .bool false, .bool false, .bool false, .bool false, .bool false, .bool false, .bool false, .bool false, .bool false, .bool false, .bool false, .bool false, .bool false, .bool false, .bool false, .bool false] 37) := ⟨_, rfl⟩
    have hst : Stay C w W6 S3 p w5.heap.size 37 v5 B0 d3 (List.replicate 60 false) := by
      rw [hW6]
      have hfr : ¬ S3 w5.heap.size := fun hs => by have := C.foot L5.out.dk _ hs; omega
      refine ⟨L5.out.alloc _, HC2.out.1, HB0.out.symm, ?_, ⟨heap_alloc_new w5 _⟩, hfr, L5.out.size, List.length_replicate ..⟩
      exact T5.out.apart _
    rw [← hW6]
    have HST := Lib.hid hst
    clear hst hW6
    go_upto_block 2 with fail
    go_cut [13] (fun _ W => ∃ (S4 : Nat → Prop) (d : Dk) (l : List Bool), Stay C w W S4 p w5.heap.size 37 v5 B0 d l ∧ Cov d.L l ∧ d.L.length ≤ 20)
    case first =>
      go_wp2_with fail
      go_loopw [13] (fun ii wr => ∃ (i : Nat) (S4 : Nat → Prop) (d : Dk) (l : List Bool), i ≤ 20 ∧ i ≤ m' ∧ ii = .int .i64 (i : Int) ∧ Stay C w wr S4 p w5.heap.size 37 v5 B0 d l ∧ Cov d.L l ∧ d.L.length ≤ i) (fun ii _ => 20 - (intOf ii).toNat)
      case atStart => exact ⟨0, S3, d3, _, by omega, by omega, rfl, HST.out, Cov.of_nil HC2.out.2.2, by rw [HC2.out.2.2]; exact Nat.le_refl _⟩
      case round =>
        obtain ⟨i, S4, d, l, hi, him, rfl, hst, hcov, hdl⟩ := hrel
        have LR := Lib.hid hst
        have HC := Lib.hid (And.intro hcov hdl)
        clear hst hcov hdl
        by_cases hlt : i < m' ∧ i < 20
        · obtain ⟨hlt1, hlt2⟩ := hlt
          obtain ⟨b, off, Ad, cd, Ak, ck, rfl, hb, hok, -, hq1, -, hq3, -, hsl, -⟩ := HB.out.at_ i (by have := HM'.out; omega)
          have i1 : (i : Int) < (m' : Int) := by omega
          have i2 : (i : Int) < 20 := by omega
          have i0 : (0 : Int) ≤ (i : Int) := by omega
          obtain ⟨x, hx⟩ : ∃ x, x = (lb[i]'(by have := HM'.out; omega)).data := ⟨_, rfl⟩
          obtain ⟨at_, hat⟩ : ∃ z, z = (lb[i]'(by have := HM'.out; omega)).at_ := ⟨_, rfl⟩
          have hati := hok.2.1
          rw [← hx] at hq3 hsl
          rw [← hat] at hq1 hati
          have HQ := Lib.hid (And.intro hb (And.intro hq1 hq3))
          have HSL := Lib.hid hsl
          have HATI := Lib.hid hati
          obtain ⟨lx, hlx⟩ : ∃ lx, lx = x.length := ⟨_, rfl⟩
          rw [← hlx] at HSL HQ
          have HLX := Lib.hid hlx
          clear hb hok hq1 hq3 hsl hati hx hat hlx
          go_wp2_with fail
          have hd : Below w.heap.size w wr.drew := LR.out.live.below.drew
          refine wp_region_held_drew (S := fun W => Below w.heap.size w W) (by kernel_rfl) hd (fun hHeld => ?_)
          clear hd
          refine wpAnyH_take (i := 0) (oi := { dst := Option.some 75, op := Op.move (Operand.tmp 7), type := 24, pos := "law.go:121", after := #[], guard := Option.none }) (v := .pointer (some ⟨p, 0, none⟩)) rfl (by kernel_rfl) (by kernel_rfl) (by kernel_rfl) (fun _ _ _ h => h) (Or.inl ⟨by rfl, ?_⟩) hHeld ?_
          · intro W hSw
            have hq := (hSw.cell (p := ⟨b, off + i * 5 + 1, none⟩) HQ.out.1).trans HQ.out.2.1
            go_simp
          simp only [Act.put, List.setIfInBounds_toArray, List.set_cons_zero, List.set_cons_succ]
          refine wpAnyH_take (i := 1) (oi := { dst := Option.some 76, op := Op.move (Operand.tmp 1), type := 22, pos := "law.go:121", after := #[], guard := Option.none }) (v := .slice (some ⟨b, off, none⟩) m' c') rfl (by kernel_rfl) (by kernel_rfl) (by kernel_rfl) (fun _ _ _ h => h) (Or.inl ⟨by rfl, ?_⟩) hHeld ?_
          · intro W hSw
            have hq := (hSw.cell (p := ⟨b, off + i * 5 + 1, none⟩) HQ.out.1).trans HQ.out.2.1
            go_simp
          simp only [Act.put, List.setIfInBounds_toArray, List.set_cons_zero, List.set_cons_succ]
          refine wpAnyH_take (i := 2) (oi := { dst := Option.some 77, op := Op.move (Operand.tmp 13), type := 3, pos := "law.go:121", after := #[], guard := Option.none }) (v := .int .i64 (i : Int)) rfl (by kernel_rfl) (by kernel_rfl) (by kernel_rfl) (fun _ _ _ h => h) (Or.inl ⟨by rfl, ?_⟩) hHeld ?_
          · intro W hSw
            have hq := (hSw.cell (p := ⟨b, off + i * 5 + 1, none⟩) HQ.out.1).trans HQ.out.2.1
            go_simp
          simp only [Act.put, List.setIfInBounds_toArray, List.set_cons_zero, List.set_cons_succ]
          refine wpAnyH_take (i := 3) (oi := { dst := Option.some 78, op := Op.indexAddr 22 (Operand.tmp 76) (Operand.tmp 77), type := 0, pos := "law.go:121", after := #[{ on := 1, ground := Ground.data }, { on := 2, ground := Ground.data }], guard := Option.none }) (v := .pointer (some ⟨b, off + i * 5, none⟩)) rfl (by kernel_rfl) (by kernel_rfl) (by kernel_rfl) (fun _ _ _ h => h) (Or.inl ⟨by rfl, ?_⟩) hHeld ?_
          · intro W hSw
            have hq := (hSw.cell (p := ⟨b, off + i * 5 + 1, none⟩) HQ.out.1).trans HQ.out.2.1
            go_simp
          simp only [Act.put, List.setIfInBounds_toArray, List.set_cons_zero, List.set_cons_succ]
          refine wpAnyH_take (i := 4) (oi := { dst := Option.some 79, op := Op.fieldAddr 32 (Operand.tmp 78) 1, type := 0, pos := "law.go:121", after := #[{ on := 3, ground := Ground.data }], guard := Option.none }) (v := .pointer (some ⟨b, off + i * 5 + 1, none⟩)) rfl (by kernel_rfl) (by kernel_rfl) (by kernel_rfl) (fun _ _ _ h => h) (Or.inl ⟨by rfl, ?_⟩) hHeld ?_
          · intro W hSw
            have hq := (hSw.cell (p := ⟨b, off + i * 5 + 1, none⟩) HQ.out.1).trans HQ.out.2.1
            go_simp
          simp only [Act.put, List.setIfInBounds_toArray, List.set_cons_zero, List.set_cons_succ]
          refine wpAnyH_take (i := 5) (oi := { dst := Option.some 80, op := Op.load 3 (Operand.tmp 79), type := 3, pos := "law.go:121", after := #[{ on := 4, ground := Ground.data }], guard := Option.none }) (v := .int .i64 at_) rfl (by kernel_rfl) (by kernel_rfl) (by kernel_rfl) (fun _ _ _ h => h) (Or.inl ⟨by rfl, ?_⟩) hHeld ?_
          · intro W hSw
            have hq := (hSw.cell (p := ⟨b, off + i * 5 + 1, none⟩) HQ.out.1).trans HQ.out.2.1
            go_simp
          simp only [Act.put, List.setIfInBounds_toArray, List.set_cons_zero, List.set_cons_succ]
          refine wpAnyH_take (i := 6) (oi := { dst := Option.some 81, op := Op.move (Operand.tmp 1), type := 22, pos := "law.go:121", after := #[], guard := Option.none }) (v := .slice (some ⟨b, off, none⟩) m' c') rfl (by kernel_rfl) (by kernel_rfl) (by kernel_rfl) (fun _ _ _ h => h) (Or.inl ⟨by rfl, ?_⟩) hHeld ?_
          · intro W hSw
            have hq := (hSw.cell (p := ⟨b, off + i * 5 + 3, none⟩) HQ.out.1).trans HQ.out.2.2
            go_simp
          simp only [Act.put, List.setIfInBounds_toArray, List.set_cons_zero, List.set_cons_succ]
          refine wpAnyH_take (i := 7) (oi := { dst := Option.some 82, op := Op.move (Operand.tmp 13), type := 3, pos := "law.go:121", after := #[], guard := Option.none }) (v := .int .i64 (i : Int)) rfl (by kernel_rfl) (by kernel_rfl) (by kernel_rfl) (fun _ _ _ h => h) (Or.inl ⟨by rfl, ?_⟩) hHeld ?_
          · intro W hSw
            have hq := (hSw.cell (p := ⟨b, off + i * 5 + 3, none⟩) HQ.out.1).trans HQ.out.2.2
            go_simp
          simp only [Act.put, List.setIfInBounds_toArray, List.set_cons_zero, List.set_cons_succ]
          refine wpAnyH_take (i := 8) (oi := { dst := Option.some 83, op := Op.indexAddr 22 (Operand.tmp 81) (Operand.tmp 82), type := 0, pos := "law.go:121", after := #[{ on := 6, ground := Ground.data }, { on := 7, ground := Ground.data }], guard := Option.none }) (v := .pointer (some ⟨b, off + i * 5, none⟩)) rfl (by kernel_rfl) (by kernel_rfl) (by kernel_rfl) (fun _ _ _ h => h) (Or.inl ⟨by rfl, ?_⟩) hHeld ?_
          · intro W hSw
            have hq := (hSw.cell (p := ⟨b, off + i * 5 + 3, none⟩) HQ.out.1).trans HQ.out.2.2
            go_simp
          simp only [Act.put, List.setIfInBounds_toArray, List.set_cons_zero, List.set_cons_succ]
          refine wpAnyH_take (i := 9) (oi := { dst := Option.some 84, op := Op.fieldAddr 32 (Operand.tmp 83) 3, type := 0, pos := "law.go:121", after := #[{ on := 8, ground := Ground.data }], guard := Option.none }) (v := .pointer (some ⟨b, off + i * 5 + 3, none⟩)) rfl (by kernel_rfl) (by kernel_rfl) (by kernel_rfl) (fun _ _ _ h => h) (Or.inl ⟨by rfl, ?_⟩) hHeld ?_
          · intro W hSw
            have hq := (hSw.cell (p := ⟨b, off + i * 5 + 3, none⟩) HQ.out.1).trans HQ.out.2.2
            go_simp
          simp only [Act.put, List.setIfInBounds_toArray, List.set_cons_zero, List.set_cons_succ]
          refine wpAnyH_take (i := 10) (oi := { dst := Option.some 85, op := Op.load 30 (Operand.tmp 84), type := 30, pos := "law.go:121", after := #[{ on := 9, ground := Ground.data }], guard := Option.none }) (v := .slice Ad lx cd) rfl (by kernel_rfl) (by kernel_rfl) (by kernel_rfl) (fun _ _ _ h => h) (Or.inl ⟨by rfl, ?_⟩) hHeld ?_
          · intro W hSw
            have hq := (hSw.cell (p := ⟨b, off + i * 5 + 3, none⟩) HQ.out.1).trans HQ.out.2.2
            go_simp
          simp only [Act.put, List.setIfInBounds_toArray, List.set_cons_zero, List.set_cons_succ]
          refine wpAnyH_ready (rs := [11]) (by kernel_rfl) (by simp) ?_
          refine AllReadyH.cons (o := { dst := Option.some 86, op := Op.call { callee := Callee.value (Operand.func 6), args := #[Operand.tmp 75, Operand.tmp 80, Operand.tmp 85], argTypes := #[24, 3, 30] }, type := 26, pos := "law.go:121", after := #[{ on := 0, ground := Ground.data }, { on := 5, ground := Ground.data }, { on := 10, ground := Ground.data }], guard := Option.none }) rfl (fun K hK => ?_) AllReadyH.nil
          go_simp
          have hp := LR.out.calm.put at_ x
          have hpl := putD_lenL d at_ x
          refine (live_write LR.out.live.drew at_ Ad lx cd x HATI.out (by have := HC.out.2; omega) (LR.out.live.drew.arg HSL.out)).mono ?_
          rintro y w6 ⟨S6, rfl, h6, ht6⟩
          have hst6 := LR.out.turn h6 ht6.undrew hp.1 hp.2.1
          have HS6 := Lib.hid hst6
          have HPL := Lib.hid (show (putD d at_ x).L.length ≤ i + 1 by have := HC.out.2; omega)
          have HP := Lib.hid hp.2.2
          clear h6 hp hpl hHeld ht6 hst6
          refine hK.out _ _ HS6.out.live.below (fun hHeld => ?_)
          clear hK K
          rcases HP.out with ⟨hpe, hp0, hp60, hpL, hpb, hpr⟩ | ⟨hpe, hpd⟩
          · rw [hpe, er_zero]
            refine wpAnyH_take (i := 12) (oi := { dst := Option.some 87, op := Op.binOp BinOp.neq 26 (Operand.tmp 86) (Operand.const Value.nilIface) 26, type := 4, pos := "law.go:121", after := #[{ on := 11, ground := Ground.data }], guard := Option.none }) (v := .bool false) rfl (by kernel_rfl) (by kernel_rfl) (by kernel_rfl) (fun _ _ _ h => h) (Or.inl ⟨by rfl, ?_⟩) hHeld ?_
            · intro W hSw
              go_simp
            simp only [Act.put, List.setIfInBounds_toArray, List.set_cons_zero, List.set_cons_succ]
            clear hHeld
            refine wpAnyH_done (by kernel_rfl) ?_ _
            obtain ⟨q, rfl⟩ : ∃ q : Nat, at_ = (q : Int) := ⟨at_.toNat, by omega⟩
            have hq60 : q + lx ≤ 60 := by have := HLX.out; omega
            have HPP := Lib.hid (And.intro hpL (And.intro hpb hpr))
            clear hpe hp0 hp60 hpL hpb hpr HP
            go_wp2_with fail
            have hd : Below w.heap.size w w6.drew := HS6.out.live.below.drew
            refine wp_region_held_drew (S := fun W => Below w.heap.size w W) (by kernel_rfl) hd (fun hHeld => ?_)
            clear hd
            refine wpAnyH_take (i := 0) (oi := { dst := Option.some 89, op := Op.move (Operand.tmp 7), type := 24, pos := "law.go:124", after := #[], guard := Option.none }) (v := .pointer (some ⟨p, 0, none⟩)) rfl (by kernel_rfl) (by kernel_rfl) (by kernel_rfl) (fun _ _ _ h => h) (Or.inl ⟨by rfl, ?_⟩) hHeld ?_
            · intro W hSw
              have hq := (hSw.cell (p := ⟨b, off + i * 5 + 1, none⟩) HQ.out.1).trans HQ.out.2.1
              go_simp
            simp only [Act.put, List.setIfInBounds_toArray, List.set_cons_zero, List.set_cons_succ]
            refine wpAnyH_take (i := 1) (oi := { dst := Option.some 90, op := Op.move (Operand.tmp 1), type := 22, pos := "law.go:124", after := #[], guard := Option.none }) (v := .slice (some ⟨b, off, none⟩) m' c') rfl (by kernel_rfl) (by kernel_rfl) (by kernel_rfl) (fun _ _ _ h => h) (Or.inl ⟨by rfl, ?_⟩) hHeld ?_
            · intro W hSw
              have hq := (hSw.cell (p := ⟨b, off + i * 5 + 1, none⟩) HQ.out.1).trans HQ.out.2.1
              go_simp
            simp only [Act.put, List.setIfInBounds_toArray, List.set_cons_zero, List.set_cons_succ]
            refine wpAnyH_take (i := 2) (oi := { dst := Option.some 91, op := Op.move (Operand.tmp 13), type := 3, pos := "law.go:124", after := #[], guard := Option.none }) (v := .int .i64 (i : Int)) rfl (by kernel_rfl) (by kernel_rfl) (by kernel_rfl) (fun _ _ _ h => h) (Or.inl ⟨by rfl, ?_⟩) hHeld ?_
            · intro W hSw
              have hq := (hSw.cell (p := ⟨b, off + i * 5 + 1, none⟩) HQ.out.1).trans HQ.out.2.1
              go_simp
            simp only [Act.put, List.setIfInBounds_toArray, List.set_cons_zero, List.set_cons_succ]
            refine wpAnyH_take (i := 3) (oi := { dst := Option.some 92, op := Op.indexAddr 22 (Operand.tmp 90) (Operand.tmp 91), type := 0, pos := "law.go:124", after := #[{ on := 1, ground := Ground.data }, { on := 2, ground := Ground.data }], guard := Option.none }) (v := .pointer (some ⟨b, off + i * 5, none⟩)) rfl (by kernel_rfl) (by kernel_rfl) (by kernel_rfl) (fun _ _ _ h => h) (Or.inl ⟨by rfl, ?_⟩) hHeld ?_
            · intro W hSw
              have hq := (hSw.cell (p := ⟨b, off + i * 5 + 1, none⟩) HQ.out.1).trans HQ.out.2.1
              go_simp
            simp only [Act.put, List.setIfInBounds_toArray, List.set_cons_zero, List.set_cons_succ]
            refine wpAnyH_take (i := 4) (oi := { dst := Option.some 93, op := Op.fieldAddr 32 (Operand.tmp 92) 1, type := 0, pos := "law.go:124", after := #[{ on := 3, ground := Ground.data }], guard := Option.none }) (v := .pointer (some ⟨b, off + i * 5 + 1, none⟩)) rfl (by kernel_rfl) (by kernel_rfl) (by kernel_rfl) (fun _ _ _ h => h) (Or.inl ⟨by rfl, ?_⟩) hHeld ?_
            · intro W hSw
              have hq := (hSw.cell (p := ⟨b, off + i * 5 + 1, none⟩) HQ.out.1).trans HQ.out.2.1
              go_simp
            simp only [Act.put, List.setIfInBounds_toArray, List.set_cons_zero, List.set_cons_succ]
            refine wpAnyH_take (i := 5) (oi := { dst := Option.some 94, op := Op.load 3 (Operand.tmp 93), type := 3, pos := "law.go:124", after := #[{ on := 4, ground := Ground.data }], guard := Option.none }) (v := .int .i64 (q : Int)) rfl (by kernel_rfl) (by kernel_rfl) (by kernel_rfl) (fun _ _ _ h => h) (Or.inl ⟨by rfl, ?_⟩) hHeld ?_
            · intro W hSw
              have hq := (hSw.cell (p := ⟨b, off + i * 5 + 1, none⟩) HQ.out.1).trans HQ.out.2.1
              go_simp
            simp only [Act.put, List.setIfInBounds_toArray, List.set_cons_zero, List.set_cons_succ]
            refine wpAnyH_take (i := 6) (oi := { dst := Option.some 95, op := Op.move (Operand.tmp 1), type := 22, pos := "law.go:124", after := #[], guard := Option.none }) (v := .slice (some ⟨b, off, none⟩) m' c') rfl (by kernel_rfl) (by kernel_rfl) (by kernel_rfl) (fun _ _ _ h => h) (Or.inl ⟨by rfl, ?_⟩) hHeld ?_
            · intro W hSw
              have hq := (hSw.cell (p := ⟨b, off + i * 5 + 3, none⟩) HQ.out.1).trans HQ.out.2.2
              go_simp
            simp only [Act.put, List.setIfInBounds_toArray, List.set_cons_zero, List.set_cons_succ]
            refine wpAnyH_take (i := 7) (oi := { dst := Option.some 96, op := Op.move (Operand.tmp 13), type := 3, pos := "law.go:124", after := #[], guard := Option.none }) (v := .int .i64 (i : Int)) rfl (by kernel_rfl) (by kernel_rfl) (by kernel_rfl) (fun _ _ _ h => h) (Or.inl ⟨by rfl, ?_⟩) hHeld ?_
            · intro W hSw
              have hq := (hSw.cell (p := ⟨b, off + i * 5 + 3, none⟩) HQ.out.1).trans HQ.out.2.2
              go_simp
            simp only [Act.put, List.setIfInBounds_toArray, List.set_cons_zero, List.set_cons_succ]
            refine wpAnyH_take (i := 8) (oi := { dst := Option.some 97, op := Op.indexAddr 22 (Operand.tmp 95) (Operand.tmp 96), type := 0, pos := "law.go:124", after := #[{ on := 6, ground := Ground.data }, { on := 7, ground := Ground.data }], guard := Option.none }) (v := .pointer (some ⟨b, off + i * 5, none⟩)) rfl (by kernel_rfl) (by kernel_rfl) (by kernel_rfl) (fun _ _ _ h => h) (Or.inl ⟨by rfl, ?_⟩) hHeld ?_
            · intro W hSw
              have hq := (hSw.cell (p := ⟨b, off + i * 5 + 3, none⟩) HQ.out.1).trans HQ.out.2.2
              go_simp
            simp only [Act.put, List.setIfInBounds_toArray, List.set_cons_zero, List.set_cons_succ]
            refine wpAnyH_take (i := 9) (oi := { dst := Option.some 98, op := Op.fieldAddr 32 (Operand.tmp 97) 3, type := 0, pos := "law.go:124", after := #[{ on := 8, ground := Ground.data }], guard := Option.none }) (v := .pointer (some ⟨b, off + i * 5 + 3, none⟩)) rfl (by kernel_rfl) (by kernel_rfl) (by kernel_rfl) (fun _ _ _ h => h) (Or.inl ⟨by rfl, ?_⟩) hHeld ?_
            · intro W hSw
              have hq := (hSw.cell (p := ⟨b, off + i * 5 + 3, none⟩) HQ.out.1).trans HQ.out.2.2
              go_simp
            simp only [Act.put, List.setIfInBounds_toArray, List.set_cons_zero, List.set_cons_succ]
            refine wpAnyH_take (i := 10) (oi := { dst := Option.some 99, op := Op.load 30 (Operand.tmp 98), type := 30, pos := "law.go:124", after := #[{ on := 9, ground := Ground.data }], guard := Option.none }) (v := .slice Ad lx cd) rfl (by kernel_rfl) (by kernel_rfl) (by kernel_rfl) (fun _ _ _ h => h) (Or.inl ⟨by rfl, ?_⟩) hHeld ?_
            · intro W hSw
              have hq := (hSw.cell (p := ⟨b, off + i * 5 + 3, none⟩) HQ.out.1).trans HQ.out.2.2
              go_simp
            simp only [Act.put, List.setIfInBounds_toArray, List.set_cons_zero, List.set_cons_succ]
            refine wpAnyH_take (i := 11) (oi := { dst := Option.some 100, op := Op.call { callee := Callee.builtin Builtin.len, args := #[Operand.tmp 99], argTypes := #[30] }, type := 3, pos := "law.go:124", after := #[{ on := 10, ground := Ground.data }], guard := Option.none }) (v := .int .i64 (lx : Int)) rfl (by kernel_rfl) (by kernel_rfl) (by kernel_rfl) (fun _ _ _ h => h) (Or.inl ⟨by rfl, ?_⟩) hHeld ?_
            · intro W hSw
              have hq := (hSw.cell (p := ⟨b, off + i * 5 + 3, none⟩) HQ.out.1).trans HQ.out.2.2
              go_simp
            simp only [Act.put, List.setIfInBounds_toArray, List.set_cons_zero, List.set_cons_succ]
            refine wpAnyH_ready (rs := [12]) (by kernel_rfl) (by simp) ?_
            refine AllReadyH.cons (o := { dst := Option.some 101, op := Op.call { callee := Callee.value (Operand.func 9), args := #[Operand.tmp 89, Operand.tmp 94, Operand.tmp 100], argTypes := #[24, 3, 3] }, type := 35, pos := "law.go:124", after := #[{ on := 0, ground := Ground.data }, { on := 5, ground := Ground.data }, { on := 11, ground := Ground.data }], guard := Option.none }) rfl (fun K hK => ?_) AllReadyH.nil
            go_simp
            have hrd := live_read HS6.out.live.drew (q : Int) (lx : Int) HATI.out (by unfold inI; omega)
            rw [HLX.out, HPP.out.2.1, HPP.out.2.2, ← HLX.out, er_zero] at hrd
            refine hrd.mono ?_
            rintro y w7 ⟨v7, rfl, h7, l7, hb7⟩
            obtain ⟨A7, n7, c7, rfl⟩ := h7.form
            have HS7 := Lib.hid (HS6.out.more ((Below.refl w6.heap.size w6).drew.trans hb7))
            have T7 := Lib.hid h7
            clear h7 l7 hb7 hrd hHeld
            refine hK.out _ _ HS7.out.live.below (fun hHeld => ?_)
            clear hK K
            refine wpAnyH_take (i := 13) (oi := { dst := Option.some 88, op := Op.move (Operand.tmp 101), type := 35, pos := "law.go:124", after := #[{ on := 12, ground := Ground.data }], guard := Option.none }) (v := .tuple #[.slice A7 n7 c7, .nilIface]) rfl (by kernel_rfl) (by kernel_rfl) (by kernel_rfl) (fun _ _ _ h => h) (Or.inl ⟨by rfl, ?_⟩) hHeld ?_
            · intro W hSw
              go_simp
            simp only [Act.put, List.setIfInBounds_toArray, List.set_cons_zero, List.set_cons_succ]
            refine wpAnyH_take (i := 14) (oi := { dst := Option.some 102, op := Op.extract (Operand.tmp 88) 0, type := 30, pos := "law.go:124", after := #[{ on := 13, ground := Ground.data }], guard := Option.none }) (v := .slice A7 n7 c7) rfl (by kernel_rfl) (by kernel_rfl) (by kernel_rfl) (fun _ _ _ h => h) (Or.inl ⟨by rfl, ?_⟩) hHeld ?_
            · intro W hSw
              go_simp
            simp only [Act.put, List.setIfInBounds_toArray, List.set_cons_zero, List.set_cons_succ]
            refine wpAnyH_take (i := 15) (oi := { dst := Option.some 103, op := Op.extract (Operand.tmp 88) 1, type := 26, pos := "law.go:124", after := #[{ on := 13, ground := Ground.data }, { on := 16, ground := Ground.gcOnly Departure.lateStores }], guard := Option.none }) (v := .nilIface) rfl (by kernel_rfl) (by kernel_rfl) (by kernel_rfl) (fun _ _ _ h => h) (Or.inl ⟨by rfl, ?_⟩) hHeld ?_
            · intro W hSw
              go_simp
            simp only [Act.put, List.setIfInBounds_toArray, List.set_cons_zero, List.set_cons_succ]
            refine wpAnyH_take (i := 16) (oi := { dst := Option.some 14, op := Op.assign (Operand.tmp 102), type := 30, pos := "law.go:124", after := #[{ on := 14, ground := Ground.data }, { on := 12, ground := Ground.chain }, { on := 0, ground := Ground.phase }, { on := 1, ground := Ground.phase }, { on := 2, ground := Ground.phase }, { on := 3, ground := Ground.phase }, { on := 4, ground := Ground.phase }, { on := 5, ground := Ground.phase }, { on := 6, ground := Ground.phase }, { on := 7, ground := Ground.phase }, { on := 8, ground := Ground.phase }, { on := 9, ground := Ground.phase }, { on := 10, ground := Ground.phase }, { on := 11, ground := Ground.phase }, { on := 12, ground := Ground.phase }, { on := 13, ground := Ground.phase }, { on := 14, ground := Ground.phase }, { on := 15, ground := Ground.textOnly Departure.lateStores }], guard := Option.none }) (v := .slice A7 n7 c7) rfl (by kernel_rfl) (by kernel_rfl) (by kernel_rfl) (fun _ _ _ h => h) (Or.inl ⟨by rfl, ?_⟩) hHeld ?_
            · intro W hSw
              go_simp
            simp only [Act.put, List.setIfInBounds_toArray, List.set_cons_zero, List.set_cons_succ]
            refine wpAnyH_take (i := 17) (oi := { dst := Option.some 15, op := Op.assign (Operand.tmp 103), type := 26, pos := "law.go:124", after := #[{ on := 15, ground := Ground.data }, { on := 16, ground := Ground.chain }, { on := 0, ground := Ground.phase }, { on := 1, ground := Ground.phase }, { on := 2, ground := Ground.phase }, { on := 3, ground := Ground.phase }, { on := 4, ground := Ground.phase }, { on := 5, ground := Ground.phase }, { on := 6, ground := Ground.phase }, { on := 7, ground := Ground.phase }, { on := 8, ground := Ground.phase }, { on := 9, ground := Ground.phase }, { on := 10, ground := Ground.phase }, { on := 11, ground := Ground.phase }, { on := 12, ground := Ground.phase }, { on := 13, ground := Ground.phase }, { on := 14, ground := Ground.phase }, { on := 15, ground := Ground.phase }, { on := 16, ground := Ground.phase }], guard := Option.none }) (v := .nilIface) rfl (by kernel_rfl) (by kernel_rfl) (by kernel_rfl) (fun _ _ _ h => h) (Or.inl ⟨by rfl, ?_⟩) hHeld ?_
            · intro W hSw
              go_simp
            simp only [Act.put, List.setIfInBounds_toArray, List.set_cons_zero, List.set_cons_succ]
            clear hHeld
            refine wpAnyH_done (by kernel_rfl) ?_ _
            have hq3 := (HS7.out.live.below.drew.cell (p := ⟨b, off + i * 5 + 3, none⟩) HQ.out.1).trans HQ.out.2.2
            have hcv1 := conv_bytes (T7.out.sl.below (Below.refl w7.heap.size w7).drew)
            have hcv2 := conv_bytes (HSL.out.sl.below HS7.out.live.below.drew)
            go_wp2_with fail
            go_region
            all_goals go_wp2_with fail
            clear hcv1 hcv2 hq3
            go_loopw [16] (fun kk wq => ∃ (k : Nat) (l2 : List Bool), k ≤ lx ∧ kk = .int .i64 (k : Int) ∧ Stay C w wq S6 p w5.heap.size 37 v5 B0 (putD d (q : Int) x) l2 ∧ Cov d.L l2 ∧ ∀ t, t < k → l2.getD (q + t) false = true) (fun kk _ => lx - (intOf kk).toNat)
            case atStart => exact ⟨0, l, by omega, rfl, HS7.out.more (Below.refl _ _).drew, HC.out.1, fun t ht => by omega⟩
            case round =>
              obtain ⟨k, l2, hkl, rfl, hst, hcov, hmk⟩ := hrel
              have LK := Lib.hid hst
              have HCK := Lib.hid (And.intro hcov hmk)
              clear hst hcov hmk
              have hq1 := (LK.out.live.below.cell (p := ⟨b, off + i * 5 + 1, none⟩) HQ.out.1).trans HQ.out.2.1
              have hq3 := (LK.out.live.below.cell (p := ⟨b, off + i * 5 + 3, none⟩) HQ.out.1).trans HQ.out.2.2
              by_cases hk : k < lx
              · obtain ⟨K, hK⟩ : ∃ K, K = q + k := ⟨_, rfl⟩
                have k1 : (k : Int) < (lx : Int) := by omega
                have iK : (q : Int) + (k : Int) = (K : Int) := by omega
                have iW : IntKind.i64.wrap (K : Int) = (K : Int) := IntWalk.i64_in _ (by omega)
                have k2 : (K : Int) < 60 := by omega
                have k3 : (0 : Int) ≤ (K : Int) := by omega
                have cx := LK.out.tab.cell K (by rw [LK.out.len]; omega)
                have cf := LK.out.tab.fz K
                have HKK := Lib.hid hK
                clear hK
                go_wp2_with fail
                go_roundw
                case rel => exact ⟨k + 1, l2.set K true, by omega, by go_num, LK.out.mark K, HCK.out.1.set K, fun t ht => by
                  by_cases htk : t < k
                  · exact mark_old (HCK.out.2 t htk)
                  · obtain rfl : t = k := by omega
                    rw [← HKK.out]
                    exact marked (by rw [LK.out.len]; omega)⟩
                case measure => simp [intOf]; omega
              · obtain rfl : lx = k := by omega
                have k1 : ¬ (lx : Int) < (lx : Int) := by omega
                go_wp2_with fail
                go_roundw
                case rel => exact ⟨i + 1, S6, _, l2, by omega, by omega, by go_num, LK.out, by rw [HPP.out.1]; exact HCK.out.1.cons q x (fun t ht => HCK.out.2 t (by have := HLX.out; omega)), HPL.out⟩
                case measure => simp [intOf]; omega
          · rw [hpe, er_ne (by omega)]
            refine wpAnyH_take (i := 12) (oi := { dst := Option.some 87, op := Op.binOp BinOp.neq 26 (Operand.tmp 86) (Operand.const Value.nilIface) 26, type := 4, pos := "law.go:121", after := #[{ on := 11, ground := Ground.data }], guard := Option.none }) (v := .bool true) rfl (by kernel_rfl) (by kernel_rfl) (by kernel_rfl) (fun _ _ _ h => h) (Or.inl ⟨by rfl, ?_⟩) hHeld ?_
            · intro W hSw
              go_simp
            simp only [Act.put, List.setIfInBounds_toArray, List.set_cons_zero, List.set_cons_succ]
            clear hHeld
            refine wpAnyH_done (by kernel_rfl) ?_ _
            have HPD := Lib.hid hpd
            clear hpe hpd HP
            go_wp2_with fail
            go_roundw
            case rel => exact ⟨i + 1, S6, _, l, by omega, by omega, by go_num, HS6.out, by rw [HPD.out]; exact HC.out.1, HPL.out⟩
            case measure => simp [intOf]; omega
        · have hge : ¬ ((i : Int) < (m' : Int)) ∨ ((i : Int) < (m' : Int) ∧ ¬ (i : Int) < 20) := by omega
          clear hlt
          rcases hge with hge | ⟨hge1, hge2⟩
          all_goals
            go_wp2_with fail
            go_meet
            exact ⟨S4, d, l, LR.out, HC.out.1, by have := HC.out.2; omega⟩
    case rest =>
      obtain ⟨S4, d, l, hst, hcov, hdl⟩ := hcut
      have LR := Lib.hid hst
      have HC := Lib.hid (And.intro hcov hdl)
      clear hst hcov hdl
      go_upto_region 24 with (first
        | (go_at_call 10; go_must (refine (live_start LR7.out.live _ _ _ keep (by have := HC.out.2; omega) HI7.out HK.out.2.1).mono ?_; rintro y w8 ⟨S8, rfl, h8, ht8⟩; have L8 := Lib.hid h8; have HT8 := Lib.hid ht8; clear h8 ht8))
        | (go_at_call 11; go_must (refine (own_any _ _ _ keep _ _ (LR.out.live.argRow HK.out.1) HK.out.2.2).mono ?_; rintro y w7 ⟨A7, c7, rfl, hi7, hb7⟩; have LR7 := Lib.hid (LR.out.more hb7); have HI7 := Lib.hid (hi7.mono fun k hk => (⟨hk.2, fun hs => by have := C.foot LR.out.live.dk k hs; omega⟩ : Av w7 S4 k)); clear hi7 hb7)))
      have htab := LR7.out.tab.kept (HT8.out.kept.block _ LR7.out.tab.lt LR7.out.free)
      have hsafe := LR7.out.safe.turn (HT8.out.beside (T := fun k => k = w5.heap.size))
      have HTAB := Lib.hid htab
      have HSAFE := Lib.hid hsafe
      have hc8 := calm_start LR.out.calm keep
      have hrd := hc8.1.read hc8.2
      have hcv : ∀ j, l.getD j false = false → (startD d keep).B.getD j 0 = B0.getD j 0 := fun j hj => by
        rw [← LR.out.base]
        refine start_out LR.out.calm.ok keep j fun u hu hx => ?_
        have := HC.out.1 u hu (j - u.1) (by omega)
        rw [show u.1 + (j - u.1) = j from by omega, hj] at this
        cases this
      have hb8 : (startD d keep).B.length = 60 := hc8.1.len
      have hb0 : B0.length = 60 := by rw [← LR.out.base]; exact LR.out.calm.len
      have HCV := Lib.hid (And.intro hcv (And.intro hb8 hb0))
      have HRD := Lib.hid hrd
      clear htab hsafe hc8 hrd hcv hb8 hb0
      go_upto_region 25 with (go_at_call 9; go_must (refine (live_read L8.out 0 60 (by unfold inI; omega) (by unfold inI; omega)).mono ?_; rw [HRD.out.1, HRD.out.2, er_zero]; rintro y w9 ⟨v9, rfl, h9, l9, hb9⟩; have L9 := Lib.hid l9; have T9 := Lib.hid h9; have HB9 := Lib.hid hb9; clear h9 l9 hb9))
      obtain ⟨B8, hB8⟩ : ∃ B8, B8 = (startD d keep).B := ⟨_, rfl⟩
      rw [← hB8] at T9 HCV
      clear hB8
      obtain ⟨A9, c9, hv9, _, _, _⟩ := T9.out
      rw [HCV.out.2.1] at hv9
      subst hv9
      obtain ⟨A5, c5, hv5, _, _, _⟩ := HSAFE.out
      rw [HCV.out.2.2] at hv5
      subst hv5
      go_wp2_with fail
      go_loopw [19] (fun ii wr => ∃ i : Nat, i ≤ 60 ∧ ii = .int .i64 (i : Int) ∧ Below w9.heap.size w9 wr) (fun ii _ => 60 - (intOf ii).toNat)
      case atStart => exact ⟨0, by omega, rfl, Below.refl _ _⟩
      case round =>
        obtain ⟨i, hi, rfl, hbr⟩ := hrel
        have HBR := Lib.hid hbr
        clear hbr
        by_cases hlt : i < 60
        · have i1 : (i : Int) < 60 := by omega
          have i0 : (0 : Int) ≤ (i : Int) := by omega
          have hb89 := HB9.out
          have htlt := HTAB.out.lt
          have cx := (HBR.out.cell (p := ⟨w5.heap.size, i, none⟩) (by show w5.heap.size < w9.heap.size; have := hb89.size; omega)).trans ((hb89.cell (p := ⟨w5.heap.size, i, none⟩) htlt).trans (HTAB.out.cell i (by rw [LR.out.len]; omega)))
          clear hb89 htlt
          cases hl : l.getD i false
          · rw [hl] at cx
            obtain ⟨b9, o9, rfl, hc9⟩ := sl_at T9.out HCV.out.2.1 (by omega)
            obtain ⟨b5, o5, rfl, hc5⟩ := sl_at HSAFE.out HCV.out.2.2 (by omega)
            have g9 := (HBR.out.cell (p := ⟨b9, o9 + i, none⟩) (World.block_lt_of_cell? w9 ⟨b9, o9 + i, none⟩ (hc9 i hlt))).trans (hc9 i hlt)
            have g5 := ((HB9.out.trans (HBR.out.mono HB9.out.size)).cell (p := ⟨b5, o5 + i, none⟩) (World.block_lt_of_cell? w8 ⟨b5, o5 + i, none⟩ (hc5 i hlt))).trans (hc5 i hlt)
            rw [HCV.out.1 i hl] at g9
            generalize ((B0.getD i 0).toNat : Int) = z at g9 g5
            clear hc9 hc5 hl
            go_wp2_with fail
            go_region
            all_goals go_wp2_with fail
            go_roundw
            case rel => exact ⟨i + 1, by omega, by go_num, HBR.out.drew⟩
            case measure => simp [intOf]; omega
          · rw [hl] at cx
            clear hl
            go_wp2_with fail
            go_region
            all_goals go_wp2_with fail
            go_roundw
            case rel => exact ⟨i + 1, by omega, by go_num, HBR.out.drew⟩
            case measure => simp [intOf]; omega
        · obtain rfl : i = 60 := by omega
          go_wp2_with (go_at_call 12; go_must (refine (sure_any B _).mono ?_; rintro y w10 ⟨rfl, hb10⟩; have HB10 := Lib.hid ((L9.out.more HBR.out).below.trans (hb10.mono (L9.out.more HBR.out).size)); clear hb10))
          go_ret
          exact ⟨rfl, HB10.out⟩

end Go.Proofs.Ytlhagbcomnjnoaa.pk
