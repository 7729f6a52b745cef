/-
  The law DiskPrefix' own walk: of writes to places of their own a begin is kept.
-/
import Derived.Test.YtlhagbcomnjnoaaSureD
import Derived.Test.YtlhagbcomnjnoaaOwnD
import Derived.Test.YtlhagbcomnjnoaaPrefP
import Derived.Deep.QuietTactic
import Derived.BigQuiet
import Derived.RegionTactic
import Derived.BigRegion
namespace Go.Proofs.Ytlhagbcomnjnoaa.pk
open Go Go.RowKit
set_option maxRecDepth 100000

theorem pre_parts (x : List UInt8) (k n : Nat) (hn : n = x.length) (hk : k ≤ n) :
    (x.take k ++ List.replicate (n - k) 0).length = n ∧ (∀ t, t < k → (x.take k ++ List.replicate (n - k) 0).getD t 0 = x.getD t 0) ∧ ∀ t, k ≤ t → (x.take k ++ List.replicate (n - k) 0).getD t 0 = 0 := by
  have hl : (x.take k).length = k := by rw [List.length_take]; omega
  refine ⟨by rw [List.length_append, hl, List.length_replicate]; omega, fun t ht => ?_, fun t ht => ?_⟩
  · simp only [List.getD]
    rw [List.getElem?_append_left (by omega), List.getElem?_take, if_pos ht]
  · have := rep_getD (n - k) (t - k)
    simp only [List.getD] at this ⊢
    rw [List.getElem?_append_right (by omega), hl]
    exact this

set_option maxHeartbeats 4000000 in
theorem prefix_true {Q : ConD → Prop} (C : ConD) (B : ConB Q C) (A A' : Option Addr) (m c m' c' : Nat) (ls : List (List UInt8)) (keep : List Int) (w : World) (h : ListsT w (fun k => k < w.heap.size) (.slice A m c) ls) (hk : IntsT w (fun k => k < w.heap.size) (.slice A' m' c') keep)
    (hki : ∀ z ∈ keep, inI z) (hkl : keep.length * 8 ≤ 140737488355328) :
    Calls Try.prog 4 #[.slice A m c, .slice A' m' c'] w fun x w' => x = .returned (.bool true) ∧ Below w.heap.size w w' := by
  obtain ⟨A1, c1, hv, hmc, hcm⟩ := h.form
  injection hv with e1 e2 e3
  subst e1; subst e3
  obtain ⟨A2, c2, hv, _, _⟩ := hk.form
  injection hv with e4 e5 e6
  subst e4; subst e6
  have HM := Lib.hid e2
  have HM' := Lib.hid e5
  have hmB : (m : Int) ≤ 9223372036854775807 := by omega
  have H := Lib.hid h
  have HK := Lib.hid (And.intro hk (And.intro hki hkl))
  obtain ⟨n, hn⟩ : ∃ n : Nat, n = min m 20 := ⟨_, rfl⟩
  have hn20 : (n : Int) ≤ 20 := by omega
  have hnm : (n : Int) ≤ (m : Int) := by omega
  have hmin : (if (20 : Int) < (m : Int) then 20 else (m : Int)) = (n : Int) := by split <;> omega
  have HN := Lib.hid hn
  clear h hk hki hkl e2 e5 hmc hcm hn
  go_enter Try.func4, Try.ntmps4
  go_upto_region 4 with (go_at_call 5; go_must (refine (live_new B w 1000 (by omega) (by omega) 1000 rfl).mono ?_; rintro y w1 ⟨p, S, rfl, h1⟩; have L1 := Lib.hid h1; clear h1))
  go_wp2_with fail
  clear hmin
  go_loopw [8] (fun ii wr => ∃ (i : Nat) (S2 : Nat → Prop), i ≤ n ∧ ii = .int .i64 (i : Int) ∧ Live C w wr S2 p (preD ls i) ∧ ∀ j (hj : j < ls.length), j < i → ls[j].length ≤ 40) (fun ii _ => 20 - (intOf ii).toNat)
  case atStart => exact ⟨0, S, by omega, rfl, by rw [preD_zero]; exact L1.out, fun j _ hj => by omega⟩
  case round =>
    obtain ⟨i, S2, hin, rfl, hlr, h40⟩ := hrel
    have LR := Lib.hid hlr
    have H40 := Lib.hid h40
    clear hlr h40
    by_cases hlt : i < n
    · have hil : i < ls.length := by have := HM.out; omega
      obtain ⟨b, off, Ai, ci, rfl, hb, hcell, hsl⟩ := H.out.at_ i hil
      have hq := (LR.out.below.cell (p := ⟨b, off + i, none⟩) hb).trans hcell
      have HSL := Lib.hid hsl
      have i1 : (i : Int) < (n : Int) := by omega
      have i2 : (i : Int) < (m : Int) := by omega
      clear hcell hsl
      obtain ⟨x, hx⟩ : ∃ x, x = ls[i] := ⟨_, rfl⟩
      rw [← hx] at hq HSL
      have HX := Lib.hid hx
      clear hx
      obtain ⟨lx, hlx⟩ : ∃ lx, lx = x.length := ⟨_, rfl⟩
      rw [← hlx] at hq HSL
      have HLX := Lib.hid hlx
      by_cases hl : 40 < lx
      · have i3 : (40 : Int) < (lx : Int) := by omega
        clear hl hlx
        go_wp2_with (go_at_call 12; go_must (refine (sure_any B _).mono ?_; rintro y w8 ⟨rfl, hb8⟩; have HB8 := Lib.hid (LR.out.below.trans (hb8.mono LR.out.size)); clear hb8))
        go_ret
        exact ⟨rfl, HB8.out⟩
      · have i3 : ¬ (40 : Int) < (lx : Int) := by omega
        have i4 : (i : Int) ≤ 20 := by omega
        have hst := pre_step ls i hil (by omega) (by rw [← HX.out, ← HLX.out]; omega)
        rw [← HX.out] at hst
        have c2 := live_write LR.out (50 * (i : Int)) Ai lx ci x (by unfold inI; omega) (by show (placed 0 (ls.take i)).length < 100000; rw [placed_len, List.length_take]; omega) (LR.out.arg HSL.out)
        rw [hst.1, hst.2] at c2
        have HC2 := Lib.hid c2
        have h40' : ∀ j (hj : j < ls.length), j < i + 1 → ls[j].length ≤ 40 := fun j hj hji => by
          by_cases hji' : j < i
          · exact H40.out j hj hji'
          · obtain rfl : j = i := by omega
            rw [← HX.out, ← HLX.out]
            omega
        have H40' := Lib.hid h40'
        clear hl hlx c2 hst h40'
        go_wp2_with (go_at_call 6; go_must (refine HC2.out.mono ?_; rintro y w3 ⟨S3, rfl, h3, _⟩; rw [er_zero]; have L3 := Lib.hid h3; clear h3))
        go_roundw
        case rel => exact ⟨i + 1, S3, by omega, by go_num, L3.out, H40'.out⟩
        case measure => simp [intOf]; omega
    · obtain rfl : n = i := by omega
      go_upto_region 10 with fail
      have hlL : (preD ls n).L.length < 100000 := by show (placed 0 (ls.take n)).length < 100000; rw [placed_len, List.length_take]; omega
      obtain ⟨r, hr1, hr2, hr3⟩ := pre_start ls n keep (by have := HM.out; omega) (by omega) H40.out
      have HR := Lib.hid (And.intro hr1 (And.intro hr2 hr3))
      clear hr1 hr2 hr3
      go_upto_region 11 with (first
        | (go_at_call 10; go_must (refine (live_start L3.out _ _ _ keep hlL HI3.out HK.out.2.1).mono ?_; rintro y w4 ⟨S4, rfl, h4, _⟩; have L4 := Lib.hid h4; clear h4))
        | (go_at_call 11; go_must (refine (own_any _ _ _ keep _ _ (LR.out.argRow HK.out.1) HK.out.2.2).mono ?_; rintro y w3 ⟨A3, c3, rfl, hi3, hb3⟩; have L3 := Lib.hid (LR.out.more hb3); have HI3 := Lib.hid (hi3.mono fun k hk => (⟨hk.2, fun hs => by have := C.foot LR.out.dk k hs; omega⟩ : Av w3 S2 k)); clear hi3 hb3)))
      clear hlL
      obtain ⟨d, hd⟩ : ∃ d, d = startD (preD ls n) keep := ⟨_, rfl⟩
      rw [← hd] at L4 HR
      clear hd
      go_wp2_with fail
      go_loopw [9, 10] (fun pp ii wr => ∃ (i : Nat) (P : Bool), i ≤ n ∧ pp = .bool P ∧ ii = .int .i64 (i : Int) ∧ Live C w wr S4 p d ∧ (P = true → ∀ j, i ≤ j → j < n → r j = 0)) (fun _ ii _ => 20 - (intOf ii).toNat)
      case atStart => exact ⟨0, false, by omega, rfl, rfl, L4.out, fun h => by cases h⟩
      case round =>
        obtain ⟨i, P, hin, rfl, rfl, hlr, hP⟩ := hrel
        have LQ := Lib.hid hlr
        have HP := Lib.hid hP
        clear hlr hP
        by_cases hlt : i < n
        · have hil : i < ls.length := by have := HM.out; omega
          obtain ⟨b, off, Ai, ci, rfl, hb, hcell, hsl⟩ := H.out.at_ i hil
          have hq := (LQ.out.below.cell (p := ⟨b, off + i, none⟩) hb).trans hcell
          have HSL := Lib.hid hsl
          have HB0 := Lib.hid hb
          have i1 : (i : Int) < (n : Int) := by omega
          have i2 : (i : Int) < (m : Int) := by omega
          have i3 : (i : Int) ≤ 20 := by omega
          have hr1 := HR.out.1 i hil hlt
          have hr3 := HR.out.2.2 i hil hlt
          have h40 := H40.out i hil hlt
          obtain ⟨x, hx⟩ : ∃ x, x = ls[i] := ⟨_, rfl⟩
          rw [← hx] at hq HSL hcell hr1 hr3 h40
          have HX := Lib.hid hx
          have HCELL := Lib.hid hcell
          obtain ⟨lx, hlx⟩ : ∃ lx, lx = x.length := ⟨_, rfl⟩
          rw [← hlx] at hq HSL HCELL hr1 hr3 h40
          have HLX := Lib.hid hlx
          have HR1 := Lib.hid hr1
          have HR3 := Lib.hid hr3
          have i4 : (lx : Int) ≤ 40 := by omega
          clear hcell hsl hx hlx hr1 hr3 hb h40
          go_upto_region 16 with (go_at_call 9; go_must (refine (live_read LQ.out (50 * (i : Int)) (lx : Int) (by unfold inI; omega) (by unfold inI; omega)).mono ?_; rw [HR3.out.1, HR3.out.2, er_zero]; rintro y w5 ⟨v5, rfl, h5, l5, hb5⟩; have L5 := Lib.hid l5; have HT5 := Lib.hid h5; have HBB5 := Lib.hid hb5; clear h5 l5 hb5))
          obtain ⟨Y, hY⟩ : ∃ Y, Y = x.take (r i) ++ List.replicate (lx - r i) 0 := ⟨_, rfl⟩
          rw [← hY] at HT5
          have hYP := pre_parts x (r i) lx HLX.out HR1.out
          rw [← hY] at hYP
          have HYP := Lib.hid hYP
          obtain ⟨A5, c5, hv5, hc51, hc52, _⟩ := HT5.out
          rw [HYP.out.1] at hv5
          subst hv5
          clear hY hYP hc51 hc52 hq
          have hq := (L5.out.below.cell (p := ⟨b, off + i, none⟩) HB0.out).trans HCELL.out
          go_upto_block 4 with fail
          go_cut [13] (fun kk W => ∃ k : Nat, k ≤ lx ∧ r i ≤ k ∧ kk = .int .i64 (k : Int) ∧ Below w5.heap.size w5 W)
          case first =>
            go_wp2_with fail
            go_loopw [13] (fun kk wr => ∃ k : Nat, k ≤ lx ∧ kk = .int .i64 (k : Int) ∧ Below w5.heap.size w5 wr) (fun kk _ => lx - (intOf kk).toNat)
            case atStart => exact ⟨0, by omega, rfl, Below.refl _ _⟩
            case round =>
              obtain ⟨k, hkl, rfl, hbk⟩ := hrel
              have HBK := Lib.hid hbk
              clear hbk hq
              by_cases hk : k < lx
              · have k1 : (k : Int) < (lx : Int) := by omega
                have k0 : (0 : Int) ≤ (k : Int) := by omega
                have hq := (HBK.out.cell (p := ⟨b, off + i, none⟩) (Nat.lt_of_lt_of_le HB0.out L5.out.below.size)).trans ((L5.out.below.cell (p := ⟨b, off + i, none⟩) HB0.out).trans HCELL.out)
                obtain ⟨b5, o5, rfl, hc5⟩ := sl_at HT5.out HYP.out.1 (by omega)
                obtain ⟨bi, oi, rfl, hci⟩ := sl_at HSL.out HLX.out.symm (by omega)
                have g5 := (HBK.out.cell (p := ⟨b5, o5 + k, none⟩) (World.block_lt_of_cell? w5 ⟨b5, o5 + k, none⟩ (hc5 k hk))).trans (hc5 k hk)
                have gi := ((L5.out.below.trans (HBK.out.mono L5.out.below.size)).cell (p := ⟨bi, oi + k, none⟩) (World.block_lt_of_cell? w ⟨bi, oi + k, none⟩ (hci k hk))).trans (hci k hk)
                by_cases hyx : Y.getD k 0 = x.getD k 0
                · rw [hyx] at g5
                  generalize ((x.getD k 0).toNat : Int) = z at g5 gi
                  clear hyx hc5 hci
                  go_wp2_with fail
                  go_region
                  all_goals go_wp2_with fail
                  go_roundw
                  case rel => exact ⟨k + 1, by omega, by go_num, HBK.out.drew⟩
                  case measure => simp [intOf]; omega
                · have hrk : r i ≤ k := by
                    rcases Nat.lt_or_ge k (r i) with hlt | hge
                    · exact absurd (HYP.out.2.1 k hlt) hyx
                    · exact hge
                  have HRK := Lib.hid hrk
                  have hne : ¬ ((Y.getD k 0).toNat : Int) = ((x.getD k 0).toNat : Int) := fun e => hyx (UInt8.toNat_inj.1 (by omega))
                  generalize ((x.getD k 0).toNat : Int) = z at gi hne
                  generalize ((Y.getD k 0).toNat : Int) = y at g5 hne
                  have hneB : (y == z) = false := by rw [beq_eq_false_iff_ne]; exact hne
                  clear hyx hc5 hci hrk
                  go_wp2_with fail
                  go_region
                  all_goals go_wp2_with fail
                  go_meet
                  exact ⟨k, hkl, HRK.out, rfl, HBK.out.drew⟩
              · obtain rfl : lx = k := by omega
                have k1 : ¬ (lx : Int) < (lx : Int) := by omega
                go_wp2_with fail
                go_region
                all_goals go_wp2_with fail
                go_meet
                exact ⟨lx, hkl, HR1.out, rfl, HBK.out.drew⟩
          case rest =>
            obtain ⟨k, hkl, hrk, rfl, hbk⟩ := hcut
            have HRK := Lib.hid hrk
            have HBK := Lib.hid hbk
            clear hrk hbk hq
            go_wp2_with fail
            go_loopw [14] (fun jj wr => ∃ j : Nat, k ≤ j ∧ j ≤ lx ∧ jj = .int .i64 (j : Int) ∧ Below w5.heap.size w5 wr) (fun jj _ => lx - (intOf jj).toNat)
            case atStart => exact ⟨k, by omega, hkl, rfl, HBK.out⟩
            case round =>
              obtain ⟨j, hkj, hjl, rfl, hbj⟩ := hrel
              have HBJ := Lib.hid hbj
              clear hbj
              by_cases hj : j < lx
              · have k1 : (j : Int) < (lx : Int) := by omega
                obtain ⟨b5, o5, rfl, hc5⟩ := sl_at HT5.out HYP.out.1 (by omega)
                have g5 := (HBJ.out.cell (p := ⟨b5, o5 + j, none⟩) (World.block_lt_of_cell? w5 ⟨b5, o5 + j, none⟩ (hc5 j hj))).trans (hc5 j hj)
                rw [HYP.out.2.2 j (by have := HRK.out; omega)] at g5
                have g50 : wr.cell? ⟨b5, o5 + j, none⟩ = some (.int .u8 0) := g5
                clear hc5 g5
                go_wp2_with fail
                go_roundw
                case rel => exact ⟨j + 1, by omega, by omega, by go_num, HBJ.out⟩
                case measure => simp [intOf]; omega
              · obtain rfl : lx = j := by omega
                have k1 : ¬ (lx : Int) < (lx : Int) := by omega
                rcases P with _ | _
                · by_cases hkx : k < lx
                  · have k2 : (k : Int) < (lx : Int) := by omega
                    go_wp2_with fail
                    go_roundw
                    case rel => exact ⟨i + 1, true, by omega, rfl, by go_num, L5.out.more HBJ.out, fun _ j hj hjn => HR.out.2.1 i j hil (by omega) hjn (by rw [← HX.out, ← HLX.out]; have := HRK.out; omega)⟩
                    case measure => simp [intOf]; omega
                  · have k2 : ¬ (k : Int) < (lx : Int) := by omega
                    go_wp2_with fail
                    go_roundw
                    case rel => exact ⟨i + 1, false, by omega, rfl, by go_num, L5.out.more HBJ.out, fun h => by cases h⟩
                    case measure => simp [intOf]; omega
                · have hri : r i = 0 := HP.out rfl i (Nat.le_refl _) hlt
                  have HRI := Lib.hid hri
                  have HP2 := Lib.hid (HP.out rfl)
                  clear hri
                  go_wp2_with fail
                  go_loopw [15] (fun jj wq => ∃ j : Nat, j ≤ lx ∧ jj = .int .i64 (j : Int) ∧ Below w5.heap.size w5 wq) (fun jj _ => lx - (intOf jj).toNat)
                  case atStart => exact ⟨0, by omega, rfl, HBJ.out⟩
                  case round =>
                    obtain ⟨j, hjl, rfl, hbj2⟩ := hrel
                    have HBJ2 := Lib.hid hbj2
                    clear hbj2
                    by_cases hj : j < lx
                    · have k1 : (j : Int) < (lx : Int) := by omega
                      obtain ⟨b5, o5, rfl, hc5⟩ := sl_at HT5.out HYP.out.1 (by omega)
                      have g5 := (HBJ2.out.cell (p := ⟨b5, o5 + j, none⟩) (World.block_lt_of_cell? w5 ⟨b5, o5 + j, none⟩ (hc5 j hj))).trans (hc5 j hj)
                      rw [HYP.out.2.2 j (by have := HRI.out; omega)] at g5
                      have g50 : wr.cell? ⟨b5, o5 + j, none⟩ = some (.int .u8 0) := g5
                      clear hc5 g5
                      go_wp2_with fail
                      go_roundw
                      case rel => exact ⟨j + 1, by omega, by go_num, HBJ2.out⟩
                      case measure => simp [intOf]; omega
                    · obtain rfl : lx = j := by omega
                      have k1 : ¬ (lx : Int) < (lx : Int) := by omega
                      go_wp2_with fail
                      go_roundw
                      case rel => exact ⟨i + 1, true, by omega, rfl, by go_num, L5.out.more HBJ2.out, fun _ j hj hjn => HP2.out j (by omega) hjn⟩
                      case measure => simp [intOf]; omega
        · obtain rfl : n = i := by omega
          go_wp2_with (go_at_call 12; go_must (refine (sure_any B _).mono ?_; rintro y w8 ⟨rfl, hb8⟩; have HB8 := Lib.hid (LQ.out.below.trans (hb8.mono LQ.out.size)); clear hb8))
          go_ret
          exact ⟨rfl, HB8.out⟩

end Go.Proofs.Ytlhagbcomnjnoaa.pk
