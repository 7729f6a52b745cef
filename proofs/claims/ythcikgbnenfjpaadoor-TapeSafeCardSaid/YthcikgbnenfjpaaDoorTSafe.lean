/-
  The law TapeSafe's own walk.
-/
import Derived.Test.YthcikgbnenfjpaaDoorTSafeP
import Derived.Test.YthcikgbnenfjpaaDoorOwnD
import Derived.Test.YthcikgbnenfjpaaDoorTOpA
import Derived.Outline
namespace Go.Proofs.YthcikgbnenfjpaaDoor.pk
open Go Go.RowKit
set_option maxRecDepth 100000

set_option maxHeartbeats 20000000 in
theorem safe_true {Q : ConD → Prop} (C : ConD) (B : ConB Q C) (E : ConE C) (A A' A'' : Option Addr) (m c m' c' m'' c'' : Nat) (ls : List (List UInt8)) (steps keep : List Int) (w : World) (hs : Std w) (h : ListsT w (fun k => k < w.heap.size) (.slice A m c) ls)
    (hst : IntsT w (fun k => k < w.heap.size) (.slice A' m' c') steps) (hk : IntsT w (fun k => k < w.heap.size) (.slice A'' m'' c'') keep) (hki : ∀ z ∈ keep, inI z) (hkl : keep.length * 8 ≤ 140737488355328) :
    Calls Tryd.prog 5 #[.slice A m c, .slice A' m' c', .slice A'' m'' c''] w fun x w' => x = .returned (.bool true) ∧ Below w.heap.size w w' := by
  obtain ⟨A1, c1, hv, hmc, hcm⟩ := h.form
  injection hv with e1 e2 e3
  subst e1; subst e3
  obtain ⟨A2, c2, hv, hmc', hcm'⟩ := hst.form
  injection hv with e4 e5 e6
  subst e4; subst e6
  obtain ⟨A3, c3, hv, _, _⟩ := hk.form
  injection hv with e7 e8 e9
  subst e7; subst e9
  have HM := Lib.hid e2
  have HM' := Lib.hid e5
  have hmB : (m : Int) ≤ 9223372036854775807 := by omega
  have hmB' : (m' : Int) ≤ 9223372036854775807 := by omega
  have H := Lib.hid h
  have HT := Lib.hid hst
  have HK := Lib.hid (And.intro hk (And.intro hki hkl))
  have HS := Lib.hid hs
  have hr0 := rests_new 300 10 250 (by omega) (by omega)
  have HR0 := Lib.hid hr0
  clear h hst hk hki hkl e2 e5 e8 hmc hcm hmc' hcm' hs hr0
  go_enter Tryd.func5, Tryd.ntmps5
  go_upto_region 2 with (go_at_call 8; go_must (refine (live_new B w 300 (by omega) (by omega) 300 rfl).mono ?_; rintro y w1 ⟨p, S, rfl, h1⟩; have L1 := Lib.hid h1; clear h1))
  go_upto_region 3 with fail
  have LA := Lib.hid (L1.out.alloc (.cells #[.int .i64 10, .int .i64 250] 36))
  have HBX := Lib.hid (heap_alloc_new w1 (.cells #[.int .i64 10, .int .i64 250] 36))
  obtain ⟨ba, hba⟩ : ∃ ba, ba = w1.heap.size := ⟨_, rfl⟩
  have hbl : ¬ S ba := fun hs => by have := C.foot L1.out.dk ba hs; omega
  have HBA := Lib.hid (And.intro hbl (show w.heap.size ≤ ba by rw [hba]; exact L1.out.size))
  rw [← hba] at HBX ⊢
  obtain ⟨wa, hwa⟩ : ∃ wa, wa = w1.alloc (.cells #[.int .i64 10, .int .i64 250] 36) := ⟨_, rfl⟩
  rw [← hwa] at HBX LA ⊢
  have x0 : wa.cell? ⟨ba, 0, none⟩ = some (.int .i64 10) := by rw [cell_of_row wa ba _ _ _ (0, 0) HBX.out]; rfl
  have x1 : wa.cell? ⟨ba, 1, none⟩ = some (.int .i64 250) := by rw [cell_of_row wa ba _ _ _ (0, 0) HBX.out]; rfl
  clear hbl hba hwa
  go_upto_region 4 with (go_at_call 11; go_must (refine (live_open LA.out 10 250 HR0.out).mono ?_; rintro y w2 ⟨q, v, rfl, h2, ho2, hq2, -, hb2⟩; obtain ⟨A2v, cv, rfl, -, -⟩ := ho2.form; have T2 := Lib.hid (show SafeI C w w2 S q p ba (.slice none 0 0) (newD 300) (openT 10 250 []) [] from ⟨h2, HR0.out.state, rfl, rfl, ⟨OwnL.nil_ _ _ _, fun k hk => (by cases hk), (hb2.block ba (Array.getElem?_eq_some_iff.1 HBX.out).1).trans HBX.out, fun hs => (by
    rcases hs with hs | hs
    · exact HBA.out.1 hs
    · have := (Array.getElem?_eq_some_iff.1 HBX.out).1
      omega), (by intro e; cases e), HBA.out.2⟩⟩); clear h2 ho2 hq2 hb2))
  clear x0 x1
  go_upto_block 0 with fail
  go_cut [10, 13] (fun tp v W => ∃ (S2 : Nat → Prop) (q2 : Nat) (d : Dk) (t : Tm) (l : List (List UInt8)), tp = .pointer (some ⟨q2, 0, none⟩) ∧ SafeI C w W S2 q2 p ba v d t l)
  case first =>
    go_wp2_with fail
    go_loopw [10, 13, 14] (fun tp v ii wr => ∃ (i : Nat) (S2 : Nat → Prop) (q2 : Nat) (d : Dk) (t : Tm) (l : List (List UInt8)), i ≤ 25 ∧ i ≤ m ∧ ii = .int .i64 (i : Int) ∧ tp = .pointer (some ⟨q2, 0, none⟩) ∧ SafeI C w wr S2 q2 p ba v d t l) (fun _ _ ii _ => 25 - (intOf ii).toNat)
    case atStart => exact ⟨0, S, q, _, _, [], by omega, by omega, rfl, rfl, T2.out⟩
    case round =>
      obtain ⟨i, S2, q2, d, t, l, hi, him, rfl, rfl, hsi⟩ := hrel
      obtain ⟨A3, c3, rfl, -, -⟩ := hsi.fx.own.form
      have LR := Lib.hid hsi
      clear hsi
      by_cases hlt : i < m ∧ i < 25
      · obtain ⟨hlt1, hlt2⟩ := hlt
        obtain ⟨b, off, Ai, ci, rfl, hb, hcell, hsl⟩ := H.out.at_ i (by have := HM.out; omega)
        obtain ⟨x, hx⟩ : ∃ x, x = ls[i]'(by have := HM.out; omega) := ⟨_, rfl⟩
        rw [← hx] at hcell hsl
        obtain ⟨lx, hlx⟩ : ∃ lx, lx = x.length := ⟨_, rfl⟩
        rw [← hlx] at hcell hsl
        have hq := (LR.out.lt.below.cell (p := ⟨b, off + i, none⟩) hb).trans hcell
        have HC := Lib.hid (And.intro hb (And.intro hcell (And.intro hsl hlx)))
        have i1 : (i : Int) < (m : Int) := by omega
        have i2 : (i : Int) < 25 := by omega
        have i0 : (0 : Int) ≤ (i : Int) := by omega
        clear hb hcell hsl hx hlx
        by_cases hbig : 100 < lx
        · have i3 : 100 < (lx : Int) := by omega
          go_wp2_with fail
          go_roundw
          case rel => exact ⟨i + 1, S2, q2, d, t, l, by omega, by omega, by go_num, rfl, LR.out⟩
          case measure => simp [intOf]; omega
        · have i3 : ¬ 100 < (lx : Int) := by omega
          have i3' : (lx : Int) ≤ 100 := by omega
          by_cases hns : i < m'
          · obtain ⟨-, -, -, bs, os, rfl, hbs, hcs⟩ := HT.out.at_ (by have := HM'.out; omega)
            obtain ⟨z, hz⟩ : ∃ z, z = steps[i]'(by have := HM'.out; omega) := ⟨_, rfl⟩
            have g := (LR.out.lt.below.cell (p := ⟨bs, os + i, none⟩) hbs).trans (hcs i (.int .i64 z) (by rw [List.getElem?_map, List.getElem?_eq_getElem (by have := HM'.out; omega), hz]; rfl))
            obtain ⟨n, hn, hnz⟩ := step_of z
            have HNZ := Lib.hid hnz
            have i4 : (i : Int) < (m' : Int) := by omega
            have har := arm_state LR.out.st n
            have HAR := Lib.hid har
            have cA := live_arm E LR.out.lt.live (n : Int) (by unfold inI; omega)
            rw [HAR.out.1, er_zero] at cA
            have CA := Lib.hid cA
            clear hz hnz har cA hcs hbs
            go_upto_region 13 with (go_at_call 22; go_must (rw [HNZ.out]; refine CA.out.mono ?_; rintro y w3 ⟨S3, rfl, h3, ht3⟩; have T3 := Lib.hid (show SafeI C w w3 S3 q2 p ba (.slice A3 l.length c3) (armD d n) t l from ⟨LR.out.lt.disk h3.dk ht3 HAR.out.2.2, HAR.out.2.1, LR.out.at0, LR.out.len, LR.out.fx.turn (sq_low LR.out.lt.low LR.out.lt.lowq) (turn_sq ht3 q2)⟩); clear h3 ht3))
            obtain ⟨d3, hd3⟩ : ∃ d3, d3 = armD d n := ⟨_, rfl⟩
            rw [← hd3] at T3
            clear hd3 g hq
            obtain ⟨rz, hrz⟩ : ∃ rz, rz = roomZ ((t.len : Int) - t.fin) := ⟨_, rfl⟩
            have hq3 := (T3.out.lt.below.cell (p := ⟨b, off + i, none⟩) HC.out.1).trans HC.out.2.1
            have k3 := cell_regrown hq3
            have cR : ∀ d os, Calls Tryd.prog 16 #[.pointer (some ⟨q2, 0, none⟩)] (Sort.grow (redrawn w3 d) os) fun e w'' => e = .returned (.int .i64 rz) ∧ ∃ p : Regrown, w'' = Sort.grow (redrawn w3 p.d) p.os :=
              fun d os => Calls.regrown_of ((lt_room (T3.out.lt.more (below_regrown w3 d os))).mono fun _ _ ⟨hy, _, hb⟩ => ⟨by rw [hrz]; exact hy, hb⟩)
            have hlen := T3.out.len
            have hfits := T3.out.st.fits
            have T3' := Lib.hid (fun W hb => SafeI.more (W' := W) T3.out hb)
            by_cases hres : 250 < t.fin + 5 + lx
            · have i5 : rz < (lx : Int) := by rw [hrz]; unfold roomZ; split <;> omega
              have i5d : decide (rz < (lx : Int)) = true := decide_eq_true i5
              clear hq3 hlen hfits hrz
              refine wp_region_quiet_below (by kernel_rfl) (by kernel_rfl) ?_
              repeat (go_big_quiet_step (exact cR _ _))
              refine wpQuiet_nil ?_
              intro _ hw'
              obtain ⟨⟨dq, osq⟩, hw''⟩ := hw'
              subst hw''
              obtain ⟨w4, hw4⟩ : ∃ w4, w4 = Sort.grow (redrawn w3 dq) osq := ⟨_, rfl⟩
              have T4 := Lib.hid (T3'.out w4 (by rw [hw4]; exact below_regrown _ _ _))
              rw [← hw4]
              clear hw4 cR k3 T3'
              have cS := lt_reset T4.out.lt T4.out.st
              rcases reset_cut T4.out.st with ⟨h1, h2, h3⟩ | hcut
              · rw [h1, er_zero] at cS
                have CS := Lib.hid cS
                have HST := Lib.hid h2
                clear cS h1 h2 h3
                go_upto_region 18 with (go_at_call 19; go_must (refine CS.out.mono ?_; rintro y w5 ⟨S5, rfl, h5, ht5⟩; have T5 := Lib.hid (show SafeI C w w5 S5 q2 p ba (.slice none 0 0) (resS d3 t).1 (resT t 0) [] from ⟨h5, HST.out, T4.out.at0, T4.out.len, (T4.out.fx.turn (sq_low T4.out.lt.low T4.out.lt.lowq) ht5).none_⟩); clear h5 ht5))
                have cD := live_down E T5.out.lt.live
                rw [HST.out.on] at cD
                have CD := Lib.hid cD
                clear cD
                go_wp2_with (go_at_call 23; go_must (refine CD.out.mono ?_; rintro y w6 ⟨rfl, -, hb6⟩; have T6 := Lib.hid (T5.out.more hb6); clear hb6))
                go_roundw
                case rel => exact ⟨i + 1, S5, q2, _, _, [], by omega, by omega, by go_num, rfl, T6.out⟩
                case measure => simp [intOf]; omega
              · have he := hcut.err
                rw [he] at cS hcut
                rw [show er 13 = .iface 58 (.int .i64 13) from rfl, show resT t 13 = { t with dead := 13 } from rfl] at cS
                obtain ⟨dC, hdC⟩ : ∃ dC, dC = (resS d3 t).1 := ⟨_, rfl⟩
                rw [← hdC] at cS hcut
                have CS := Lib.hid cS
                have HCUT := Lib.hid hcut
                clear cS he hdC hcut
                go_upto_region 18 with (go_at_call 19; go_must (refine CS.out.mono ?_; rintro y w5 ⟨S5, rfl, h5, ht5⟩; have T5 := Lib.hid (And.intro h5 (T4.out.fx.turn (sq_low T4.out.lt.low T4.out.lt.lowq) ht5)); clear h5 ht5))
                go_upto_region 25 with (first
                  | (go_at_call 12; (refine (num_some 13 w6 (HS.out.below HS.out.size T6.out.1.below)).mono ?_; rintro y w7 ⟨rfl, hb7⟩; have T7 := Lib.hid (And.intro (T6.out.1.more hb7) (T6.out.2.more hb7)); clear hb7))
                  | (go_at_call 18; go_must (have cD := AppendDead_any T6.out.1.tp.box (by show (13 : Nat) ≠ 0; decide) (.slice none 0 0); rw [show er ({ t with dead := 13 } : Tm).dead = .iface 58 (.int .i64 13) from rfl] at cD; refine cD.mono ?_; rintro y w9 ⟨rfl, rfl⟩; clear cD))
                  | (go_at_call 12; go_must (refine (num_some 13 w5 (HS.out.below HS.out.size T5.out.1.below)).mono ?_; rintro y w6 ⟨rfl, hb6⟩; have T6 := Lib.hid (And.intro (T5.out.1.more hb6) (T5.out.2.more hb6)); clear hb6)))
                go_upto_region 26 with (first
                  | (go_at_call 24; go_must (refine (live_start T8.out.1.live _ _ _ keep HCUT.out.few (T8.out.2.2.mono fun k hk => (⟨hk.2, fun hs => Nat.lt_irrefl k (Nat.lt_of_lt_of_le (C.foot T7.out.1.tp.dk k hs) hk.1)⟩ : Av w8 S5 k)) HK.out.2.1).mono ?_; rintro y w9 ⟨S9, rfl, h9, ht9⟩; have T9 := Lib.hid (And.intro h9 (T8.out.2.1.turn (sq_low T8.out.1.low T8.out.1.lowq) (turn_sq ht9 q2))); clear h9 ht9))
                  | (go_at_call 25; go_must (refine (own_any _ _ _ keep w7 (fun k => k < w.heap.size) (RowT.kept HK.out.1 fun k hk _ => T7.out.1.below.block k hk) HK.out.2.2).mono ?_; rintro y w8 ⟨A8, c8, rfl, hi8, hb8⟩; have T8 := Lib.hid (And.intro (T7.out.1.more hb8) (And.intro (T7.out.2.more hb8) hi8)); clear hi8 hb8)))
                have hbk := HCUT.out.back keep
                rw [T4.out.at0, T4.out.len] at hbk
                obtain ⟨x0, x1⟩ := T9.out.2.cells
                obtain ⟨d9, hd9⟩ : ∃ d9, d9 = startD dC keep := ⟨_, rfl⟩
                rw [← hd9] at hbk T9
                clear hd9
                rcases hbk with hbk | hbk
                · have HBK := Lib.hid hbk
                  clear hbk
                  go_upto_region 27 with (go_at_call 11; go_must (refine (live_open T9.out.1 10 250 HBK.out).mono ?_; rintro y w10 ⟨q10, v10, rfl, h10, ho10, hq10, -, hb10⟩; obtain ⟨A10, c10, rfl, -, -⟩ := ho10.form; have T10 := Lib.hid (And.intro h10 (And.intro ho10 (T9.out.2.other hb10 hq10))); clear h10 ho10 hq10 hb10))
                  clear x0 x1
                  go_wp2_with (go_at_call 14; go_must (refine (list_any (fun _ => True) (fun _ => True) _ _ _ _ _ _ l l w10 (T10.out.2.1.lists _ (fun _ _ _ => trivial) (fun _ _ => trivial)) (T10.out.2.2.own.lists _ (fun _ _ _ => trivial) (fun _ _ => trivial)) true (decide_eq_true rfl).symm).mono ?_; rintro y w11 ⟨rfl, hb11⟩; have T11 := Lib.hid (show SafeI C w w11 S9 q10 p ba (.slice A3 l.length c3) d9 (openT 10 250 l) l from ⟨T10.out.1.more hb11, HBK.out.state, rfl, rfl, T10.out.2.2.more hb11⟩); clear hb11))
                  go_roundw
                  case rel => exact ⟨i + 1, S9, q10, _, _, _, by omega, by omega, by go_num, rfl, T11.out⟩
                  case measure => simp [intOf]; omega
                · have HBK := Lib.hid hbk
                  clear hbk
                  by_cases hl0 : l = []
                  · have HBK := Lib.hid (show Rests d9 10 250 l by rw [hl0]; exact HBK.out)
                    clear hl0
                    go_upto_region 27 with (go_at_call 11; go_must (refine (live_open T9.out.1 10 250 HBK.out).mono ?_; rintro y w10 ⟨q10, v10, rfl, h10, ho10, hq10, -, hb10⟩; obtain ⟨A10, c10, rfl, -, -⟩ := ho10.form; have T10 := Lib.hid (And.intro h10 (And.intro ho10 (T9.out.2.other hb10 hq10))); clear h10 ho10 hq10 hb10))
                    clear x0 x1
                    go_wp2_with (go_at_call 14; go_must (refine (list_any (fun _ => True) (fun _ => True) _ _ _ _ _ _ l l w10 (T10.out.2.1.lists _ (fun _ _ _ => trivial) (fun _ _ => trivial)) (T10.out.2.2.own.lists _ (fun _ _ _ => trivial) (fun _ _ => trivial)) true (decide_eq_true rfl).symm).mono ?_; rintro y w11 ⟨rfl, hb11⟩; have T11 := Lib.hid (show SafeI C w w11 S9 q10 p ba (.slice A3 l.length c3) d9 (openT 10 250 l) l from ⟨T10.out.1.more hb11, HBK.out.state, rfl, rfl, T10.out.2.2.more hb11⟩); clear hb11))
                    go_roundw
                    case rel => exact ⟨i + 1, S9, q10, _, _, _, by omega, by omega, by go_num, rfl, T11.out⟩
                    case measure => simp [intOf]; omega
                  · have hne : (decide (([] : List (List UInt8)) = l)) = false := decide_eq_false (fun e => hl0 e.symm)
                    go_upto_region 27 with (go_at_call 11; go_must (refine (live_open T9.out.1 10 250 HBK.out).mono ?_; rintro y w10 ⟨q10, v10, rfl, h10, ho10, hq10, -, hb10⟩; obtain ⟨A10, c10, rfl, -, -⟩ := ho10.form; have T10 := Lib.hid (show LT C w w10 S9 q10 p d9 (openT 10 250 []) ∧ OwnL w10 w9.heap.size (fun k => w9.heap.size ≤ k) (.slice A10 0 c10) [] ∧ Fix w w10 S9 q10 (.slice A3 l.length c3) l ba from And.intro h10 (And.intro ho10 (T9.out.2.other hb10 hq10))); clear h10 ho10 hq10 hb10))
                    clear x0 x1
                    go_wp2_with (go_at_call 14; go_must (refine (list_any (fun _ => True) (fun _ => True) _ _ _ _ _ _ [] l w10 (T10.out.2.1.lists _ (fun _ _ _ => trivial) (fun _ _ => trivial)) (T10.out.2.2.own.lists _ (fun _ _ _ => trivial) (fun _ _ => trivial)) false hne.symm).mono ?_; rintro y w11 ⟨rfl, hb11⟩; have T11 := Lib.hid (show SafeI C w w11 S9 q10 p ba (.slice none 0 0) d9 (openT 10 250 []) [] from ⟨T10.out.1.more hb11, HBK.out.state, rfl, rfl, (T10.out.2.2.more hb11).none_⟩); clear hb11))
                    go_roundw
                    case rel => exact ⟨i + 1, S9, q10, _, _, [], by omega, by omega, by go_num, rfl, T11.out⟩
                    case measure => simp [intOf]; omega
            · have i5 : ¬ rz < (lx : Int) := by rw [hrz]; unfold roomZ; split <;> omega
              have i5d : decide (rz < (lx : Int)) = false := decide_eq_false i5
              have hfx : t.fin + 5 + x.length ≤ t.len := by rw [← HC.out.2.2.2]; omega
              have HFX := Lib.hid hfx
              clear hfx
              clear hq3 hlen hfits hrz
              refine wp_region_quiet_below (by kernel_rfl) (by kernel_rfl) ?_
              repeat (go_big_quiet_step (exact cR _ _))
              refine wpQuiet_nil ?_
              intro _ hw'
              obtain ⟨⟨dq, osq⟩, hw''⟩ := hw'
              subst hw''
              obtain ⟨w4, hw4⟩ : ∃ w4, w4 = Sort.grow (redrawn w3 dq) osq := ⟨_, rfl⟩
              have T4 := Lib.hid (T3'.out w4 (by rw [hw4]; exact below_regrown _ _ _))
              rw [← hw4]
              clear hw4 cR k3 T3'
              have hq4 := (T4.out.lt.below.cell (p := ⟨b, off + i, none⟩) HC.out.1).trans HC.out.2.1
              have cS := lt_append T4.out.lt T4.out.st Ai lx ci x (by rw [← HC.out.2.2.2]; omega) HFX.out (HC.out.2.2.1.kept fun k hk _ => T4.out.lt.below.block k hk)
              rcases append_cut (x := x) T4.out.st HFX.out (by rw [← HC.out.2.2.2]; omega) with ⟨h1, h2, h3⟩ | hcut
              · rw [h1, er_zero] at cS
                have CS := Lib.hid cS
                have HST := Lib.hid h2
                clear cS h1 h2 h3
                go_upto_region 18 with (go_at_call 18; go_must (refine CS.out.mono ?_; rintro y w5 ⟨S5, rfl, h5, ht5⟩; have T5 := Lib.hid (And.intro h5 (T4.out.fx.turn (sq_low T4.out.lt.low T4.out.lt.lowq) ht5)); clear h5 ht5))
                clear hq4
                have hq5 := (T5.out.1.below.cell (p := ⟨b, off + i, none⟩) HC.out.1).trans HC.out.2.1
                have PB := Lib.hid (And.intro ((Below.refl w5.heap.size w5).alloc (Nat.le_refl _) (.cells #[.slice Ai lx ci] 22)) (T5.out.1.below.trans (((Below.refl w5.heap.size w5).alloc (Nat.le_refl _) (.cells #[.slice Ai lx ci] 22)).mono T5.out.1.size)))
                have HFEW := Lib.hid T4.out.few
                go_upto_region 22 with (at_builtin; go_must (refine wpList_push (B := w.heap.size) (Q := fun k => k < w.heap.size) (v := .slice A3 l.length c3) (l := l) (T5.out.2.own.more PB.out.1) rfl (.tmp 94) (.tmp 99) rfl rfl w5.heap.size Ai lx ci rfl (heap_alloc_new _ _) x (for_row HC.out.2.2.1 PB.out.2 (T5.out.2.own.more PB.out.1)) (by have := HFEW.out; omega) PB.out.2.size ?_; intro v6 w6 ho6 hg6 hn6; have T6 := Lib.hid (show SafeI C w w6 S5 q2 p ba v6 (appS d3 t x).1 (appT t x 0) (l ++ [x]) from ⟨T5.out.1.grown PB.out.1 hg6 (fun k hk => ⟨T5.out.2.by_ k hk, (T5.out.2.own.lt k hk).1⟩), HST.out, T4.out.at0, T4.out.len, (T5.out.2.more PB.out.1).push (fun k hk => Nat.lt_of_lt_of_le (T5.out.1.tp.sq_lt k hk) PB.out.1.size) ho6 hg6 hn6⟩); clear ho6 hg6 hn6))
                have cD := live_down E T6.out.lt.live
                rw [HST.out.on] at cD
                have CD := Lib.hid cD
                clear cD hq5
                go_wp2_with (go_at_call 23; go_must (refine CD.out.mono ?_; rintro y w7 ⟨rfl, -, hb7⟩; have T7 := Lib.hid (T6.out.more hb7); clear hb7))
                go_roundw
                case rel => exact ⟨i + 1, S5, q2, _, _, _, by omega, by omega, by go_num, rfl, T7.out⟩
                case measure => simp [intOf]; omega
              · have he := hcut.err
                rw [he] at cS hcut
                rw [show er 13 = .iface 58 (.int .i64 13) from rfl, show appT t x 13 = { t with dead := 13 } from rfl] at cS
                obtain ⟨dC, hdC⟩ : ∃ dC, dC = (appS d3 t x).1 := ⟨_, rfl⟩
                rw [← hdC] at cS hcut
                have CS := Lib.hid cS
                have HCUT := Lib.hid hcut
                clear cS he hdC hcut
                go_upto_region 18 with (go_at_call 18; go_must (refine CS.out.mono ?_; rintro y w5 ⟨S5, rfl, h5, ht5⟩; have T5 := Lib.hid (And.intro h5 (T4.out.fx.turn (sq_low T4.out.lt.low T4.out.lt.lowq) ht5)); clear h5 ht5))
                clear hq4
                go_upto_region 25 with (first
                  | (go_at_call 12; (refine (num_some 13 w6 (HS.out.below HS.out.size T6.out.1.below)).mono ?_; rintro y w7 ⟨rfl, hb7⟩; have T7 := Lib.hid (And.intro (T6.out.1.more hb7) (T6.out.2.more hb7)); clear hb7))
                  | (go_at_call 18; go_must (have cD := AppendDead_any T6.out.1.tp.box (by show (13 : Nat) ≠ 0; decide) (.slice none 0 0); rw [show er ({ t with dead := 13 } : Tm).dead = .iface 58 (.int .i64 13) from rfl] at cD; refine cD.mono ?_; rintro y w9 ⟨rfl, rfl⟩; clear cD))
                  | (go_at_call 12; go_must (refine (num_some 13 w5 (HS.out.below HS.out.size T5.out.1.below)).mono ?_; rintro y w6 ⟨rfl, hb6⟩; have T6 := Lib.hid (And.intro (T5.out.1.more hb6) (T5.out.2.more hb6)); clear hb6)))
                go_upto_region 26 with (first
                  | (go_at_call 24; go_must (refine (live_start T8.out.1.live _ _ _ keep HCUT.out.few (T8.out.2.2.mono fun k hk => (⟨hk.2, fun hs => Nat.lt_irrefl k (Nat.lt_of_lt_of_le (C.foot T7.out.1.tp.dk k hs) hk.1)⟩ : Av w8 S5 k)) HK.out.2.1).mono ?_; rintro y w9 ⟨S9, rfl, h9, ht9⟩; have T9 := Lib.hid (And.intro h9 (T8.out.2.1.turn (sq_low T8.out.1.low T8.out.1.lowq) (turn_sq ht9 q2))); clear h9 ht9))
                  | (go_at_call 25; go_must (refine (own_any _ _ _ keep w7 (fun k => k < w.heap.size) (RowT.kept HK.out.1 fun k hk _ => T7.out.1.below.block k hk) HK.out.2.2).mono ?_; rintro y w8 ⟨A8, c8, rfl, hi8, hb8⟩; have T8 := Lib.hid (And.intro (T7.out.1.more hb8) (And.intro (T7.out.2.more hb8) hi8)); clear hi8 hb8)))
                have hbk := HCUT.out.back keep
                rw [T4.out.at0, T4.out.len] at hbk
                obtain ⟨x0, x1⟩ := T9.out.2.cells
                obtain ⟨d9, hd9⟩ : ∃ d9, d9 = startD dC keep := ⟨_, rfl⟩
                rw [← hd9] at hbk T9
                clear hd9
                rcases hbk with hbk | hbk
                · have HBK := Lib.hid hbk
                  clear hbk
                  go_upto_region 27 with (go_at_call 11; go_must (refine (live_open T9.out.1 10 250 HBK.out).mono ?_; rintro y w10 ⟨q10, v10, rfl, h10, ho10, hq10, -, hb10⟩; obtain ⟨A10, c10, rfl, -, -⟩ := ho10.form; have T10 := Lib.hid (And.intro h10 (And.intro ho10 (T9.out.2.other hb10 hq10))); clear h10 ho10 hq10 hb10))
                  clear x0 x1
                  go_wp2_with (go_at_call 14; go_must (refine (list_any (fun _ => True) (fun _ => True) _ _ _ _ _ _ l l w10 (T10.out.2.1.lists _ (fun _ _ _ => trivial) (fun _ _ => trivial)) (T10.out.2.2.own.lists _ (fun _ _ _ => trivial) (fun _ _ => trivial)) true (decide_eq_true rfl).symm).mono ?_; rintro y w11 ⟨rfl, hb11⟩; have T11 := Lib.hid (show SafeI C w w11 S9 q10 p ba (.slice A3 l.length c3) d9 (openT 10 250 l) l from ⟨T10.out.1.more hb11, HBK.out.state, rfl, rfl, T10.out.2.2.more hb11⟩); clear hb11))
                  go_roundw
                  case rel => exact ⟨i + 1, S9, q10, _, _, _, by omega, by omega, by go_num, rfl, T11.out⟩
                  case measure => simp [intOf]; omega
                · have HBK := Lib.hid hbk
                  clear hbk
                  go_upto_region 27 with (go_at_call 11; go_must (refine (live_open T9.out.1 10 250 HBK.out).mono ?_; rintro y w10 ⟨q10, v10, rfl, h10, ho10, hq10, -, hb10⟩; obtain ⟨A10, c10, rfl, -, -⟩ := ho10.form; rw [show (l ++ [x]).length = l.length + 1 by simp] at ho10 ⊢; have T10 := Lib.hid (And.intro h10 (And.intro ho10 (T9.out.2.other hb10 hq10))); clear h10 ho10 hq10 hb10))
                  clear x0 x1
                  have hne : (decide (l ++ [x] = l)) = false := decide_eq_false (fun e => by have := congrArg List.length e; simp at this)
                  go_upto_region 33 with (go_at_call 14; go_must (refine (list_any (fun _ => True) (fun _ => True) _ _ _ _ _ _ (l ++ [x]) l w10 (T10.out.2.1.lists _ (fun _ _ _ => trivial) (fun _ _ => trivial)) (T10.out.2.2.own.lists _ (fun _ _ _ => trivial) (fun _ _ => trivial)) false hne.symm).mono ?_; rintro y w11 ⟨rfl, hb11⟩; have T11 := Lib.hid (And.intro (T10.out.1.more hb11) (And.intro (T10.out.2.1.more hb11) (T10.out.2.2.more hb11))); clear hb11))
                  have hfl := T11.out.2.1.lists (fun _ => True) (fun _ _ _ => trivial) (fun _ _ => trivial)
                  have hff := hfl.front (k := l.length) (by simp)
                  rw [List.take_left] at hff
                  obtain ⟨bm, om, Am, cm, e10, -, hcm, hsm⟩ := hfl.at_ l.length (by simp)
                  subst e10
                  rw [show (l ++ [x])[l.length]'(by simp) = x by simp, ← HC.out.2.2.2] at hcm hsm
                  have km := cell_regrown hcm
                  have hq11 := (T11.out.1.below.cell (p := ⟨b, off + i, none⟩) HC.out.1).trans HC.out.2.1
                  have kq := cell_regrown hq11
                  have HSM := Lib.hid hsm
                  have HFF := Lib.hid hff
                  have HFN := Lib.hid (T11.out.2.2.own.lists (fun _ => True) (fun _ _ _ => trivial) (fun _ _ => trivial))
                  have v1 := fun d os => conv_bytes (HSM.out.sl.below (below_regrown w11 d os))
                  have v2 := fun d os => conv_bytes ((HC.out.2.2.1.kept fun k hk _ => T11.out.1.below.block k hk).sl.below (below_regrown w11 d os))
                  have cL : ∀ d os, Calls Tryd.prog 14 #[.slice (some ⟨bm, om, none⟩) l.length c10, .slice A3 l.length c3] (Sort.grow (redrawn w11 d) os) fun e w'' => e = .returned (.bool true) ∧ ∃ p : Regrown, w'' = Sort.grow (redrawn w11 p.d) p.os :=
                    fun d os => Calls.regrown_of (list_any (fun _ => True) (fun _ => True) _ _ _ _ _ _ l l _ (HFF.out.below_ (below_regrown w11 d os)) (HFN.out.below_ (below_regrown w11 d os)) true (decide_eq_true rfl).symm)
                  have hlf := T4.out.few
                  have ilw : IntKind.i64.wrap ((l.length : Int) + 1) = (l.length : Int) + 1 := IntWalk.i64_in _ (by omega)
                  have ilc : l.length ≤ c10 := by
                    obtain ⟨_, _, hv, h1, _⟩ := hfl.form
                    injection hv with _ _ hv3
                    rw [← hv3] at h1
                    simp at h1
                    omega
                  have ilt : (l.length : Int) < (l.length : Int) + 1 := by omega
                  have ilI : (l.length : Int) ≤ (c10 : Int) := by omega
                  have il0 : (0 : Int) ≤ (l.length : Int) := by omega
                  clear hfl hff hcm hsm hq11 hlf hne
                  refine wp_region_quiet_below (by kernel_rfl) (by kernel_rfl) ?_
                  repeat (go_big_quiet_step (exact cL _ _))
                  refine wpQuiet_nil ?_
                  intro _ hw'
                  obtain ⟨⟨dr, osr⟩, hw''⟩ := hw'
                  subst hw''
                  obtain ⟨w12, hw12⟩ : ∃ w12, w12 = Sort.grow (redrawn w11 dr) osr := ⟨_, rfl⟩
                  have T12 := Lib.hid (show LT C w w12 S9 q10 p d9 (openT 10 250 (l ++ [x])) ∧ Fix w w12 S9 q10 (.slice A3 l.length c3) l ba by rw [hw12]; exact ⟨T11.out.1.more (below_regrown w11 dr osr), T11.out.2.2.more (below_regrown w11 dr osr)⟩)
                  rw [← hw12]
                  clear hw12 km kq v1 v2 cL ilw ilc ilt ilI il0
                  have hq12 := (T12.out.1.below.cell (p := ⟨b, off + i, none⟩) HC.out.1).trans HC.out.2.1
                  have PB := Lib.hid (And.intro ((Below.refl w12.heap.size w12).alloc (Nat.le_refl _) (.cells #[.slice Ai lx ci] 22)) (T12.out.1.below.trans (((Below.refl w12.heap.size w12).alloc (Nat.le_refl _) (.cells #[.slice Ai lx ci] 22)).mono T12.out.1.size)))
                  have HFEW := Lib.hid T4.out.few
                  go_wp2_with (at_builtin; go_must (refine wpList_push (B := w.heap.size) (Q := fun k => k < w.heap.size) (v := .slice A3 l.length c3) (l := l) (T12.out.2.own.more PB.out.1) rfl (.tmp 178) (.tmp 183) rfl rfl w12.heap.size Ai lx ci rfl (heap_alloc_new _ _) x (for_row HC.out.2.2.1 PB.out.2 (T12.out.2.own.more PB.out.1)) (by have := HFEW.out; omega) PB.out.2.size ?_; intro v13 w13 ho13 hg13 hn13; have T13 := Lib.hid (show SafeI C w w13 S9 q10 p ba v13 d9 (openT 10 250 (l ++ [x])) (l ++ [x]) from ⟨T12.out.1.grown PB.out.1 hg13 (fun k hk => ⟨T12.out.2.by_ k hk, (T12.out.2.own.lt k hk).1⟩), HBK.out.state, rfl, rfl, (T12.out.2.more PB.out.1).push (fun k hk => Nat.lt_of_lt_of_le (T12.out.1.tp.sq_lt k hk) PB.out.1.size) ho13 hg13 hn13⟩); clear ho13 hg13 hn13))
                  go_roundw
                  case rel => exact ⟨i + 1, S9, q10, d9, _, l ++ [x], by omega, by omega, by go_num, rfl, T13.out⟩
                  case measure => simp [intOf]; omega
          · have i4 : ¬ (i : Int) < (m' : Int) := by omega
            go_upto_region 13 with fail
            clear hq
            obtain ⟨rz, hrz⟩ : ∃ rz, rz = roomZ ((t.len : Int) - t.fin) := ⟨_, rfl⟩
            have hq3 := (LR.out.lt.below.cell (p := ⟨b, off + i, none⟩) HC.out.1).trans HC.out.2.1
            have k3 := cell_regrown hq3
            have cR : ∀ d os, Calls Tryd.prog 16 #[.pointer (some ⟨q2, 0, none⟩)] (Sort.grow (redrawn wr d) os) fun e w'' => e = .returned (.int .i64 rz) ∧ ∃ p : Regrown, w'' = Sort.grow (redrawn wr p.d) p.os :=
              fun d os => Calls.regrown_of ((lt_room (LR.out.lt.more (below_regrown wr d os))).mono fun _ _ ⟨hy, _, hb⟩ => ⟨by rw [hrz]; exact hy, hb⟩)
            have hlen := LR.out.len
            have hfits := LR.out.st.fits
            have T3' := Lib.hid (fun W hb => SafeI.more (W' := W) LR.out hb)
            by_cases hres : 250 < t.fin + 5 + lx
            · have i5 : rz < (lx : Int) := by rw [hrz]; unfold roomZ; split <;> omega
              have i5d : decide (rz < (lx : Int)) = true := decide_eq_true i5
              clear hq3 hlen hfits hrz
              refine wp_region_quiet_below (by kernel_rfl) (by kernel_rfl) ?_
              repeat (go_big_quiet_step (exact cR _ _))
              refine wpQuiet_nil ?_
              intro _ hw'
              obtain ⟨⟨dq, osq⟩, hw''⟩ := hw'
              subst hw''
              obtain ⟨w4, hw4⟩ : ∃ w4, w4 = Sort.grow (redrawn wr dq) osq := ⟨_, rfl⟩
              have T4 := Lib.hid (T3'.out w4 (by rw [hw4]; exact below_regrown _ _ _))
              rw [← hw4]
              clear hw4 cR k3 T3'
              have cS := lt_reset T4.out.lt T4.out.st
              rcases reset_cut T4.out.st with ⟨h1, h2, h3⟩ | hcut
              · rw [h1, er_zero] at cS
                have CS := Lib.hid cS
                have HST := Lib.hid h2
                clear cS h1 h2 h3
                go_upto_region 18 with (go_at_call 19; go_must (refine CS.out.mono ?_; rintro y w5 ⟨S5, rfl, h5, ht5⟩; have T5 := Lib.hid (show SafeI C w w5 S5 q2 p ba (.slice none 0 0) (resS d t).1 (resT t 0) [] from ⟨h5, HST.out, T4.out.at0, T4.out.len, (T4.out.fx.turn (sq_low T4.out.lt.low T4.out.lt.lowq) ht5).none_⟩); clear h5 ht5))
                have cD := live_down E T5.out.lt.live
                rw [HST.out.on] at cD
                have CD := Lib.hid cD
                clear cD
                go_wp2_with (go_at_call 23; go_must (refine CD.out.mono ?_; rintro y w6 ⟨rfl, -, hb6⟩; have T6 := Lib.hid (T5.out.more hb6); clear hb6))
                go_roundw
                case rel => exact ⟨i + 1, S5, q2, _, _, [], by omega, by omega, by go_num, rfl, T6.out⟩
                case measure => simp [intOf]; omega
              · have he := hcut.err
                rw [he] at cS hcut
                rw [show er 13 = .iface 58 (.int .i64 13) from rfl, show resT t 13 = { t with dead := 13 } from rfl] at cS
                obtain ⟨dC, hdC⟩ : ∃ dC, dC = (resS d t).1 := ⟨_, rfl⟩
                rw [← hdC] at cS hcut
                have CS := Lib.hid cS
                have HCUT := Lib.hid hcut
                clear cS he hdC hcut
                go_upto_region 18 with (go_at_call 19; go_must (refine CS.out.mono ?_; rintro y w5 ⟨S5, rfl, h5, ht5⟩; have T5 := Lib.hid (And.intro h5 (T4.out.fx.turn (sq_low T4.out.lt.low T4.out.lt.lowq) ht5)); clear h5 ht5))
                go_upto_region 25 with (first
                  | (go_at_call 12; (refine (num_some 13 w6 (HS.out.below HS.out.size T6.out.1.below)).mono ?_; rintro y w7 ⟨rfl, hb7⟩; have T7 := Lib.hid (And.intro (T6.out.1.more hb7) (T6.out.2.more hb7)); clear hb7))
                  | (go_at_call 18; go_must (have cD := AppendDead_any T6.out.1.tp.box (by show (13 : Nat) ≠ 0; decide) (.slice none 0 0); rw [show er ({ t with dead := 13 } : Tm).dead = .iface 58 (.int .i64 13) from rfl] at cD; refine cD.mono ?_; rintro y w9 ⟨rfl, rfl⟩; clear cD))
                  | (go_at_call 12; go_must (refine (num_some 13 w5 (HS.out.below HS.out.size T5.out.1.below)).mono ?_; rintro y w6 ⟨rfl, hb6⟩; have T6 := Lib.hid (And.intro (T5.out.1.more hb6) (T5.out.2.more hb6)); clear hb6)))
                go_upto_region 26 with (first
                  | (go_at_call 24; go_must (refine (live_start T8.out.1.live _ _ _ keep HCUT.out.few (T8.out.2.2.mono fun k hk => (⟨hk.2, fun hs => Nat.lt_irrefl k (Nat.lt_of_lt_of_le (C.foot T7.out.1.tp.dk k hs) hk.1)⟩ : Av w8 S5 k)) HK.out.2.1).mono ?_; rintro y w9 ⟨S9, rfl, h9, ht9⟩; have T9 := Lib.hid (And.intro h9 (T8.out.2.1.turn (sq_low T8.out.1.low T8.out.1.lowq) (turn_sq ht9 q2))); clear h9 ht9))
                  | (go_at_call 25; go_must (refine (own_any _ _ _ keep w7 (fun k => k < w.heap.size) (RowT.kept HK.out.1 fun k hk _ => T7.out.1.below.block k hk) HK.out.2.2).mono ?_; rintro y w8 ⟨A8, c8, rfl, hi8, hb8⟩; have T8 := Lib.hid (And.intro (T7.out.1.more hb8) (And.intro (T7.out.2.more hb8) hi8)); clear hi8 hb8)))
                have hbk := HCUT.out.back keep
                rw [T4.out.at0, T4.out.len] at hbk
                obtain ⟨x0, x1⟩ := T9.out.2.cells
                obtain ⟨d9, hd9⟩ : ∃ d9, d9 = startD dC keep := ⟨_, rfl⟩
                rw [← hd9] at hbk T9
                clear hd9
                rcases hbk with hbk | hbk
                · have HBK := Lib.hid hbk
                  clear hbk
                  go_upto_region 27 with (go_at_call 11; go_must (refine (live_open T9.out.1 10 250 HBK.out).mono ?_; rintro y w10 ⟨q10, v10, rfl, h10, ho10, hq10, -, hb10⟩; obtain ⟨A10, c10, rfl, -, -⟩ := ho10.form; have T10 := Lib.hid (And.intro h10 (And.intro ho10 (T9.out.2.other hb10 hq10))); clear h10 ho10 hq10 hb10))
                  clear x0 x1
                  go_wp2_with (go_at_call 14; go_must (refine (list_any (fun _ => True) (fun _ => True) _ _ _ _ _ _ l l w10 (T10.out.2.1.lists _ (fun _ _ _ => trivial) (fun _ _ => trivial)) (T10.out.2.2.own.lists _ (fun _ _ _ => trivial) (fun _ _ => trivial)) true (decide_eq_true rfl).symm).mono ?_; rintro y w11 ⟨rfl, hb11⟩; have T11 := Lib.hid (show SafeI C w w11 S9 q10 p ba (.slice A3 l.length c3) d9 (openT 10 250 l) l from ⟨T10.out.1.more hb11, HBK.out.state, rfl, rfl, T10.out.2.2.more hb11⟩); clear hb11))
                  go_roundw
                  case rel => exact ⟨i + 1, S9, q10, _, _, _, by omega, by omega, by go_num, rfl, T11.out⟩
                  case measure => simp [intOf]; omega
                · have HBK := Lib.hid hbk
                  clear hbk
                  by_cases hl0 : l = []
                  · have HBK := Lib.hid (show Rests d9 10 250 l by rw [hl0]; exact HBK.out)
                    clear hl0
                    go_upto_region 27 with (go_at_call 11; go_must (refine (live_open T9.out.1 10 250 HBK.out).mono ?_; rintro y w10 ⟨q10, v10, rfl, h10, ho10, hq10, -, hb10⟩; obtain ⟨A10, c10, rfl, -, -⟩ := ho10.form; have T10 := Lib.hid (And.intro h10 (And.intro ho10 (T9.out.2.other hb10 hq10))); clear h10 ho10 hq10 hb10))
                    clear x0 x1
                    go_wp2_with (go_at_call 14; go_must (refine (list_any (fun _ => True) (fun _ => True) _ _ _ _ _ _ l l w10 (T10.out.2.1.lists _ (fun _ _ _ => trivial) (fun _ _ => trivial)) (T10.out.2.2.own.lists _ (fun _ _ _ => trivial) (fun _ _ => trivial)) true (decide_eq_true rfl).symm).mono ?_; rintro y w11 ⟨rfl, hb11⟩; have T11 := Lib.hid (show SafeI C w w11 S9 q10 p ba (.slice A3 l.length c3) d9 (openT 10 250 l) l from ⟨T10.out.1.more hb11, HBK.out.state, rfl, rfl, T10.out.2.2.more hb11⟩); clear hb11))
                    go_roundw
                    case rel => exact ⟨i + 1, S9, q10, _, _, _, by omega, by omega, by go_num, rfl, T11.out⟩
                    case measure => simp [intOf]; omega
                  · have hne : (decide (([] : List (List UInt8)) = l)) = false := decide_eq_false (fun e => hl0 e.symm)
                    go_upto_region 27 with (go_at_call 11; go_must (refine (live_open T9.out.1 10 250 HBK.out).mono ?_; rintro y w10 ⟨q10, v10, rfl, h10, ho10, hq10, -, hb10⟩; obtain ⟨A10, c10, rfl, -, -⟩ := ho10.form; have T10 := Lib.hid (show LT C w w10 S9 q10 p d9 (openT 10 250 []) ∧ OwnL w10 w9.heap.size (fun k => w9.heap.size ≤ k) (.slice A10 0 c10) [] ∧ Fix w w10 S9 q10 (.slice A3 l.length c3) l ba from And.intro h10 (And.intro ho10 (T9.out.2.other hb10 hq10))); clear h10 ho10 hq10 hb10))
                    clear x0 x1
                    go_wp2_with (go_at_call 14; go_must (refine (list_any (fun _ => True) (fun _ => True) _ _ _ _ _ _ [] l w10 (T10.out.2.1.lists _ (fun _ _ _ => trivial) (fun _ _ => trivial)) (T10.out.2.2.own.lists _ (fun _ _ _ => trivial) (fun _ _ => trivial)) false hne.symm).mono ?_; rintro y w11 ⟨rfl, hb11⟩; have T11 := Lib.hid (show SafeI C w w11 S9 q10 p ba (.slice none 0 0) d9 (openT 10 250 []) [] from ⟨T10.out.1.more hb11, HBK.out.state, rfl, rfl, (T10.out.2.2.more hb11).none_⟩); clear hb11))
                    go_roundw
                    case rel => exact ⟨i + 1, S9, q10, _, _, [], by omega, by omega, by go_num, rfl, T11.out⟩
                    case measure => simp [intOf]; omega
            · have i5 : ¬ rz < (lx : Int) := by rw [hrz]; unfold roomZ; split <;> omega
              have i5d : decide (rz < (lx : Int)) = false := decide_eq_false i5
              have hfx : t.fin + 5 + x.length ≤ t.len := by rw [← HC.out.2.2.2]; omega
              have HFX := Lib.hid hfx
              clear hfx
              clear hq3 hlen hfits hrz
              refine wp_region_quiet_below (by kernel_rfl) (by kernel_rfl) ?_
              repeat (go_big_quiet_step (exact cR _ _))
              refine wpQuiet_nil ?_
              intro _ hw'
              obtain ⟨⟨dq, osq⟩, hw''⟩ := hw'
              subst hw''
              obtain ⟨w4, hw4⟩ : ∃ w4, w4 = Sort.grow (redrawn wr dq) osq := ⟨_, rfl⟩
              have T4 := Lib.hid (T3'.out w4 (by rw [hw4]; exact below_regrown _ _ _))
              rw [← hw4]
              clear hw4 cR k3 T3'
              have hq4 := (T4.out.lt.below.cell (p := ⟨b, off + i, none⟩) HC.out.1).trans HC.out.2.1
              have cS := lt_append T4.out.lt T4.out.st Ai lx ci x (by rw [← HC.out.2.2.2]; omega) HFX.out (HC.out.2.2.1.kept fun k hk _ => T4.out.lt.below.block k hk)
              rcases append_cut (x := x) T4.out.st HFX.out (by rw [← HC.out.2.2.2]; omega) with ⟨h1, h2, h3⟩ | hcut
              · rw [h1, er_zero] at cS
                have CS := Lib.hid cS
                have HST := Lib.hid h2
                clear cS h1 h2 h3
                go_upto_region 18 with (go_at_call 18; go_must (refine CS.out.mono ?_; rintro y w5 ⟨S5, rfl, h5, ht5⟩; have T5 := Lib.hid (And.intro h5 (T4.out.fx.turn (sq_low T4.out.lt.low T4.out.lt.lowq) ht5)); clear h5 ht5))
                clear hq4
                have hq5 := (T5.out.1.below.cell (p := ⟨b, off + i, none⟩) HC.out.1).trans HC.out.2.1
                have PB := Lib.hid (And.intro ((Below.refl w5.heap.size w5).alloc (Nat.le_refl _) (.cells #[.slice Ai lx ci] 22)) (T5.out.1.below.trans (((Below.refl w5.heap.size w5).alloc (Nat.le_refl _) (.cells #[.slice Ai lx ci] 22)).mono T5.out.1.size)))
                have HFEW := Lib.hid T4.out.few
                go_upto_region 22 with (at_builtin; go_must (refine wpList_push (B := w.heap.size) (Q := fun k => k < w.heap.size) (v := .slice A3 l.length c3) (l := l) (T5.out.2.own.more PB.out.1) rfl (.tmp 94) (.tmp 99) rfl rfl w5.heap.size Ai lx ci rfl (heap_alloc_new _ _) x (for_row HC.out.2.2.1 PB.out.2 (T5.out.2.own.more PB.out.1)) (by have := HFEW.out; omega) PB.out.2.size ?_; intro v6 w6 ho6 hg6 hn6; have T6 := Lib.hid (show SafeI C w w6 S5 q2 p ba v6 (appS d t x).1 (appT t x 0) (l ++ [x]) from ⟨T5.out.1.grown PB.out.1 hg6 (fun k hk => ⟨T5.out.2.by_ k hk, (T5.out.2.own.lt k hk).1⟩), HST.out, T4.out.at0, T4.out.len, (T5.out.2.more PB.out.1).push (fun k hk => Nat.lt_of_lt_of_le (T5.out.1.tp.sq_lt k hk) PB.out.1.size) ho6 hg6 hn6⟩); clear ho6 hg6 hn6))
                have cD := live_down E T6.out.lt.live
                rw [HST.out.on] at cD
                have CD := Lib.hid cD
                clear cD hq5
                go_wp2_with (go_at_call 23; go_must (refine CD.out.mono ?_; rintro y w7 ⟨rfl, -, hb7⟩; have T7 := Lib.hid (T6.out.more hb7); clear hb7))
                go_roundw
                case rel => exact ⟨i + 1, S5, q2, _, _, _, by omega, by omega, by go_num, rfl, T7.out⟩
                case measure => simp [intOf]; omega
              · have he := hcut.err
                rw [he] at cS hcut
                rw [show er 13 = .iface 58 (.int .i64 13) from rfl, show appT t x 13 = { t with dead := 13 } from rfl] at cS
                obtain ⟨dC, hdC⟩ : ∃ dC, dC = (appS d t x).1 := ⟨_, rfl⟩
                rw [← hdC] at cS hcut
                have CS := Lib.hid cS
                have HCUT := Lib.hid hcut
                clear cS he hdC hcut
                go_upto_region 18 with (go_at_call 18; go_must (refine CS.out.mono ?_; rintro y w5 ⟨S5, rfl, h5, ht5⟩; have T5 := Lib.hid (And.intro h5 (T4.out.fx.turn (sq_low T4.out.lt.low T4.out.lt.lowq) ht5)); clear h5 ht5))
                clear hq4
                go_upto_region 25 with (first
                  | (go_at_call 12; (refine (num_some 13 w6 (HS.out.below HS.out.size T6.out.1.below)).mono ?_; rintro y w7 ⟨rfl, hb7⟩; have T7 := Lib.hid (And.intro (T6.out.1.more hb7) (T6.out.2.more hb7)); clear hb7))
                  | (go_at_call 18; go_must (have cD := AppendDead_any T6.out.1.tp.box (by show (13 : Nat) ≠ 0; decide) (.slice none 0 0); rw [show er ({ t with dead := 13 } : Tm).dead = .iface 58 (.int .i64 13) from rfl] at cD; refine cD.mono ?_; rintro y w9 ⟨rfl, rfl⟩; clear cD))
                  | (go_at_call 12; go_must (refine (num_some 13 w5 (HS.out.below HS.out.size T5.out.1.below)).mono ?_; rintro y w6 ⟨rfl, hb6⟩; have T6 := Lib.hid (And.intro (T5.out.1.more hb6) (T5.out.2.more hb6)); clear hb6)))
                go_upto_region 26 with (first
                  | (go_at_call 24; go_must (refine (live_start T8.out.1.live _ _ _ keep HCUT.out.few (T8.out.2.2.mono fun k hk => (⟨hk.2, fun hs => Nat.lt_irrefl k (Nat.lt_of_lt_of_le (C.foot T7.out.1.tp.dk k hs) hk.1)⟩ : Av w8 S5 k)) HK.out.2.1).mono ?_; rintro y w9 ⟨S9, rfl, h9, ht9⟩; have T9 := Lib.hid (And.intro h9 (T8.out.2.1.turn (sq_low T8.out.1.low T8.out.1.lowq) (turn_sq ht9 q2))); clear h9 ht9))
                  | (go_at_call 25; go_must (refine (own_any _ _ _ keep w7 (fun k => k < w.heap.size) (RowT.kept HK.out.1 fun k hk _ => T7.out.1.below.block k hk) HK.out.2.2).mono ?_; rintro y w8 ⟨A8, c8, rfl, hi8, hb8⟩; have T8 := Lib.hid (And.intro (T7.out.1.more hb8) (And.intro (T7.out.2.more hb8) hi8)); clear hi8 hb8)))
                have hbk := HCUT.out.back keep
                rw [T4.out.at0, T4.out.len] at hbk
                obtain ⟨x0, x1⟩ := T9.out.2.cells
                obtain ⟨d9, hd9⟩ : ∃ d9, d9 = startD dC keep := ⟨_, rfl⟩
                rw [← hd9] at hbk T9
                clear hd9
                rcases hbk with hbk | hbk
                · have HBK := Lib.hid hbk
                  clear hbk
                  go_upto_region 27 with (go_at_call 11; go_must (refine (live_open T9.out.1 10 250 HBK.out).mono ?_; rintro y w10 ⟨q10, v10, rfl, h10, ho10, hq10, -, hb10⟩; obtain ⟨A10, c10, rfl, -, -⟩ := ho10.form; have T10 := Lib.hid (And.intro h10 (And.intro ho10 (T9.out.2.other hb10 hq10))); clear h10 ho10 hq10 hb10))
                  clear x0 x1
                  go_wp2_with (go_at_call 14; go_must (refine (list_any (fun _ => True) (fun _ => True) _ _ _ _ _ _ l l w10 (T10.out.2.1.lists _ (fun _ _ _ => trivial) (fun _ _ => trivial)) (T10.out.2.2.own.lists _ (fun _ _ _ => trivial) (fun _ _ => trivial)) true (decide_eq_true rfl).symm).mono ?_; rintro y w11 ⟨rfl, hb11⟩; have T11 := Lib.hid (show SafeI C w w11 S9 q10 p ba (.slice A3 l.length c3) d9 (openT 10 250 l) l from ⟨T10.out.1.more hb11, HBK.out.state, rfl, rfl, T10.out.2.2.more hb11⟩); clear hb11))
                  go_roundw
                  case rel => exact ⟨i + 1, S9, q10, _, _, _, by omega, by omega, by go_num, rfl, T11.out⟩
                  case measure => simp [intOf]; omega
                · have HBK := Lib.hid hbk
                  clear hbk
                  go_upto_region 27 with (go_at_call 11; go_must (refine (live_open T9.out.1 10 250 HBK.out).mono ?_; rintro y w10 ⟨q10, v10, rfl, h10, ho10, hq10, -, hb10⟩; obtain ⟨A10, c10, rfl, -, -⟩ := ho10.form; rw [show (l ++ [x]).length = l.length + 1 by simp] at ho10 ⊢; have T10 := Lib.hid (And.intro h10 (And.intro ho10 (T9.out.2.other hb10 hq10))); clear h10 ho10 hq10 hb10))
                  clear x0 x1
                  have hne : (decide (l ++ [x] = l)) = false := decide_eq_false (fun e => by have := congrArg List.length e; simp at this)
                  go_upto_region 33 with (go_at_call 14; go_must (refine (list_any (fun _ => True) (fun _ => True) _ _ _ _ _ _ (l ++ [x]) l w10 (T10.out.2.1.lists _ (fun _ _ _ => trivial) (fun _ _ => trivial)) (T10.out.2.2.own.lists _ (fun _ _ _ => trivial) (fun _ _ => trivial)) false hne.symm).mono ?_; rintro y w11 ⟨rfl, hb11⟩; have T11 := Lib.hid (And.intro (T10.out.1.more hb11) (And.intro (T10.out.2.1.more hb11) (T10.out.2.2.more hb11))); clear hb11))
                  have hfl := T11.out.2.1.lists (fun _ => True) (fun _ _ _ => trivial) (fun _ _ => trivial)
                  have hff := hfl.front (k := l.length) (by simp)
                  rw [List.take_left] at hff
                  obtain ⟨bm, om, Am, cm, e10, -, hcm, hsm⟩ := hfl.at_ l.length (by simp)
                  subst e10
                  rw [show (l ++ [x])[l.length]'(by simp) = x by simp, ← HC.out.2.2.2] at hcm hsm
                  have km := cell_regrown hcm
                  have hq11 := (T11.out.1.below.cell (p := ⟨b, off + i, none⟩) HC.out.1).trans HC.out.2.1
                  have kq := cell_regrown hq11
                  have HSM := Lib.hid hsm
                  have HFF := Lib.hid hff
                  have HFN := Lib.hid (T11.out.2.2.own.lists (fun _ => True) (fun _ _ _ => trivial) (fun _ _ => trivial))
                  have v1 := fun d os => conv_bytes (HSM.out.sl.below (below_regrown w11 d os))
                  have v2 := fun d os => conv_bytes ((HC.out.2.2.1.kept fun k hk _ => T11.out.1.below.block k hk).sl.below (below_regrown w11 d os))
                  have cL : ∀ d os, Calls Tryd.prog 14 #[.slice (some ⟨bm, om, none⟩) l.length c10, .slice A3 l.length c3] (Sort.grow (redrawn w11 d) os) fun e w'' => e = .returned (.bool true) ∧ ∃ p : Regrown, w'' = Sort.grow (redrawn w11 p.d) p.os :=
                    fun d os => Calls.regrown_of (list_any (fun _ => True) (fun _ => True) _ _ _ _ _ _ l l _ (HFF.out.below_ (below_regrown w11 d os)) (HFN.out.below_ (below_regrown w11 d os)) true (decide_eq_true rfl).symm)
                  have hlf := T4.out.few
                  have ilw : IntKind.i64.wrap ((l.length : Int) + 1) = (l.length : Int) + 1 := IntWalk.i64_in _ (by omega)
                  have ilc : l.length ≤ c10 := by
                    obtain ⟨_, _, hv, h1, _⟩ := hfl.form
                    injection hv with _ _ hv3
                    rw [← hv3] at h1
                    simp at h1
                    omega
                  have ilt : (l.length : Int) < (l.length : Int) + 1 := by omega
                  have ilI : (l.length : Int) ≤ (c10 : Int) := by omega
                  have il0 : (0 : Int) ≤ (l.length : Int) := by omega
                  clear hfl hff hcm hsm hq11 hlf hne
                  refine wp_region_quiet_below (by kernel_rfl) (by kernel_rfl) ?_
                  repeat (go_big_quiet_step (exact cL _ _))
                  refine wpQuiet_nil ?_
                  intro _ hw'
                  obtain ⟨⟨dr, osr⟩, hw''⟩ := hw'
                  subst hw''
                  obtain ⟨w12, hw12⟩ : ∃ w12, w12 = Sort.grow (redrawn w11 dr) osr := ⟨_, rfl⟩
                  have T12 := Lib.hid (show LT C w w12 S9 q10 p d9 (openT 10 250 (l ++ [x])) ∧ Fix w w12 S9 q10 (.slice A3 l.length c3) l ba by rw [hw12]; exact ⟨T11.out.1.more (below_regrown w11 dr osr), T11.out.2.2.more (below_regrown w11 dr osr)⟩)
                  rw [← hw12]
                  clear hw12 km kq v1 v2 cL ilw ilc ilt ilI il0
                  have hq12 := (T12.out.1.below.cell (p := ⟨b, off + i, none⟩) HC.out.1).trans HC.out.2.1
                  have PB := Lib.hid (And.intro ((Below.refl w12.heap.size w12).alloc (Nat.le_refl _) (.cells #[.slice Ai lx ci] 22)) (T12.out.1.below.trans (((Below.refl w12.heap.size w12).alloc (Nat.le_refl _) (.cells #[.slice Ai lx ci] 22)).mono T12.out.1.size)))
                  have HFEW := Lib.hid T4.out.few
                  go_wp2_with (at_builtin; go_must (refine wpList_push (B := w.heap.size) (Q := fun k => k < w.heap.size) (v := .slice A3 l.length c3) (l := l) (T12.out.2.own.more PB.out.1) rfl (.tmp 178) (.tmp 183) rfl rfl w12.heap.size Ai lx ci rfl (heap_alloc_new _ _) x (for_row HC.out.2.2.1 PB.out.2 (T12.out.2.own.more PB.out.1)) (by have := HFEW.out; omega) PB.out.2.size ?_; intro v13 w13 ho13 hg13 hn13; have T13 := Lib.hid (show SafeI C w w13 S9 q10 p ba v13 d9 (openT 10 250 (l ++ [x])) (l ++ [x]) from ⟨T12.out.1.grown PB.out.1 hg13 (fun k hk => ⟨T12.out.2.by_ k hk, (T12.out.2.own.lt k hk).1⟩), HBK.out.state, rfl, rfl, (T12.out.2.more PB.out.1).push (fun k hk => Nat.lt_of_lt_of_le (T12.out.1.tp.sq_lt k hk) PB.out.1.size) ho13 hg13 hn13⟩); clear ho13 hg13 hn13))
                  go_roundw
                  case rel => exact ⟨i + 1, S9, q10, d9, _, l ++ [x], by omega, by omega, by go_num, rfl, T13.out⟩
                  case measure => simp [intOf]; omega
      · have hge : ¬ ((i : Int) < (m : Int)) ∨ ((i : Int) < (m : Int) ∧ ¬ (i : Int) < 25) := by omega
        clear hlt
        rcases hge with hge | ⟨hge1, hge2⟩
        all_goals
          go_wp2_with fail
          go_meet
          exact ⟨S2, q2, d, t, l, rfl, LR.out⟩
  case rest =>
    obtain ⟨S2, q2, d, t, l, rfl, hsi⟩ := hcut
    have LR := Lib.hid hsi
    clear hsi
    go_wp2_with (go_at_call 7; go_must (refine (sure_any B _).mono ?_; rintro y w8 ⟨rfl, hb8⟩; have HB8 := Lib.hid (LR.out.lt.below.trans (hb8.mono LR.out.lt.size)); clear hb8))
    go_ret
    exact ⟨rfl, HB8.out⟩

end Go.Proofs.YthcikgbnenfjpaaDoor.pk
