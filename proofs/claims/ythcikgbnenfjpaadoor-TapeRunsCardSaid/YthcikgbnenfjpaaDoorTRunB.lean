/-
  The law TapeRuns' own walk: an area that can be read.
-/
import Derived.Test.YthcikgbnenfjpaaDoorTRunA
import Derived.Outline
namespace Go.Proofs.YthcikgbnenfjpaaDoor.pk
open Go Go.RowKit
set_option maxRecDepth 100000

set_option maxHeartbeats 20000000 in
theorem runs_some {Q : ConD → Prop} (C : ConD) (B : ConB Q C) (A A' A'' : Option Addr) (m c m' c' m'' c'' : Nat) (b : List UInt8) (ls : List (List UInt8)) (rs : List Bool) (w : World) (hs : Std w) (h : Sl w w.heap.size (.slice A m c) b)
    (hl : ListsT w (fun k => k < w.heap.size) (.slice A' m' c') ls) (hr : BoolsT w (fun k => k < w.heap.size) (.slice A'' m'' c'') rs) (hl1 : 7 ≤ m) (hl2 : m ≤ 600) (l0 : List (List UInt8)) (k0 : Nat) (hpr : readT (areaT b 1 (m - 2)) = some (l0, k0)) :
    Calls Tryd.prog 4 #[.slice A m c, .slice A' m' c', .slice A'' m'' c''] w fun x w' => x = .returned (.bool true) ∧ Below w.heap.size w w' := by
  obtain ⟨hmb, hmc, hcm⟩ := h.len
  obtain ⟨A1, c1, hv, hmc1, hcm1⟩ := hl.form
  injection hv with e1 e2 e3
  subst e1; subst e3
  obtain ⟨A2, c2, hv, hmc2, hcm2⟩ := hr.form
  injection hv with e4 e5 e6
  subst e4; subst e6
  have HM1 := Lib.hid e2
  have HM2 := Lib.hid e5
  have hmB1 : (m' : Int) ≤ 9223372036854775807 := by omega
  have hmB2 : (m'' : Int) ≤ 9223372036854775807 := by omega
  have HS := Lib.hid hs
  have H := Lib.hid (And.intro h (And.intro hmb (And.intro hmc hcm)))
  have HL := Lib.hid hl
  have HR := Lib.hid hr
  clear hs h hl hr e2 e5 hmb hmc hcm hmc1 hcm1 hmc2 hcm2
  have i1 : ¬ (m : Int) < 7 := by omega
  have i2 : ¬ 600 < (m : Int) := by omega
  have i3 : (m : Int) ≤ 600 := by omega
  have lp := laid_put b
  have lsy := laid_sync b
  rw [← H.out.2.1] at lp lsy
  have LP := Lib.hid lp
  have LS := Lib.hid lsy
  clear lp lsy
  obtain ⟨sz, hsz⟩ : ∃ sz : Nat, m = sz + 2 := ⟨m - 2, by omega⟩
  have msz : (m : Int) - 2 = (sz : Int) := by omega
  have HSZ := Lib.hid (And.intro hsz msz)
  have hc1 : ¬ c = 1 := by have := H.out.2.2.1; omega
  have icc : (m : Int) - 1 ≤ (c : Int) := by have := H.out.2.2.1; omega
  obtain ⟨bb, off, rfl, hbc⟩ := sl_at (T := fun k => k < w.heap.size) H.out.1.toT H.out.2.1.symm (by omega)
  have hblt : bb < w.heap.size := World.block_lt_of_cell? w ⟨bb, off + 0, none⟩ (hbc 0 (by omega))
  have HBC := Lib.hid (And.intro hblt hbc)
  have hslc := fun (W : World) (hW : Below w.heap.size w W) => ((H.out.1.toT.cut (k := 1) (by have := H.out.2.1; omega)).front (k := m - 1 - 1) (by rw [List.length_drop]; have := H.out.2.1; omega)).kept (w' := W) fun k hk _ => hW.block k hk
  rw [show (b.drop 1).take (m - 1 - 1) = areaT b 1 sz by unfold areaT; rw [show m - 1 - 1 = sz by omega]] at hslc
  simp only [if_neg hc1, Option.map_some, Lib.add_plain] at hslc
  have HSLC := Lib.hid hslc
  have hal : (areaT b 1 sz).length = sz := area_len (by rw [← H.out.2.1]; omega)
  have HAL := Lib.hid hal
  obtain ⟨i0, hi, hz0, hz1, hz2⟩ := info_parts info_u8
  clear hsz msz hslc hal hbc hblt
  rw [show m - 2 = sz by have := HSZ.out.1; omega] at hpr
  have hlk := readT_some hpr
  have hrs : Rests (laidD b) 1 sz l0 := ⟨rfl, rfl, by show 1 + sz ≤ b.length; rw [← H.out.2.1]; have := HSZ.out.1; omega, by have := HSZ.out.1; omega, hlk.1⟩
  have HRS := Lib.hid hrs
  have HPR := Lib.hid hpr
  have HK := Lib.hid hlk.2
  have hsz5 : 5 ≤ sz := by have := HSZ.out.1; omega
  clear hpr hlk hrs
  go_enter Tryd.func4, Tryd.ntmps4
  go_upto_region 6 with (first
    | (go_at_call 15; go_must (refine (LenNil_any _).mono ?_; rintro y w9 ⟨rfl, rfl⟩))
    | (go_at_call 16; go_must (refine (RoomNil_any _).mono ?_; rintro y w9 ⟨rfl, rfl⟩))
    | (go_at_call 19; go_must (refine (ResetNil_any _).mono ?_; rintro y w9 ⟨rfl, rfl⟩; rw [er_ne (by decide)]))
    | (go_at_call 18; go_must (refine (AppendNil_any _ _).mono ?_; rintro y w9 ⟨rfl, rfl⟩; rw [er_ne (by decide)]))
    | (go_at_call 12; (refine (num_some 1 wa (HS.out.below HS.out.size BA.out)).mono ?_; rintro y wb ⟨rfl, hbb⟩; have BB := Lib.hid (BA.out.trans (hbb.mono BA.out.size)); clear hbb))
    | (go_at_call 12; go_must (refine (num_some 1 w HS.out).mono ?_; rintro y wa ⟨rfl, hba⟩; have BA := Lib.hid hba; clear hba)))
  go_upto_region 7 with (go_at_call 8; go_must (refine (live_newB B BB.out m (by omega) (by omega) (m : Int) rfl).mono ?_; rintro y w1 ⟨p, S, rfl, h1⟩; have L1 := Lib.hid h1; clear h1))
  have cW := live_write L1.out 0 _ m c b (by unfold inI; omega) (by show 0 < 100000; omega) (L1.out.arg H.out.1)
  rw [LP.out.1, er_zero] at cW
  have CW := Lib.hid cW
  clear cW
  go_upto_region 9 with (first
    | (go_at_call 10; (have cS := live_sync L2.out; rw [LS.out.1, LS.out.2, er_zero] at cS; refine cS.mono ?_; rintro y w3 ⟨S3, rfl, h3, -⟩; have L3 := Lib.hid h3; clear h3 cS))
    | (go_at_call 9; go_must (refine CW.out.mono ?_; rintro y w2 ⟨S2, rfl, h2, -⟩; have L2 := Lib.hid h2; clear h2)))
  go_upto_region 11 with (go_at_call 11; go_must (have cO := live_open L3.out 1 sz HRS.out; rw [← HSZ.out.2] at cO; refine cO.mono ?_; rintro y w4 ⟨q, v, rfl, h4, ho4, -, -, -⟩; obtain ⟨A4, c4, rfl, -, -⟩ := ho4.form; have T4 := Lib.hid h4; have B4 := Lib.hid h4.below; clear h4 ho4 cO))
  go_upto_region 12 with (at_builtin; go_must (refine wpList_append_sl rfl (.tmp 86) (.tmp 91) 22 rfl w4.heap.size 5 i0 _ Tryd.underlying22 hi hz0 hz1 hz2 rfl _ 0 [] rfl (World.ownsRow_nil _ _ _ _) w4.heap.size _ (m - 1 - 1) (c - 1) (areaT b 1 sz) rfl (HSLC.out w4 B4.out).sl (by rw [HAL.out]; have := HSZ.out.1; omega) (Nat.le_refl _) ?_; intro v5 w5 ho5 hg5; rw [Nat.zero_add, List.nil_append, HAL.out] at ho5; have O5 := Lib.hid (And.intro ho5 ((Below.refl w4.heap.size w4).grown hg5 (Nat.le_refl _) (fun k hk => by cases hk))); clear ho5 hg5))
  obtain ⟨g5, cap5, rfl, -⟩ := row_form O5.out.1 (by omega)
  have T5 := Lib.hid (T4.out.more O5.out.2)
  have hby5 : Beside S3 q (.slice (some ⟨g5, 0, none⟩) sz cap5) := fun k hk hs => by
    have h1 := (O5.out.1.lt k hk).1
    have h2 := T4.out.tp.sq_lt k hs
    omega
  have HBY := Lib.hid hby5
  clear hby5
  go_upto_region 13 with (go_at_call 13; go_must (refine (Records_any (fun _ => True) _ sz _ (areaT b 1 sz) w5 (SlT.named_ O5.out.1 HAL.out) (by have := HSZ.out.1; omega)).mono ?_; rintro y w6 ⟨hb6, hm⟩; rw [HPR.out] at hm; obtain ⟨v6, rfl, ho6⟩ := hm; obtain ⟨A6, c6, rfl, -, -⟩ := ho6.form; have B6 := Lib.hid hb6; clear hb6 ho6))
  go_upto_region 17 with (go_at_call 12; go_must (refine (num_none w6).mono ?_; rintro y w7 ⟨rfl, hb7⟩; have B7 := Lib.hid (B6.out.trans (hb7.mono B6.out.size)); clear hb7))
  have I7 := Lib.hid (show RunsI C w w7 S3 q p (.slice (some ⟨g5, 0, none⟩) sz cap5) sz m b (laidD b) (openT 1 sz l0) l0 from
    ⟨T5.out.more B7.out, HRS.out.state, rfl, rfl, by show (-1 : Int) < 0; omega, own_base (own_block O5.out.1 fun g hg => B7.out.block g (O5.out.1.lt g hg).2) B4.out.size, HBY.out, H.out.2.1.symm, rfl, rfl⟩)
  go_upto_block 0 with fail
  go_cut [13] (fun _ W => Below w.heap.size w W)
  case first =>
    go_wp2_with fail
    go_loopw [13, 15, 17, 18] (fun v e n ii wr => ∃ (i : Nat) (S2 : Nat → Prop) (g cap : Nat) (d : Dk) (t : Tm) (l : List (List UInt8)), i ≤ 20 ∧ i ≤ m' ∧ ii = .int .i64 (i : Int) ∧ v = .slice (some ⟨g, 0, none⟩) sz cap ∧ e = .int .i64 (t.fin : Int) ∧ n = .int .i64 (t.n : Int) ∧ RunsI C w wr S2 q p v sz m b d t l) (fun _ _ _ ii _ => 20 - (intOf ii).toNat)
    case atStart => exact ⟨0, S3, g5, cap5, laidD b, openT 1 sz l0, l0, by omega, by omega, rfl, rfl, by rw [HK.out]; rfl, rfl, I7.out⟩
    case round =>
      obtain ⟨i, S3', g3, cap3, d3, t3, l3, hi, him, rfl, rfl, rfl, rfl, hri⟩ := hrel
      have I3 := Lib.hid hri
      clear hri
      by_cases hlt : i < m' ∧ i < 20
      · obtain ⟨hlt1, hlt2⟩ := hlt
        obtain ⟨bl, ol, Ai, ci, rfl, hb, hcell, hsl⟩ := HL.out.at_ i (by have := HM1.out; omega)
        obtain ⟨x, hx⟩ : ∃ x, x = ls[i]'(by have := HM1.out; omega) := ⟨_, rfl⟩
        rw [← hx] at hcell hsl
        obtain ⟨lx, hlx⟩ : ∃ lx, lx = x.length := ⟨_, rfl⟩
        rw [← hlx] at hcell hsl
        have hq := (I3.out.lt.below.cell (p := ⟨bl, ol + i, none⟩) hb).trans hcell
        have HC := Lib.hid (And.intro hb (And.intro hcell (And.intro hsl hlx)))
        have i1' : (i : Int) < (m' : Int) := by omega
        have i2' : (i : Int) < 20 := by omega
        have i0' : (0 : Int) ≤ (i : Int) := by omega
        clear hb hcell hsl hx hlx
        by_cases hbig : 1000 < lx
        · have i3' : 1000 < (lx : Int) := by omega
          go_wp2_with fail
          go_roundw
          case rel => exact ⟨i + 1, S3', g3, cap3, d3, t3, l3, by omega, by omega, by go_num, rfl, rfl, rfl, I3.out⟩
          case measure => simp [intOf]; omega
        · have i3' : ¬ 1000 < (lx : Int) := by omega
          have i4' : (lx : Int) ≤ 1000 := by omega
          by_cases hre : ∃ h : i < rs.length, rs[i] = true
          · obtain ⟨hi2, hrb⟩ := hre
            have hin : i < m'' := by have := HM2.out; omega
            obtain ⟨-, -, -, bs, os, rfl, hbs, hcs⟩ := HR.out.at_ (by have := HM2.out; omega)
            have hg1 : (i : Int) < (m'' : Int) := by omega
            have hg2 := (I3.out.lt.below.cell (p := ⟨bs, os + i, none⟩) hbs).trans (hcs i (.bool true) (by rw [List.getElem?_map, List.getElem?_eq_getElem hi2, hrb]; rfl))
            have ap := reset_calm I3.out.st I3.out.arm
            have cS := lt_reset I3.out.lt I3.out.st
            rw [ap.1, er_zero] at cS
            have CS := Lib.hid cS
            clear ap cS hbs hcs hi2 hrb
            go_upto_region 25 with (go_at_call 19; go_must (refine CS.out.mono ?_; rintro y w4 ⟨S4', rfl, h4, ht4⟩; have T4 := Lib.hid (And.intro h4 (And.intro (I3.out.rowT ht4) (I3.out.besideT ht4))); clear h4 ht4))
            have hAl : (areaT d3.B 1 sz).length = sz := by have := area_len I3.out.st.inside; rw [I3.out.at0, I3.out.len] at this; exact this
            have hstd := T4.out.2.1.stored 0 (.int .u8 (((0 : UInt8).toNat : Nat) : Int))
            rw [byteCells_set, show (((0 : UInt8).toNat : Nat) : Int) = 0 from rfl] at hstd
            have HSTD := Lib.hid hstd
            have cx := T4.out.2.1.cellAt 0 (by omega)
            rw [byteCells_get, List.getElem?_eq_getElem (by omega)] at cx
            obtain ⟨z0, cz⟩ : ∃ z0, w4.cell? ⟨g3, 0, none⟩ = some z0 := ⟨_, cx⟩
            have cf := T4.out.2.1.frozenAt 0
            have s0 : 0 < sz := by omega
            have s0' : (0 : Int) < (sz : Int) := by omega
            clear hstd cx hAl hq
            go_upto_region 26 with fail
            clear cz cf hg1 hg2
            have hI := I3.out.reset_ HSZ.out.1 hsz5 (T4.out.1.grown (Below.refl _ _) (grown_set (w := w4) (g := g3) (j := 0) (.int .u8 0)) (fun k hk => by injection hk with hk; subst hk; exact ⟨T4.out.2.2 _ rfl, (T4.out.2.1.lt _ rfl).1⟩)) HSTD.out.1 T4.out.2.2
            obtain ⟨w3r, hw3⟩ : ∃ w3r, w3r = w4.setCell ⟨g3, 0, none⟩ (.int .u8 0) := ⟨_, rfl⟩
            rw [← hw3] at hI ⊢
            obtain ⟨dr3, hd3⟩ : ∃ x, x = (resS d3 t3).1 := ⟨_, rfl⟩
            obtain ⟨tr3, ht3⟩ : ∃ x, x = resT t3 0 := ⟨_, rfl⟩
            have H30 := Lib.hid (show tr3.fin = 0 ∧ tr3.n = 0 by rw [ht3]; exact ⟨rfl, rfl⟩)
            rw [← hd3, ← ht3] at hI
            have IR := Lib.hid hI
            clear hI hw3 hd3 ht3
            have hq3 := (IR.out.lt.below.cell (p := ⟨bl, ol + i, none⟩) HC.out.1).trans HC.out.2.1
            have hf3 := IR.out.st.fits
            rw [IR.out.len] at hf3
            by_cases hfit : tr3.fin + 5 + lx ≤ sz
            · as_aux_lemma =>
                have ap := append_calm IR.out.st IR.out.arm (b := x) (by rw [IR.out.len, ← HC.out.2.2.2]; exact hfit) (by rw [← HC.out.2.2.2]; omega)
                have cA := lt_append IR.out.lt IR.out.st Ai lx ci x (by rw [← HC.out.2.2.2]; omega) (by rw [IR.out.len, ← HC.out.2.2.2]; exact hfit) (HC.out.2.2.1.kept fun k hk _ => IR.out.lt.below.block k hk)
                rw [ap.1, er_zero] at cA
                have CA := Lib.hid cA
                have HFIT := Lib.hid (show tr3.fin + 5 + x.length ≤ sz by rw [← HC.out.2.2.2]; exact hfit)
                clear ap cA
                go_upto_region 27 with (go_at_call 18; go_must (refine CA.out.mono ?_; rintro y w4 ⟨S4, rfl, h4, ht4⟩; have T4 := Lib.hid (And.intro h4 (And.intro (IR.out.rowT ht4) (IR.out.besideT ht4))); clear h4 ht4))
                have hAl : (areaT dr3.B 1 sz).length = sz := by have := area_len IR.out.st.inside; rw [IR.out.at0, IR.out.len] at this; exact this
                have cR := AppendR_any (some ⟨g3, 0, none⟩) sz cap3 (areaT dr3.B 1 sz) tr3.fin Ai lx ci x w4 (SlT.named_ T4.out.2.1 hAl).sl ((HC.out.2.2.1.kept fun k hk _ => T4.out.1.below.block k hk).sl) (by have := HSZ.out.1; omega) (by omega) hfit
                rw [show ((tr3.fin : Nat) : Int) = 0 by rw [H30.out.1]; rfl] at cR
                have CR := Lib.hid cR
                clear cR hAl hq3
                have hq3 := (T4.out.1.below.cell (p := ⟨bl, ol + i, none⟩) HC.out.1).trans HC.out.2.1
                go_upto_region 28 with (go_at_call 20; go_must (refine CR.out.mono ?_; rintro y w5 ⟨v5, rfl, ho5, hb5⟩; have O5 := Lib.hid (And.intro ho5 hb5); obtain ⟨g6, cap6, rfl, -⟩ := row_form ho5 (by omega); clear ho5 hb5))
                go_upto_region 31 with (go_at_call 12; go_must (refine (num_none w5).mono ?_; rintro y w6 ⟨rfl, hb6⟩; have B6 := Lib.hid hb6; clear hb6))
                have hI6 : ∀ W, Below w6.heap.size w6 W → RunsI C w W S4 q p (.slice (some ⟨g6, 0, none⟩) sz cap6) sz m b (appS dr3 tr3 x).1 (appT tr3 x 0) ([] ++ [x]) := fun W hW => by
                  have hb46 := O5.out.2.trans (B6.out.mono O5.out.2.size)
                  have hb4W := hb46.trans (hW.mono hb46.size)
                  refine IR.out.appended HSZ.out.1 HFIT.out (by rw [← HC.out.2.2.2]; omega) (T4.out.1.more hb4W) (own_base (own_block O5.out.1 fun g hg => (B6.out.trans (hW.mono B6.out.size)).block g (O5.out.1.lt g hg).2) T4.out.1.size) (fun k hk hs => ?_)
                  have h1 := (O5.out.1.lt k hk).1
                  have h2 := T4.out.1.tp.sq_lt k hs
                  omega
                have HI6 := Lib.hid hI6
                clear hI6 hq3
                have hq6 := (T4.out.1.below.trans ((O5.out.2.trans (B6.out.mono O5.out.2.size)).mono T4.out.1.size)).cell (p := ⟨bl, ol + i, none⟩) HC.out.1 |>.trans HC.out.2.1
                have u2 : IntKind.i64.wrap (5 + (lx : Int)) = 5 + (lx : Int) := IntWalk.i64_in _ (by omega)
                go_quiet (fail)
                clear u2 hq6
                have I6 := Lib.hid (HI6.out _ (Below.drawn (Below.refl w6.heap.size w6) nq))
                obtain ⟨w6', hw6⟩ : ∃ w6', w6' = w6.drewN nq := ⟨_, rfl⟩
                rw [← hw6] at I6 ⊢
                obtain ⟨d6, hd6⟩ : ∃ d6, d6 = (appS dr3 tr3 x).1 := ⟨_, rfl⟩
                obtain ⟨t6, ht6⟩ : ∃ t6, t6 = appT tr3 x 0 := ⟨_, rfl⟩
                obtain ⟨l6, hl6⟩ : ∃ l6, l6 = [] ++ [x] := ⟨_, rfl⟩
                obtain ⟨S6, hS6⟩ : ∃ S6, S6 = S4 := ⟨_, rfl⟩
                have HF6 := Lib.hid (show (t6.fin : Int) = 5 + (lx : Int) by rw [ht6]; show ((tr3.fin + 5 + x.length : Nat) : Int) = _; rw [← HC.out.2.2.2]; have := H30.out.1; have := H30.out.2; omega)
                have HN6 := Lib.hid (show (t6.n : Int) = 1 by rw [ht6]; show ((tr3.n + 1 : Nat) : Int) = _; have := H30.out.1; have := H30.out.2; omega)
                rw [← hd6, ← ht6, ← hl6, ← hS6] at I6
                clear hd6 ht6 hl6 hw6 hS6
                have hrd := I6.out.read
                have cRd := live_read I6.out.lt.live 0 (m : Int) (by unfold inI; omega) (by unfold inI; omega)
                rw [hrd.1, hrd.2, er_zero] at cRd
                have CRD := Lib.hid cRd
                clear hrd cRd
                go_upto_region 33 with (go_at_call 21; go_must (refine CRD.out.mono ?_; rintro y w7 ⟨v7, rfl, h7, -, hb7⟩; obtain ⟨A7, c7, rfl, hc71, hc72, h7⟩ := h7.named I6.out.dB.symm; obtain ⟨b7, o7, rfl, hcs7⟩ := sl_at h7 I6.out.dB (by omega); have I7 := Lib.hid (I6.out.more hb7); have R7 := Lib.hid (And.intro h7 hcs7); have HC7 := Lib.hid (And.intro hc71 hc72); clear h7 hcs7 hb7 hc71 hc72))
                obtain ⟨y0, hy0⟩ : ∃ y0, y0 = (b.getD 0 0).toNat := ⟨_, rfl⟩
                obtain ⟨y1, hy1⟩ : ∃ y1, y1 = (b.getD (m - 1) 0).toNat := ⟨_, rfl⟩
                have a0 : w7.cell? ⟨b7, o7, none⟩ = some (.int .u8 (y0 : Int)) := by have := R7.out.2 0 (by omega); rw [I7.out.e0, ← hy0] at this; exact this
                have a1 : w7.cell? ⟨b7, o7 + (m - 1), none⟩ = some (.int .u8 (y1 : Int)) := by have := R7.out.2 (m - 1) (by omega); rw [I7.out.e1, ← hy1] at this; exact this
                have a2 : w7.cell? ⟨bb, off, none⟩ = some (.int .u8 (y0 : Int)) := (I7.out.lt.below.cell (p := ⟨bb, off, none⟩) HBC.out.1).trans (by have := HBC.out.2 0 (by omega); rw [← hy0] at this; exact this)
                have a3 : w7.cell? ⟨bb, off + (m - 1), none⟩ = some (.int .u8 (y1 : Int)) := (I7.out.lt.below.cell (p := ⟨bb, off + (m - 1), none⟩) HBC.out.1).trans (by have := HBC.out.2 (m - 1) (by omega); rw [← hy1] at this; exact this)
                have f0 := cell_regrown a0
                have f1 := cell_regrown a1
                have f2 := cell_regrown a2
                have f3 := cell_regrown a3
                obtain ⟨Y, hY⟩ : ∃ Y, Y = areaT d6.B 1 sz := ⟨_, rfl⟩
                have hYl : Y.length = sz := by rw [hY]; have := area_len I7.out.st.inside; rw [I7.out.at0, I7.out.len] at this; exact this
                have hnow : Sl w7 w7.heap.size (.slice (some ⟨g6, 0, none⟩) sz cap6) Y := by
                  have h1 := I7.out.row
                  rw [← hY] at h1
                  exact (SlT.named_ h1 hYl).sl
                have hc71 : ¬ c7 = 1 := by have := HC7.out.1; omega
                have hall : Sl w7 w7.heap.size (.slice (some ⟨b7, o7 + 1, none⟩) (m - 1 - 1) (c7 - 1)) Y := by
                  have h1 := (R7.out.1.cut (k := 1) (by have := I7.out.dB; omega)).front (k := m - 1 - 1) (by rw [List.length_drop]; have := I7.out.dB; omega)
                  rw [show (d6.B.drop 1).take (m - 1 - 1) = Y by rw [hY]; unfold areaT; rw [show m - 1 - 1 = sz by have := HSZ.out.1; omega]] at h1
                  simp only [if_neg hc71, Option.map_some, Lib.add_plain] at h1
                  exact h1.sl
                have HNOW := Lib.hid hnow
                have HALL := Lib.hid hall
                have v1 := fun d os => conv_bytes (HALL.out.below (below_regrown w7 d os))
                have v2 := fun d os => conv_bytes (HNOW.out.below (below_regrown w7 d os))
                obtain ⟨rz, hrz⟩ : ∃ rz, rz = roomZ ((t6.len : Int) - t6.fin) := ⟨_, rfl⟩
                have cLn : ∀ d os, Calls Tryd.prog 15 #[.pointer (some ⟨q, 0, none⟩)] (Sort.grow (redrawn w7 d) os) fun e w'' => e = .returned (.int .i64 (1)) ∧ ∃ p : Regrown, w'' = Sort.grow (redrawn w7 p.d) p.os :=
                  fun d os => Calls.regrown_of ((lt_len (I7.out.lt.more (below_regrown w7 d os))).mono fun _ _ ⟨hy, hw⟩ => ⟨by rw [hy, HN6.out], by subst hw; exact Below.refl _ _⟩)
                have cRm : ∀ d os, Calls Tryd.prog 16 #[.pointer (some ⟨q, 0, none⟩)] (Sort.grow (redrawn w7 d) os) fun e w'' => e = .returned (.int .i64 rz) ∧ ∃ p : Regrown, w'' = Sort.grow (redrawn w7 p.d) p.os :=
                  fun d os => Calls.regrown_of ((lt_room (I7.out.lt.more (below_regrown w7 d os))).mono fun _ _ ⟨hy, _, hb⟩ => ⟨by rw [hrz]; exact hy, hb⟩)
                have hfz := I7.out.st.fits
                have hlz := I7.out.len
                have cRR : ∀ d os, Calls Tryd.prog 17 #[.int .i64 (sz : Int), .int .i64 (5 + (lx : Int))] (Sort.grow (redrawn w7 d) os) fun e w'' => e = .returned (.int .i64 rz) ∧ ∃ p : Regrown, w'' = Sort.grow (redrawn w7 p.d) p.os :=
                  fun d os => Calls.regrown_of ((RoomR_any (sz : Int) (5 + (lx : Int)) _ (by omega) (by have := HSZ.out.1; omega) (by have := HF6.out; omega) (by have := HF6.out; have := HSZ.out.1; omega)).mono fun _ _ ⟨hy, hw⟩ => ⟨by rw [hy, hrz, hlz, HF6.out], by subst hw; exact Below.refl _ _⟩)
                have s1 : IntKind.i64.wrap ((m : Int) - 1) = (m : Int) - 1 := IntWalk.i64_in _ (by omega)
                have s2 : ((m : Int) - 1).toNat = m - 1 := by omega
                have s3 : 0 ≤ (m : Int) - 1 := by omega
                have s4 : (m : Int) - 1 < (m : Int) := by omega
                have s5 : (m : Int) - 1 ≤ (c7 : Int) := by have := HC7.out.1; omega
                have s6 : 1 ≤ (m : Int) - 1 := by omega
                have s7 : (0 : Int) < (m : Int) := by omega
                have s8 : 0 < m := by omega
                have HRZ := Lib.hid (And.intro hrz (And.intro hfz hlz))
                clear a0 a1 a2 a3 hy0 hy1 hY hYl hnow hall hrz hfz hlz
                refine wp_region_quiet_below (by kernel_rfl) (by kernel_rfl) ?_
                repeat (go_big_quiet_step (first | exact cLn _ _ | exact cRm _ _ | exact cRR _ _))
                refine wpQuiet_nil ?_
                intro _ hw'
                obtain ⟨⟨dr, osr⟩, hw''⟩ := hw'
                subst hw''
                obtain ⟨w8, hw8⟩ : ∃ w8, w8 = Sort.grow (redrawn w7 dr) osr := ⟨_, rfl⟩
                have I8 := Lib.hid (I7.out.more (show Below w7.heap.size w7 w8 by rw [hw8]; exact below_regrown w7 dr osr))
                rw [← hw8]
                clear hw8 f0 f1 f2 f3 v1 v2 cLn cRm cRR s1 s2 s3 s4 s5 s6 s7 s8
                go_wp2_with fail
                go_roundw
                case rel => exact ⟨i + 1, S6, g6, cap6, d6, t6, l6, by omega, by omega, by go_num, rfl, by rw [HF6.out], by rw [HN6.out], I8.out⟩
                case measure => simp [intOf]; omega
            · as_aux_lemma =>
                have CF := Lib.hid (lt_full IR.out.lt IR.out.st Ai lx ci (by omega) (by rw [IR.out.len]; omega))
                have hE : er 10 = .iface 58 (.int .i64 10) := rfl
                rw [hE] at CF
                go_upto_region 27 with (go_at_call 18; go_must (refine CF.out.mono ?_; rintro y w4 ⟨rfl, -, hb4⟩; have I4 := Lib.hid (IR.out.more hb4); clear hb4))
                clear hE hq3
                have hq3 := (I4.out.lt.below.cell (p := ⟨bl, ol + i, none⟩) HC.out.1).trans HC.out.2.1
                have cR := AppendR_full (some ⟨g3, 0, none⟩) sz cap3 tr3.fin Ai lx ci w4 (by have := HSZ.out.1; omega) (by have := HSZ.out.1; omega) (by omega) (by unfold roomZ; split <;> omega)
                rw [show ((tr3.fin : Nat) : Int) = 0 by rw [H30.out.1]; rfl] at cR
                have CR := Lib.hid cR
                clear cR
                go_upto_region 28 with (go_at_call 20; go_must (refine CR.out.mono ?_; rintro y w5 ⟨rfl, rfl⟩))
                go_upto_region 32 with (go_at_call 12; go_must (refine (num_some 10 w4 (HS.out.below HS.out.size I4.out.lt.below)).mono ?_; rintro y w6 ⟨rfl, hb6⟩; have I6 := Lib.hid (I4.out.more hb6); clear hb6))
                clear hq3
                obtain ⟨d6, hd6⟩ : ∃ d6, d6 = dr3 := ⟨_, rfl⟩
                obtain ⟨t6, ht6⟩ : ∃ t6, t6 = tr3 := ⟨_, rfl⟩
                obtain ⟨l6, hl6⟩ : ∃ l6, l6 = ([] : List (List UInt8)) := ⟨_, rfl⟩
                obtain ⟨S6, hS6⟩ : ∃ S6, S6 = S4' := ⟨_, rfl⟩
                obtain ⟨g6, hg6⟩ : ∃ g6, g6 = g3 := ⟨_, rfl⟩
                obtain ⟨cap6, hcap6⟩ : ∃ cap6, cap6 = cap3 := ⟨_, rfl⟩
                have HF6 := Lib.hid (show (t6.fin : Int) = 0 by rw [ht6, H30.out.1]; rfl)
                have HN6 := Lib.hid (show (t6.n : Int) = 0 by rw [ht6, H30.out.2]; rfl)
                rw [← hd6, ← ht6, ← hl6, ← hS6, ← hg6, ← hcap6] at I6
                rw [← hg6, ← hcap6]
                clear hd6 ht6 hl6 hS6 hg6 hcap6
                have hrd := I6.out.read
                have cRd := live_read I6.out.lt.live 0 (m : Int) (by unfold inI; omega) (by unfold inI; omega)
                rw [hrd.1, hrd.2, er_zero] at cRd
                have CRD := Lib.hid cRd
                clear hrd cRd
                go_upto_region 33 with (go_at_call 21; go_must (refine CRD.out.mono ?_; rintro y w7 ⟨v7, rfl, h7, -, hb7⟩; obtain ⟨A7, c7, rfl, hc71, hc72, h7⟩ := h7.named I6.out.dB.symm; obtain ⟨b7, o7, rfl, hcs7⟩ := sl_at h7 I6.out.dB (by omega); have I7 := Lib.hid (I6.out.more hb7); have R7 := Lib.hid (And.intro h7 hcs7); have HC7 := Lib.hid (And.intro hc71 hc72); clear h7 hcs7 hb7 hc71 hc72))
                obtain ⟨y0, hy0⟩ : ∃ y0, y0 = (b.getD 0 0).toNat := ⟨_, rfl⟩
                obtain ⟨y1, hy1⟩ : ∃ y1, y1 = (b.getD (m - 1) 0).toNat := ⟨_, rfl⟩
                have a0 : w7.cell? ⟨b7, o7, none⟩ = some (.int .u8 (y0 : Int)) := by have := R7.out.2 0 (by omega); rw [I7.out.e0, ← hy0] at this; exact this
                have a1 : w7.cell? ⟨b7, o7 + (m - 1), none⟩ = some (.int .u8 (y1 : Int)) := by have := R7.out.2 (m - 1) (by omega); rw [I7.out.e1, ← hy1] at this; exact this
                have a2 : w7.cell? ⟨bb, off, none⟩ = some (.int .u8 (y0 : Int)) := (I7.out.lt.below.cell (p := ⟨bb, off, none⟩) HBC.out.1).trans (by have := HBC.out.2 0 (by omega); rw [← hy0] at this; exact this)
                have a3 : w7.cell? ⟨bb, off + (m - 1), none⟩ = some (.int .u8 (y1 : Int)) := (I7.out.lt.below.cell (p := ⟨bb, off + (m - 1), none⟩) HBC.out.1).trans (by have := HBC.out.2 (m - 1) (by omega); rw [← hy1] at this; exact this)
                have f0 := cell_regrown a0
                have f1 := cell_regrown a1
                have f2 := cell_regrown a2
                have f3 := cell_regrown a3
                obtain ⟨Y, hY⟩ : ∃ Y, Y = areaT d6.B 1 sz := ⟨_, rfl⟩
                have hYl : Y.length = sz := by rw [hY]; have := area_len I7.out.st.inside; rw [I7.out.at0, I7.out.len] at this; exact this
                have hnow : Sl w7 w7.heap.size (.slice (some ⟨g6, 0, none⟩) sz cap6) Y := by
                  have h1 := I7.out.row
                  rw [← hY] at h1
                  exact (SlT.named_ h1 hYl).sl
                have hc71 : ¬ c7 = 1 := by have := HC7.out.1; omega
                have hall : Sl w7 w7.heap.size (.slice (some ⟨b7, o7 + 1, none⟩) (m - 1 - 1) (c7 - 1)) Y := by
                  have h1 := (R7.out.1.cut (k := 1) (by have := I7.out.dB; omega)).front (k := m - 1 - 1) (by rw [List.length_drop]; have := I7.out.dB; omega)
                  rw [show (d6.B.drop 1).take (m - 1 - 1) = Y by rw [hY]; unfold areaT; rw [show m - 1 - 1 = sz by have := HSZ.out.1; omega]] at h1
                  simp only [if_neg hc71, Option.map_some, Lib.add_plain] at h1
                  exact h1.sl
                have HNOW := Lib.hid hnow
                have HALL := Lib.hid hall
                have v1 := fun d os => conv_bytes (HALL.out.below (below_regrown w7 d os))
                have v2 := fun d os => conv_bytes (HNOW.out.below (below_regrown w7 d os))
                obtain ⟨rz, hrz⟩ : ∃ rz, rz = roomZ ((t6.len : Int) - t6.fin) := ⟨_, rfl⟩
                have cLn : ∀ d os, Calls Tryd.prog 15 #[.pointer (some ⟨q, 0, none⟩)] (Sort.grow (redrawn w7 d) os) fun e w'' => e = .returned (.int .i64 (0)) ∧ ∃ p : Regrown, w'' = Sort.grow (redrawn w7 p.d) p.os :=
                  fun d os => Calls.regrown_of ((lt_len (I7.out.lt.more (below_regrown w7 d os))).mono fun _ _ ⟨hy, hw⟩ => ⟨by rw [hy, HN6.out], by subst hw; exact Below.refl _ _⟩)
                have cRm : ∀ d os, Calls Tryd.prog 16 #[.pointer (some ⟨q, 0, none⟩)] (Sort.grow (redrawn w7 d) os) fun e w'' => e = .returned (.int .i64 rz) ∧ ∃ p : Regrown, w'' = Sort.grow (redrawn w7 p.d) p.os :=
                  fun d os => Calls.regrown_of ((lt_room (I7.out.lt.more (below_regrown w7 d os))).mono fun _ _ ⟨hy, _, hb⟩ => ⟨by rw [hrz]; exact hy, hb⟩)
                have hfz := I7.out.st.fits
                have hlz := I7.out.len
                have cRR : ∀ d os, Calls Tryd.prog 17 #[.int .i64 (sz : Int), .int .i64 (0)] (Sort.grow (redrawn w7 d) os) fun e w'' => e = .returned (.int .i64 rz) ∧ ∃ p : Regrown, w'' = Sort.grow (redrawn w7 p.d) p.os :=
                  fun d os => Calls.regrown_of ((RoomR_any (sz : Int) (0) _ (by omega) (by have := HSZ.out.1; omega) (by have := HF6.out; omega) (by have := HF6.out; have := HSZ.out.1; omega)).mono fun _ _ ⟨hy, hw⟩ => ⟨by rw [hy, hrz, hlz, HF6.out], by subst hw; exact Below.refl _ _⟩)
                have s1 : IntKind.i64.wrap ((m : Int) - 1) = (m : Int) - 1 := IntWalk.i64_in _ (by omega)
                have s2 : ((m : Int) - 1).toNat = m - 1 := by omega
                have s3 : 0 ≤ (m : Int) - 1 := by omega
                have s4 : (m : Int) - 1 < (m : Int) := by omega
                have s5 : (m : Int) - 1 ≤ (c7 : Int) := by have := HC7.out.1; omega
                have s6 : 1 ≤ (m : Int) - 1 := by omega
                have s7 : (0 : Int) < (m : Int) := by omega
                have s8 : 0 < m := by omega
                have HRZ := Lib.hid (And.intro hrz (And.intro hfz hlz))
                clear a0 a1 a2 a3 hy0 hy1 hY hYl hnow hall hrz hfz hlz
                refine wp_region_quiet_below (by kernel_rfl) (by kernel_rfl) ?_
                repeat (go_big_quiet_step (first | exact cLn _ _ | exact cRm _ _ | exact cRR _ _))
                refine wpQuiet_nil ?_
                intro _ hw'
                obtain ⟨⟨dr, osr⟩, hw''⟩ := hw'
                subst hw''
                obtain ⟨w8, hw8⟩ : ∃ w8, w8 = Sort.grow (redrawn w7 dr) osr := ⟨_, rfl⟩
                have I8 := Lib.hid (I7.out.more (show Below w7.heap.size w7 w8 by rw [hw8]; exact below_regrown w7 dr osr))
                rw [← hw8]
                clear hw8 f0 f1 f2 f3 v1 v2 cLn cRm cRR s1 s2 s3 s4 s5 s6 s7 s8
                go_wp2_with fail
                go_roundw
                case rel => exact ⟨i + 1, S6, g6, cap6, d6, t6, l6, by omega, by omega, by go_num, rfl, by rw [HF6.out], by rw [HN6.out], I8.out⟩
                case measure => simp [intOf]; omega
          · obtain ⟨S3, hS3⟩ : ∃ S3, S3 = S3' := ⟨_, rfl⟩
            rw [← hS3] at I3
            clear hS3
            have hor : ¬ (i : Int) < (m'' : Int) ∨ ((i : Int) < (m'' : Int) ∧ ∃ bs os, A'' = some ⟨bs, os, none⟩ ∧ wr.cell? ⟨bs, os + i, none⟩ = some (.bool false)) := by
              by_cases hin : i < m''
              · obtain ⟨-, -, -, bs, os, e, hbs, hcs⟩ := HR.out.at_ (by have := HM2.out; omega)
                refine Or.inr ⟨by omega, bs, os, e, (I3.out.lt.below.cell (p := ⟨bs, os + i, none⟩) hbs).trans (hcs i (.bool false) ?_)⟩
                have hi2 : i < rs.length := by have := HM2.out; omega
                rw [List.getElem?_map, List.getElem?_eq_getElem hi2]
                cases hrb : rs[i] with
                | false => rfl
                | true => exact absurd ⟨hi2, hrb⟩ hre
              · exact Or.inl (by omega)
            clear hre
            rcases hor with hg1 | ⟨hg1, bs, os, rfl, hg2⟩
            all_goals
              go_upto_region 26 with fail
              clear hq
              have hq3 := (I3.out.lt.below.cell (p := ⟨bl, ol + i, none⟩) HC.out.1).trans HC.out.2.1
              have hf3 := I3.out.st.fits
              rw [I3.out.len] at hf3
              by_cases hfit : t3.fin + 5 + lx ≤ sz
              · as_aux_lemma =>
                  have ap := append_calm I3.out.st I3.out.arm (b := x) (by rw [I3.out.len, ← HC.out.2.2.2]; exact hfit) (by rw [← HC.out.2.2.2]; omega)
                  have cA := lt_append I3.out.lt I3.out.st Ai lx ci x (by rw [← HC.out.2.2.2]; omega) (by rw [I3.out.len, ← HC.out.2.2.2]; exact hfit) (HC.out.2.2.1.kept fun k hk _ => I3.out.lt.below.block k hk)
                  rw [ap.1, er_zero] at cA
                  have CA := Lib.hid cA
                  have HFIT := Lib.hid (show t3.fin + 5 + x.length ≤ sz by rw [← HC.out.2.2.2]; exact hfit)
                  clear ap cA
                  go_upto_region 27 with (go_at_call 18; go_must (refine CA.out.mono ?_; rintro y w4 ⟨S4, rfl, h4, ht4⟩; have T4 := Lib.hid (And.intro h4 (And.intro (I3.out.rowT ht4) (I3.out.besideT ht4))); clear h4 ht4))
                  have hAl : (areaT d3.B 1 sz).length = sz := by have := area_len I3.out.st.inside; rw [I3.out.at0, I3.out.len] at this; exact this
                  have cR := AppendR_any (some ⟨g3, 0, none⟩) sz cap3 (areaT d3.B 1 sz) t3.fin Ai lx ci x w4 (SlT.named_ T4.out.2.1 hAl).sl ((HC.out.2.2.1.kept fun k hk _ => T4.out.1.below.block k hk).sl) (by have := HSZ.out.1; omega) (by omega) hfit
                  have CR := Lib.hid cR
                  clear cR hAl hq3
                  have hq3 := (T4.out.1.below.cell (p := ⟨bl, ol + i, none⟩) HC.out.1).trans HC.out.2.1
                  go_upto_region 28 with (go_at_call 20; go_must (refine CR.out.mono ?_; rintro y w5 ⟨v5, rfl, ho5, hb5⟩; have O5 := Lib.hid (And.intro ho5 hb5); obtain ⟨g6, cap6, rfl, -⟩ := row_form ho5 (by omega); clear ho5 hb5))
                  go_upto_region 31 with (go_at_call 12; go_must (refine (num_none w5).mono ?_; rintro y w6 ⟨rfl, hb6⟩; have B6 := Lib.hid hb6; clear hb6))
                  have hI6 : ∀ W, Below w6.heap.size w6 W → RunsI C w W S4 q p (.slice (some ⟨g6, 0, none⟩) sz cap6) sz m b (appS d3 t3 x).1 (appT t3 x 0) (l3 ++ [x]) := fun W hW => by
                    have hb46 := O5.out.2.trans (B6.out.mono O5.out.2.size)
                    have hb4W := hb46.trans (hW.mono hb46.size)
                    refine I3.out.appended HSZ.out.1 HFIT.out (by rw [← HC.out.2.2.2]; omega) (T4.out.1.more hb4W) (own_base (own_block O5.out.1 fun g hg => (B6.out.trans (hW.mono B6.out.size)).block g (O5.out.1.lt g hg).2) T4.out.1.size) (fun k hk hs => ?_)
                    have h1 := (O5.out.1.lt k hk).1
                    have h2 := T4.out.1.tp.sq_lt k hs
                    omega
                  have HI6 := Lib.hid hI6
                  clear hI6 hq3
                  have hq6 := (T4.out.1.below.trans ((O5.out.2.trans (B6.out.mono O5.out.2.size)).mono T4.out.1.size)).cell (p := ⟨bl, ol + i, none⟩) HC.out.1 |>.trans HC.out.2.1
                  have u1 : IntKind.i64.wrap ((t3.fin : Int) + 5) = (t3.fin : Int) + 5 := IntWalk.i64_in _ (by have := HSZ.out.1; omega)
                  have u2 : IntKind.i64.wrap ((t3.fin : Int) + 5 + (lx : Int)) = (t3.fin : Int) + 5 + (lx : Int) := IntWalk.i64_in _ (by have := HSZ.out.1; omega)
                  have hn3 := I3.out.lt.tp.num
                  have u3 : IntKind.i64.wrap ((t3.n : Int) + 1) = (t3.n : Int) + 1 := IntWalk.i64_in _ (by have := HSZ.out.1; omega)
                  go_quiet (fail)
                  clear u1 u2 u3 hq6 hn3
                  have I6 := Lib.hid (HI6.out _ (Below.drawn (Below.refl w6.heap.size w6) nq))
                  obtain ⟨w6', hw6⟩ : ∃ w6', w6' = w6.drewN nq := ⟨_, rfl⟩
                  rw [← hw6] at I6 ⊢
                  obtain ⟨d6, hd6⟩ : ∃ d6, d6 = (appS d3 t3 x).1 := ⟨_, rfl⟩
                  obtain ⟨t6, ht6⟩ : ∃ t6, t6 = appT t3 x 0 := ⟨_, rfl⟩
                  obtain ⟨l6, hl6⟩ : ∃ l6, l6 = l3 ++ [x] := ⟨_, rfl⟩
                  obtain ⟨S6, hS6⟩ : ∃ S6, S6 = S4 := ⟨_, rfl⟩
                  have HF6 := Lib.hid (show (t6.fin : Int) = (t3.fin : Int) + 5 + (lx : Int) by rw [ht6]; show ((t3.fin + 5 + x.length : Nat) : Int) = _; rw [← HC.out.2.2.2]; omega)
                  have HN6 := Lib.hid (show (t6.n : Int) = (t3.n : Int) + 1 by rw [ht6]; show ((t3.n + 1 : Nat) : Int) = _; omega)
                  rw [← hd6, ← ht6, ← hl6, ← hS6] at I6
                  clear hd6 ht6 hl6 hw6 hS6
                  have hrd := I6.out.read
                  have cRd := live_read I6.out.lt.live 0 (m : Int) (by unfold inI; omega) (by unfold inI; omega)
                  rw [hrd.1, hrd.2, er_zero] at cRd
                  have CRD := Lib.hid cRd
                  clear hrd cRd
                  go_upto_region 33 with (go_at_call 21; go_must (refine CRD.out.mono ?_; rintro y w7 ⟨v7, rfl, h7, -, hb7⟩; obtain ⟨A7, c7, rfl, hc71, hc72, h7⟩ := h7.named I6.out.dB.symm; obtain ⟨b7, o7, rfl, hcs7⟩ := sl_at h7 I6.out.dB (by omega); have I7 := Lib.hid (I6.out.more hb7); have R7 := Lib.hid (And.intro h7 hcs7); have HC7 := Lib.hid (And.intro hc71 hc72); clear h7 hcs7 hb7 hc71 hc72))
                  obtain ⟨y0, hy0⟩ : ∃ y0, y0 = (b.getD 0 0).toNat := ⟨_, rfl⟩
                  obtain ⟨y1, hy1⟩ : ∃ y1, y1 = (b.getD (m - 1) 0).toNat := ⟨_, rfl⟩
                  have a0 : w7.cell? ⟨b7, o7, none⟩ = some (.int .u8 (y0 : Int)) := by have := R7.out.2 0 (by omega); rw [I7.out.e0, ← hy0] at this; exact this
                  have a1 : w7.cell? ⟨b7, o7 + (m - 1), none⟩ = some (.int .u8 (y1 : Int)) := by have := R7.out.2 (m - 1) (by omega); rw [I7.out.e1, ← hy1] at this; exact this
                  have a2 : w7.cell? ⟨bb, off, none⟩ = some (.int .u8 (y0 : Int)) := (I7.out.lt.below.cell (p := ⟨bb, off, none⟩) HBC.out.1).trans (by have := HBC.out.2 0 (by omega); rw [← hy0] at this; exact this)
                  have a3 : w7.cell? ⟨bb, off + (m - 1), none⟩ = some (.int .u8 (y1 : Int)) := (I7.out.lt.below.cell (p := ⟨bb, off + (m - 1), none⟩) HBC.out.1).trans (by have := HBC.out.2 (m - 1) (by omega); rw [← hy1] at this; exact this)
                  have f0 := cell_regrown a0
                  have f1 := cell_regrown a1
                  have f2 := cell_regrown a2
                  have f3 := cell_regrown a3
                  obtain ⟨Y, hY⟩ : ∃ Y, Y = areaT d6.B 1 sz := ⟨_, rfl⟩
                  have hYl : Y.length = sz := by rw [hY]; have := area_len I7.out.st.inside; rw [I7.out.at0, I7.out.len] at this; exact this
                  have hnow : Sl w7 w7.heap.size (.slice (some ⟨g6, 0, none⟩) sz cap6) Y := by
                    have h1 := I7.out.row
                    rw [← hY] at h1
                    exact (SlT.named_ h1 hYl).sl
                  have hc71 : ¬ c7 = 1 := by have := HC7.out.1; omega
                  have hall : Sl w7 w7.heap.size (.slice (some ⟨b7, o7 + 1, none⟩) (m - 1 - 1) (c7 - 1)) Y := by
                    have h1 := (R7.out.1.cut (k := 1) (by have := I7.out.dB; omega)).front (k := m - 1 - 1) (by rw [List.length_drop]; have := I7.out.dB; omega)
                    rw [show (d6.B.drop 1).take (m - 1 - 1) = Y by rw [hY]; unfold areaT; rw [show m - 1 - 1 = sz by have := HSZ.out.1; omega]] at h1
                    simp only [if_neg hc71, Option.map_some, Lib.add_plain] at h1
                    exact h1.sl
                  have HNOW := Lib.hid hnow
                  have HALL := Lib.hid hall
                  have v1 := fun d os => conv_bytes (HALL.out.below (below_regrown w7 d os))
                  have v2 := fun d os => conv_bytes (HNOW.out.below (below_regrown w7 d os))
                  obtain ⟨rz, hrz⟩ : ∃ rz, rz = roomZ ((t6.len : Int) - t6.fin) := ⟨_, rfl⟩
                  have cLn : ∀ d os, Calls Tryd.prog 15 #[.pointer (some ⟨q, 0, none⟩)] (Sort.grow (redrawn w7 d) os) fun e w'' => e = .returned (.int .i64 ((t3.n : Int) + 1)) ∧ ∃ p : Regrown, w'' = Sort.grow (redrawn w7 p.d) p.os :=
                    fun d os => Calls.regrown_of ((lt_len (I7.out.lt.more (below_regrown w7 d os))).mono fun _ _ ⟨hy, hw⟩ => ⟨by rw [hy, HN6.out], by subst hw; exact Below.refl _ _⟩)
                  have cRm : ∀ d os, Calls Tryd.prog 16 #[.pointer (some ⟨q, 0, none⟩)] (Sort.grow (redrawn w7 d) os) fun e w'' => e = .returned (.int .i64 rz) ∧ ∃ p : Regrown, w'' = Sort.grow (redrawn w7 p.d) p.os :=
                    fun d os => Calls.regrown_of ((lt_room (I7.out.lt.more (below_regrown w7 d os))).mono fun _ _ ⟨hy, _, hb⟩ => ⟨by rw [hrz]; exact hy, hb⟩)
                  have hfz := I7.out.st.fits
                  have hlz := I7.out.len
                  have cRR : ∀ d os, Calls Tryd.prog 17 #[.int .i64 (sz : Int), .int .i64 ((t3.fin : Int) + 5 + (lx : Int))] (Sort.grow (redrawn w7 d) os) fun e w'' => e = .returned (.int .i64 rz) ∧ ∃ p : Regrown, w'' = Sort.grow (redrawn w7 p.d) p.os :=
                    fun d os => Calls.regrown_of ((RoomR_any (sz : Int) ((t3.fin : Int) + 5 + (lx : Int)) _ (by omega) (by have := HSZ.out.1; omega) (by have := HF6.out; omega) (by have := HF6.out; have := HSZ.out.1; omega)).mono fun _ _ ⟨hy, hw⟩ => ⟨by rw [hy, hrz, hlz, HF6.out], by subst hw; exact Below.refl _ _⟩)
                  have s1 : IntKind.i64.wrap ((m : Int) - 1) = (m : Int) - 1 := IntWalk.i64_in _ (by omega)
                  have s2 : ((m : Int) - 1).toNat = m - 1 := by omega
                  have s3 : 0 ≤ (m : Int) - 1 := by omega
                  have s4 : (m : Int) - 1 < (m : Int) := by omega
                  have s5 : (m : Int) - 1 ≤ (c7 : Int) := by have := HC7.out.1; omega
                  have s6 : 1 ≤ (m : Int) - 1 := by omega
                  have s7 : (0 : Int) < (m : Int) := by omega
                  have s8 : 0 < m := by omega
                  have HRZ := Lib.hid (And.intro hrz (And.intro hfz hlz))
                  clear a0 a1 a2 a3 hy0 hy1 hY hYl hnow hall hrz hfz hlz
                  refine wp_region_quiet_below (by kernel_rfl) (by kernel_rfl) ?_
                  repeat (go_big_quiet_step (first | exact cLn _ _ | exact cRm _ _ | exact cRR _ _))
                  refine wpQuiet_nil ?_
                  intro _ hw'
                  obtain ⟨⟨dr, osr⟩, hw''⟩ := hw'
                  subst hw''
                  obtain ⟨w8, hw8⟩ : ∃ w8, w8 = Sort.grow (redrawn w7 dr) osr := ⟨_, rfl⟩
                  have I8 := Lib.hid (I7.out.more (show Below w7.heap.size w7 w8 by rw [hw8]; exact below_regrown w7 dr osr))
                  rw [← hw8]
                  clear hw8 f0 f1 f2 f3 v1 v2 cLn cRm cRR s1 s2 s3 s4 s5 s6 s7 s8
                  go_wp2_with fail
                  go_roundw
                  case rel => exact ⟨i + 1, S6, g6, cap6, d6, t6, l6, by omega, by omega, by go_num, rfl, by rw [HF6.out], by rw [HN6.out], I8.out⟩
                  case measure => simp [intOf]; omega
              · as_aux_lemma =>
                  have CF := Lib.hid (lt_full I3.out.lt I3.out.st Ai lx ci (by omega) (by rw [I3.out.len]; omega))
                  have hE : er 10 = .iface 58 (.int .i64 10) := rfl
                  rw [hE] at CF
                  go_upto_region 27 with (go_at_call 18; go_must (refine CF.out.mono ?_; rintro y w4 ⟨rfl, -, hb4⟩; have I4 := Lib.hid (I3.out.more hb4); clear hb4))
                  clear hE hq3
                  have hq3 := (I4.out.lt.below.cell (p := ⟨bl, ol + i, none⟩) HC.out.1).trans HC.out.2.1
                  have cR := AppendR_full (some ⟨g3, 0, none⟩) sz cap3 t3.fin Ai lx ci w4 (by have := HSZ.out.1; omega) (by have := HSZ.out.1; omega) (by omega) (by unfold roomZ; split <;> omega)
                  have CR := Lib.hid cR
                  clear cR
                  go_upto_region 28 with (go_at_call 20; go_must (refine CR.out.mono ?_; rintro y w5 ⟨rfl, rfl⟩))
                  go_upto_region 32 with (go_at_call 12; go_must (refine (num_some 10 w4 (HS.out.below HS.out.size I4.out.lt.below)).mono ?_; rintro y w6 ⟨rfl, hb6⟩; have I6 := Lib.hid (I4.out.more hb6); clear hb6))
                  clear hq3
                  obtain ⟨d6, hd6⟩ : ∃ d6, d6 = d3 := ⟨_, rfl⟩
                  obtain ⟨t6, ht6⟩ : ∃ t6, t6 = t3 := ⟨_, rfl⟩
                  obtain ⟨l6, hl6⟩ : ∃ l6, l6 = l3 := ⟨_, rfl⟩
                  obtain ⟨S6, hS6⟩ : ∃ S6, S6 = S3 := ⟨_, rfl⟩
                  obtain ⟨g6, hg6⟩ : ∃ g6, g6 = g3 := ⟨_, rfl⟩
                  obtain ⟨cap6, hcap6⟩ : ∃ cap6, cap6 = cap3 := ⟨_, rfl⟩
                  have HF6 := Lib.hid (show (t6.fin : Int) = (t3.fin : Int) by rw [ht6])
                  have HN6 := Lib.hid (show (t6.n : Int) = (t3.n : Int) by rw [ht6])
                  rw [← hd6, ← ht6, ← hl6, ← hS6, ← hg6, ← hcap6] at I6
                  rw [← hg6, ← hcap6]
                  clear hd6 ht6 hl6 hS6 hg6 hcap6
                  have hrd := I6.out.read
                  have cRd := live_read I6.out.lt.live 0 (m : Int) (by unfold inI; omega) (by unfold inI; omega)
                  rw [hrd.1, hrd.2, er_zero] at cRd
                  have CRD := Lib.hid cRd
                  clear hrd cRd
                  go_upto_region 33 with (go_at_call 21; go_must (refine CRD.out.mono ?_; rintro y w7 ⟨v7, rfl, h7, -, hb7⟩; obtain ⟨A7, c7, rfl, hc71, hc72, h7⟩ := h7.named I6.out.dB.symm; obtain ⟨b7, o7, rfl, hcs7⟩ := sl_at h7 I6.out.dB (by omega); have I7 := Lib.hid (I6.out.more hb7); have R7 := Lib.hid (And.intro h7 hcs7); have HC7 := Lib.hid (And.intro hc71 hc72); clear h7 hcs7 hb7 hc71 hc72))
                  obtain ⟨y0, hy0⟩ : ∃ y0, y0 = (b.getD 0 0).toNat := ⟨_, rfl⟩
                  obtain ⟨y1, hy1⟩ : ∃ y1, y1 = (b.getD (m - 1) 0).toNat := ⟨_, rfl⟩
                  have a0 : w7.cell? ⟨b7, o7, none⟩ = some (.int .u8 (y0 : Int)) := by have := R7.out.2 0 (by omega); rw [I7.out.e0, ← hy0] at this; exact this
                  have a1 : w7.cell? ⟨b7, o7 + (m - 1), none⟩ = some (.int .u8 (y1 : Int)) := by have := R7.out.2 (m - 1) (by omega); rw [I7.out.e1, ← hy1] at this; exact this
                  have a2 : w7.cell? ⟨bb, off, none⟩ = some (.int .u8 (y0 : Int)) := (I7.out.lt.below.cell (p := ⟨bb, off, none⟩) HBC.out.1).trans (by have := HBC.out.2 0 (by omega); rw [← hy0] at this; exact this)
                  have a3 : w7.cell? ⟨bb, off + (m - 1), none⟩ = some (.int .u8 (y1 : Int)) := (I7.out.lt.below.cell (p := ⟨bb, off + (m - 1), none⟩) HBC.out.1).trans (by have := HBC.out.2 (m - 1) (by omega); rw [← hy1] at this; exact this)
                  have f0 := cell_regrown a0
                  have f1 := cell_regrown a1
                  have f2 := cell_regrown a2
                  have f3 := cell_regrown a3
                  obtain ⟨Y, hY⟩ : ∃ Y, Y = areaT d6.B 1 sz := ⟨_, rfl⟩
                  have hYl : Y.length = sz := by rw [hY]; have := area_len I7.out.st.inside; rw [I7.out.at0, I7.out.len] at this; exact this
                  have hnow : Sl w7 w7.heap.size (.slice (some ⟨g6, 0, none⟩) sz cap6) Y := by
                    have h1 := I7.out.row
                    rw [← hY] at h1
                    exact (SlT.named_ h1 hYl).sl
                  have hc71 : ¬ c7 = 1 := by have := HC7.out.1; omega
                  have hall : Sl w7 w7.heap.size (.slice (some ⟨b7, o7 + 1, none⟩) (m - 1 - 1) (c7 - 1)) Y := by
                    have h1 := (R7.out.1.cut (k := 1) (by have := I7.out.dB; omega)).front (k := m - 1 - 1) (by rw [List.length_drop]; have := I7.out.dB; omega)
                    rw [show (d6.B.drop 1).take (m - 1 - 1) = Y by rw [hY]; unfold areaT; rw [show m - 1 - 1 = sz by have := HSZ.out.1; omega]] at h1
                    simp only [if_neg hc71, Option.map_some, Lib.add_plain] at h1
                    exact h1.sl
                  have HNOW := Lib.hid hnow
                  have HALL := Lib.hid hall
                  have v1 := fun d os => conv_bytes (HALL.out.below (below_regrown w7 d os))
                  have v2 := fun d os => conv_bytes (HNOW.out.below (below_regrown w7 d os))
                  obtain ⟨rz, hrz⟩ : ∃ rz, rz = roomZ ((t6.len : Int) - t6.fin) := ⟨_, rfl⟩
                  have cLn : ∀ d os, Calls Tryd.prog 15 #[.pointer (some ⟨q, 0, none⟩)] (Sort.grow (redrawn w7 d) os) fun e w'' => e = .returned (.int .i64 ((t3.n : Int))) ∧ ∃ p : Regrown, w'' = Sort.grow (redrawn w7 p.d) p.os :=
                    fun d os => Calls.regrown_of ((lt_len (I7.out.lt.more (below_regrown w7 d os))).mono fun _ _ ⟨hy, hw⟩ => ⟨by rw [hy, HN6.out], by subst hw; exact Below.refl _ _⟩)
                  have cRm : ∀ d os, Calls Tryd.prog 16 #[.pointer (some ⟨q, 0, none⟩)] (Sort.grow (redrawn w7 d) os) fun e w'' => e = .returned (.int .i64 rz) ∧ ∃ p : Regrown, w'' = Sort.grow (redrawn w7 p.d) p.os :=
                    fun d os => Calls.regrown_of ((lt_room (I7.out.lt.more (below_regrown w7 d os))).mono fun _ _ ⟨hy, _, hb⟩ => ⟨by rw [hrz]; exact hy, hb⟩)
                  have hfz := I7.out.st.fits
                  have hlz := I7.out.len
                  have cRR : ∀ d os, Calls Tryd.prog 17 #[.int .i64 (sz : Int), .int .i64 ((t3.fin : Int))] (Sort.grow (redrawn w7 d) os) fun e w'' => e = .returned (.int .i64 rz) ∧ ∃ p : Regrown, w'' = Sort.grow (redrawn w7 p.d) p.os :=
                    fun d os => Calls.regrown_of ((RoomR_any (sz : Int) ((t3.fin : Int)) _ (by omega) (by have := HSZ.out.1; omega) (by have := HF6.out; omega) (by have := HF6.out; have := HSZ.out.1; omega)).mono fun _ _ ⟨hy, hw⟩ => ⟨by rw [hy, hrz, hlz, HF6.out], by subst hw; exact Below.refl _ _⟩)
                  have s1 : IntKind.i64.wrap ((m : Int) - 1) = (m : Int) - 1 := IntWalk.i64_in _ (by omega)
                  have s2 : ((m : Int) - 1).toNat = m - 1 := by omega
                  have s3 : 0 ≤ (m : Int) - 1 := by omega
                  have s4 : (m : Int) - 1 < (m : Int) := by omega
                  have s5 : (m : Int) - 1 ≤ (c7 : Int) := by have := HC7.out.1; omega
                  have s6 : 1 ≤ (m : Int) - 1 := by omega
                  have s7 : (0 : Int) < (m : Int) := by omega
                  have s8 : 0 < m := by omega
                  have HRZ := Lib.hid (And.intro hrz (And.intro hfz hlz))
                  clear a0 a1 a2 a3 hy0 hy1 hY hYl hnow hall hrz hfz hlz
                  refine wp_region_quiet_below (by kernel_rfl) (by kernel_rfl) ?_
                  repeat (go_big_quiet_step (first | exact cLn _ _ | exact cRm _ _ | exact cRR _ _))
                  refine wpQuiet_nil ?_
                  intro _ hw'
                  obtain ⟨⟨dr, osr⟩, hw''⟩ := hw'
                  subst hw''
                  obtain ⟨w8, hw8⟩ : ∃ w8, w8 = Sort.grow (redrawn w7 dr) osr := ⟨_, rfl⟩
                  have I8 := Lib.hid (I7.out.more (show Below w7.heap.size w7 w8 by rw [hw8]; exact below_regrown w7 dr osr))
                  rw [← hw8]
                  clear hw8 f0 f1 f2 f3 v1 v2 cLn cRm cRR s1 s2 s3 s4 s5 s6 s7 s8
                  go_wp2_with fail
                  go_roundw
                  case rel => exact ⟨i + 1, S6, g6, cap6, d6, t6, l6, by omega, by omega, by go_num, rfl, by rw [HF6.out], by rw [HN6.out], I8.out⟩
                  case measure => simp [intOf]; omega
      · have hge : ¬ ((i : Int) < (m' : Int)) ∨ ((i : Int) < (m' : Int) ∧ ¬ (i : Int) < 20) := by omega
        clear hlt
        rcases hge with hge | ⟨hge1, hge2⟩
        all_goals
          go_wp2_with fail
          go_meet
          exact I3.out.lt.below
  case rest =>
    have HB := Lib.hid hcut
    clear hcut
    go_wp2_with (go_at_call 7; go_must (refine (sure_any B _).mono ?_; rintro y w8 ⟨rfl, hb8⟩; have HB8 := Lib.hid (HB.out.trans (hb8.mono HB.out.size)); clear hb8))
    go_ret
    exact ⟨rfl, HB8.out⟩

end Go.Proofs.YthcikgbnenfjpaaDoor.pk
