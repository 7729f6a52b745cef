/-
  The law TapeRuns' own walk: short ones, and an area that can't be read.
-/
import Derived.Test.YthcikgbnenfjpaaDoorTRunsP
import Derived.Outline
namespace Go.Proofs.YthcikgbnenfjpaaDoor.pk
open Go Go.RowKit
set_option maxRecDepth 100000

/-- A row of the law's own as a slice of bytes. -/
theorem SlT.named_ {w : World} {base e n : Nat} {v : Value} {bs : List UInt8} (h : w.ownsRow base e 1 v n (Lib.byteCells bs)) (hn : bs.length = n) : SlT w (fun _ => True) v bs := by
  subst hn
  exact SlT.of_own h _ (fun _ _ => trivial)

set_option maxHeartbeats 4000000 in
theorem runs_short {Q : ConD → Prop} (C : ConD) (B : ConB Q C) (A A' A'' : Option Addr) (m c m' c' m'' c'' : Nat) (b : List UInt8) (ls : List (List UInt8)) (rs : List Bool) (w : World) (hs : Std w) (h : Sl w w.heap.size (.slice A m c) b)
    (hl : ListsT w (fun k => k < w.heap.size) (.slice A' m' c') ls) (hr : BoolsT w (fun k => k < w.heap.size) (.slice A'' m'' c'') rs) (hlen : ¬ (7 ≤ m ∧ m ≤ 600)) :
    Calls Tryd.prog 4 #[.slice A m c, .slice A' m' c', .slice A'' m'' c''] w fun x w' => x = .returned (.bool true) ∧ Below w.heap.size w w' := by
  obtain ⟨hmb, hmc, hcm⟩ := h.len
  obtain ⟨A1, c1, hv, hmc1, hcm1⟩ := hl.form
  injection hv with e1 e2 e3
  subst e1; subst e3
  obtain ⟨A2, c2, hv, hmc2, hcm2⟩ := hr.form
  injection hv with e4 e5 e6
  subst e4; subst e6
  have HM1 := Lib.hid e2
  have HM2 := Lib.hid e5
  have hmB1 : (m' : Int) ≤ 9223372036854775807 := by omega
  have hmB2 : (m'' : Int) ≤ 9223372036854775807 := by omega
  have HS := Lib.hid hs
  have H := Lib.hid (And.intro h (And.intro hmb (And.intro hmc hcm)))
  have HL := Lib.hid hl
  have HR := Lib.hid hr
  clear hs h hl hr e2 e5 hmb hmc hcm hmc1 hcm1 hmc2 hcm2
  have hor : (m : Int) < 7 ∨ (¬ (m : Int) < 7 ∧ 600 < (m : Int)) := by omega
  clear hlen
  rcases hor with h1 | ⟨h1, h2⟩
  all_goals
    go_enter Tryd.func4, Tryd.ntmps4
    go_upto_region 4 with (first
      | (go_at_call 15; go_must (refine (LenNil_any _).mono ?_; rintro y w9 ⟨rfl, rfl⟩))
      | (go_at_call 16; go_must (refine (RoomNil_any _).mono ?_; rintro y w9 ⟨rfl, rfl⟩))
      | (go_at_call 19; go_must (refine (ResetNil_any _).mono ?_; rintro y w9 ⟨rfl, rfl⟩; rw [er_ne (by decide)]))
      | (go_at_call 18; go_must (refine (AppendNil_any _ _).mono ?_; rintro y w9 ⟨rfl, rfl⟩; rw [er_ne (by decide)]))
      | (go_at_call 12; (refine (num_some 1 wa (HS.out.below HS.out.size BA.out)).mono ?_; rintro y wb ⟨rfl, hbb⟩; have BB := Lib.hid (BA.out.trans (hbb.mono BA.out.size)); clear hbb))
      | (go_at_call 12; go_must (refine (num_some 1 w HS.out).mono ?_; rintro y wa ⟨rfl, hba⟩; have BA := Lib.hid hba; clear hba)))
    go_wp2_with (go_at_call 7; go_must (refine (sure_any B wb).mono ?_; rintro y w8 ⟨rfl, hb8⟩; have HB8 := Lib.hid (BB.out.trans (hb8.mono BB.out.size)); clear hb8))
    go_ret
    exact ⟨rfl, HB8.out⟩

set_option maxHeartbeats 4000000 in
theorem runs_none {Q : ConD → Prop} (C : ConD) (B : ConB Q C) (A A' A'' : Option Addr) (m c m' c' m'' c'' : Nat) (b : List UInt8) (ls : List (List UInt8)) (rs : List Bool) (w : World) (hs : Std w) (h : Sl w w.heap.size (.slice A m c) b)
    (hl : ListsT w (fun k => k < w.heap.size) (.slice A' m' c') ls) (hr : BoolsT w (fun k => k < w.heap.size) (.slice A'' m'' c'') rs) (hl1 : 7 ≤ m) (hl2 : m ≤ 600) (hpr : readT (areaT b 1 (m - 2)) = none) :
    Calls Tryd.prog 4 #[.slice A m c, .slice A' m' c', .slice A'' m'' c''] w fun x w' => x = .returned (.bool true) ∧ Below w.heap.size w w' := by
  obtain ⟨hmb, hmc, hcm⟩ := h.len
  obtain ⟨A1, c1, hv, hmc1, hcm1⟩ := hl.form
  injection hv with e1 e2 e3
  subst e1; subst e3
  obtain ⟨A2, c2, hv, hmc2, hcm2⟩ := hr.form
  injection hv with e4 e5 e6
  subst e4; subst e6
  have HM1 := Lib.hid e2
  have HM2 := Lib.hid e5
  have hmB1 : (m' : Int) ≤ 9223372036854775807 := by omega
  have hmB2 : (m'' : Int) ≤ 9223372036854775807 := by omega
  have HS := Lib.hid hs
  have H := Lib.hid (And.intro h (And.intro hmb (And.intro hmc hcm)))
  have HL := Lib.hid hl
  have HR := Lib.hid hr
  clear hs h hl hr e2 e5 hmb hmc hcm hmc1 hcm1 hmc2 hcm2
  have i1 : ¬ (m : Int) < 7 := by omega
  have i2 : ¬ 600 < (m : Int) := by omega
  have i3 : (m : Int) ≤ 600 := by omega
  have lp := laid_put b
  have lsy := laid_sync b
  rw [← H.out.2.1] at lp lsy
  have LP := Lib.hid lp
  have LS := Lib.hid lsy
  clear lp lsy
  obtain ⟨sz, hsz⟩ : ∃ sz : Nat, m = sz + 2 := ⟨m - 2, by omega⟩
  have msz : (m : Int) - 2 = (sz : Int) := by omega
  have HSZ := Lib.hid (And.intro hsz msz)
  have hc1 : ¬ c = 1 := by have := H.out.2.2.1; omega
  have icc : (m : Int) - 1 ≤ (c : Int) := by have := H.out.2.2.1; omega
  obtain ⟨bb, off, rfl, hbc⟩ := sl_at (T := fun k => k < w.heap.size) H.out.1.toT H.out.2.1.symm (by omega)
  have hblt : bb < w.heap.size := World.block_lt_of_cell? w ⟨bb, off + 0, none⟩ (hbc 0 (by omega))
  have HBC := Lib.hid (And.intro hblt hbc)
  have hslc := fun (W : World) (hW : Below w.heap.size w W) => ((H.out.1.toT.cut (k := 1) (by have := H.out.2.1; omega)).front (k := m - 1 - 1) (by rw [List.length_drop]; have := H.out.2.1; omega)).kept (w' := W) fun k hk _ => hW.block k hk
  rw [show (b.drop 1).take (m - 1 - 1) = areaT b 1 sz by unfold areaT; rw [show m - 1 - 1 = sz by omega]] at hslc
  simp only [if_neg hc1, Option.map_some, Lib.add_plain] at hslc
  have HSLC := Lib.hid hslc
  have hal : (areaT b 1 sz).length = sz := area_len (by rw [← H.out.2.1]; omega)
  have HAL := Lib.hid hal
  obtain ⟨i0, hi, hz0, hz1, hz2⟩ := info_parts info_u8
  clear hsz msz hslc hal hbc hblt
  rw [show m - 2 = sz by have := HSZ.out.1; omega] at hpr
  have hrd : badE (laidD b) 1 sz = 0 ∧ readB (laidD b) 1 sz = areaT b 1 sz := by
    have e : (laidD b).B.length = m := by rw [H.out.2.1]; rfl
    have h1 : badE (laidD b) 1 sz = 0 := by
      unfold badE
      rw [e, if_pos ⟨by omega, by omega, by omega, by have := HSZ.out.1; omega⟩]
      rfl
    refine ⟨h1, ?_⟩
    unfold readB
    rw [if_pos h1]
    rfl
  have he : openE (laidD b) 1 ((m : Int) - 2) = 14 := by
    rw [HSZ.out.2]
    unfold openE
    rw [if_neg (by have := HSZ.out.1; omega), if_pos hrd.1, hrd.2, hpr]
    rfl
  have HE := Lib.hid he
  have HPR := Lib.hid hpr
  clear hrd he hpr
  go_enter Tryd.func4, Tryd.ntmps4
  go_upto_region 6 with (first
    | (go_at_call 15; go_must (refine (LenNil_any _).mono ?_; rintro y w9 ⟨rfl, rfl⟩))
    | (go_at_call 16; go_must (refine (RoomNil_any _).mono ?_; rintro y w9 ⟨rfl, rfl⟩))
    | (go_at_call 19; go_must (refine (ResetNil_any _).mono ?_; rintro y w9 ⟨rfl, rfl⟩; rw [er_ne (by decide)]))
    | (go_at_call 18; go_must (refine (AppendNil_any _ _).mono ?_; rintro y w9 ⟨rfl, rfl⟩; rw [er_ne (by decide)]))
    | (go_at_call 12; (refine (num_some 1 wa (HS.out.below HS.out.size BA.out)).mono ?_; rintro y wb ⟨rfl, hbb⟩; have BB := Lib.hid (BA.out.trans (hbb.mono BA.out.size)); clear hbb))
    | (go_at_call 12; go_must (refine (num_some 1 w HS.out).mono ?_; rintro y wa ⟨rfl, hba⟩; have BA := Lib.hid hba; clear hba)))
  go_upto_region 7 with (go_at_call 8; go_must (refine (live_newB B BB.out m (by omega) (by omega) (m : Int) rfl).mono ?_; rintro y w1 ⟨p, S, rfl, h1⟩; have L1 := Lib.hid h1; clear h1))
  have cW := live_write L1.out 0 _ m c b (by unfold inI; omega) (by show 0 < 100000; omega) (L1.out.arg H.out.1)
  rw [LP.out.1, er_zero] at cW
  have CW := Lib.hid cW
  clear cW
  go_upto_region 9 with (first
    | (go_at_call 10; (have cS := live_sync L2.out; rw [LS.out.1, LS.out.2, er_zero] at cS; refine cS.mono ?_; rintro y w3 ⟨S3, rfl, h3, -⟩; have L3 := Lib.hid h3; clear h3 cS))
    | (go_at_call 9; go_must (refine CW.out.mono ?_; rintro y w2 ⟨S2, rfl, h2, -⟩; have L2 := Lib.hid h2; clear h2)))
  go_upto_region 11 with (go_at_call 11; go_must (have cO := Open_no L3.out.dk 1 ((m : Int) - 2) (by unfold inI; omega) (by unfold inI; omega) (by rw [HE.out]; decide); rw [HE.out] at cO; refine cO.mono ?_; rintro y w4 ⟨rfl, hb4⟩; rw [er_ne (by decide)]; have B4 := Lib.hid (L3.out.below.trans (hb4.mono L3.out.size)); clear hb4 cO))
  go_upto_region 12 with (at_builtin; go_must (refine wpList_append_sl rfl (.tmp 86) (.tmp 91) 22 rfl w.heap.size 5 i0 _ Tryd.underlying22 hi hz0 hz1 hz2 rfl _ 0 [] rfl (World.ownsRow_nil _ _ _ _) w4.heap.size _ (m - 1 - 1) (c - 1) (areaT b 1 sz) rfl (HSLC.out w4 B4.out).sl (by rw [HAL.out]; have := HSZ.out.1; omega) B4.out.size ?_; intro v5 w5 ho5 hg5; rw [Nat.zero_add, List.nil_append, HAL.out] at ho5; have O5 := Lib.hid (And.intro ho5 ((Below.refl w4.heap.size w4).grown hg5 (Nat.le_refl _) (fun k hk => by cases hk))); clear ho5 hg5))
  obtain ⟨A5, c5, rfl, -, -⟩ := own_form O5.out.1
  go_upto_region 13 with (go_at_call 13; go_must (refine (Records_any (fun _ => True) _ sz _ (areaT b 1 sz) w5 (SlT.named_ O5.out.1 HAL.out) (by have := HSZ.out.1; omega)).mono ?_; rintro y w6 ⟨hb6, hm⟩; have B6 := Lib.hid ((B4.out.trans (O5.out.2.mono B4.out.size)).trans (hb6.mono (Nat.le_trans B4.out.size O5.out.2.size))); clear hb6; rw [HPR.out] at hm; obtain rfl : y = _ := hm))
  go_wp2_with (first
    | (go_at_call 7; (refine (sure_any B w7).mono ?_; rintro y w8 ⟨rfl, hb8⟩; have B8 := Lib.hid (B7.out.trans (hb8.mono B7.out.size)); clear hb8))
    | (go_at_call 12; go_must (refine (num_some 14 w6 (HS.out.below HS.out.size B6.out)).mono ?_; rintro y w7 ⟨rfl, hb7⟩; have B7 := Lib.hid (B6.out.trans (hb7.mono B6.out.size)); clear hb7)))
  go_ret
  exact ⟨rfl, B8.out⟩

end Go.Proofs.YthcikgbnenfjpaaDoor.pk
