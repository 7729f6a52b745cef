/-
  The law TapeOpens' own walk: an area that can't be read.
-/
import Derived.Test.YthcikgbnenfjpaaDoorTOpA
namespace Go.Proofs.YthcikgbnenfjpaaDoor.pk
open Go Go.RowKit
set_option maxRecDepth 100000

set_option maxHeartbeats 1000000 in
theorem opens_none {Q : ConD → Prop} (C : ConD) (B : ConB Q C) (A : Option Addr) (m c : Nat) (b : List UInt8) (a sz : Nat) (w : World) (hs : Std w) (h : Sl w w.heap.size (.slice A m c) b) (ha : inI a) (hz : inI sz) (hl1 : 1 ≤ m) (hl2 : m ≤ 3000) (j3 : a + sz ≤ m) (j4 : 5 ≤ sz) (hpr : readT (areaT b a sz) = none) :
    Calls Tryd.prog 3 #[.slice A m c, .int .i64 (a : Int), .int .i64 (sz : Int)] w fun x w' => x = .returned (.bool true) ∧ Below w.heap.size w w' := by
  obtain ⟨hmb, hmc, hcm⟩ := h.len
  have HI := Lib.hid (And.intro ha hz)
  unfold inI at ha hz
  obtain ⟨ha1, ha2⟩ := ha
  obtain ⟨hz1, hz2⟩ := hz
  have HS := Lib.hid hs
  have H := Lib.hid (And.intro h (And.intro hmb (And.intro hmc hcm)))
  clear hs h hmb hmc hcm
  have i1 : ¬ (m : Int) < 1 := by omega
  have i2 : ¬ 3000 < (m : Int) := by omega
  have i3 : (m : Int) ≤ 3000 := by omega
  have lp := laid_put b
  have lsy := laid_sync b
  rw [← H.out.2.1] at lp lsy
  have LP := Lib.hid lp
  have LS := Lib.hid lsy
  clear lp lsy
  have j1 : 5 ≤ (sz : Int) := by omega
  have j2 : (a : Int) + (sz : Int) ≤ (m : Int) := by omega
  have hca : ¬ c = a := by have := H.out.2.2.1; omega
  have icc : (a : Int) + (sz : Int) ≤ (c : Int) := by have := H.out.2.2.1; omega
  have hrd : badE (laidD b) a sz = 0 ∧ readB (laidD b) a sz = areaT b a sz := by
    have e : (laidD b).B.length = m := by rw [H.out.2.1]; rfl
    have h1 : badE (laidD b) a sz = 0 := by
      unfold badE
      rw [e, if_pos ⟨by omega, by omega, by omega, by omega⟩]
      rfl
    refine ⟨h1, ?_⟩
    unfold readB
    rw [if_pos h1]
    rfl
  have HRD := Lib.hid hrd
  obtain ⟨bb, off, rfl, -⟩ := sl_at (T := fun k => k < w.heap.size) H.out.1.toT H.out.2.1.symm (by omega)
  have hslc := fun (W : World) (hW : Below w.heap.size w W) => ((H.out.1.toT.cut (k := a) (by have := H.out.2.1; omega)).front (k := sz) (by rw [List.length_drop]; have := H.out.2.1; omega)).kept (w' := W) fun k hk _ => hW.block k hk
  simp only [if_neg hca, Option.map_some, Lib.add_plain] at hslc
  have HSLC := Lib.hid hslc
  clear hrd hslc
  have he : openE (laidD b) a sz = 14 := by
    unfold openE
    rw [if_neg (by omega), if_pos HRD.out.1, HRD.out.2, hpr]
    rfl
  have HE := Lib.hid he
  have HPR := Lib.hid hpr
  clear hpr he
  go_enter Tryd.func3, Tryd.ntmps3
  go_upto_region 4 with (go_at_call 8; go_must (refine (live_new B w m (by omega) (by omega) (m : Int) rfl).mono ?_; rintro y w1 ⟨p, S, rfl, h1⟩; have L1 := Lib.hid h1; clear h1))
  have cW := live_write L1.out 0 _ m c b (by unfold inI; omega) (by show 0 < 100000; omega) (L1.out.arg H.out.1)
  rw [LP.out.1, er_zero] at cW
  have CW := Lib.hid cW
  clear cW
  go_upto_region 6 with (first
    | (go_at_call 10; (have cS := live_sync L2.out; rw [LS.out.1, LS.out.2, er_zero] at cS; refine cS.mono ?_; rintro y w3 ⟨S3, rfl, h3, -⟩; have L3 := Lib.hid h3; clear h3 cS))
    | (go_at_call 9; go_must (refine CW.out.mono ?_; rintro y w2 ⟨S2, rfl, h2, -⟩; have L2 := Lib.hid h2; clear h2)))
  go_upto_region 7 with (go_at_call 11; go_must (have cO := Open_no L3.out.dk (a : Int) (sz : Int) HI.out.1 HI.out.2 (by rw [HE.out]; decide); rw [HE.out] at cO; refine cO.mono ?_; rintro y w4 ⟨rfl, hb4⟩; rw [er_ne (by decide)]; have B4 := Lib.hid (L3.out.below.trans (hb4.mono L3.out.size)); clear hb4 cO))
  go_upto_region 10 with (go_at_call 13; go_must (refine (Records_any _ _ sz _ _ w4 (HSLC.out w4 B4.out) (by omega)).mono ?_; rintro y w5 ⟨hb5, hm⟩; have B5 := Lib.hid (B4.out.trans (hb5.mono B4.out.size)); clear hb5; rw [show readT ((b.drop a).take sz) = none from HPR.out] at hm; obtain rfl : y = _ := hm))
  go_upto_region 12 with (first
    | (go_at_call 14; go_must (refine (list_any (fun _ => True) (fun _ => True) _ _ _ _ _ _ [] [] w6 ⟨[], RowT.nil_ _ _ _, fun j h => by simp at h⟩ ⟨[], RowT.nil_ _ _ _, fun j h => by simp at h⟩ true rfl).mono ?_; rintro y w7 ⟨rfl, hb7⟩; have B7 := Lib.hid (B6.out.trans (hb7.mono B6.out.size)); clear hb7))
    | (go_at_call 12; go_must (refine (num_some 14 w5 (HS.out.below HS.out.size B5.out)).mono ?_; rintro y w6 ⟨rfl, hb6⟩; have B6 := Lib.hid (B5.out.trans (hb6.mono B5.out.size)); clear hb6)))
  go_wp2_with (go_at_call 7; go_must (refine (sure_any B w7).mono ?_; rintro y w8 ⟨rfl, hb8⟩; have B8 := Lib.hid (B7.out.trans (hb8.mono B7.out.size)); clear hb8))
  go_ret
  exact ⟨rfl, B8.out⟩

end Go.Proofs.YthcikgbnenfjpaaDoor.pk
