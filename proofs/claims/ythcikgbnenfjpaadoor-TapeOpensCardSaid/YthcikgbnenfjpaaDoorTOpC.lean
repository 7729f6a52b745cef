/-
  The law TapeOpens' own walk: an area that can be read.
-/
import Derived.Test.YthcikgbnenfjpaaDoorTOpB
namespace Go.Proofs.YthcikgbnenfjpaaDoor.pk
open Go Go.RowKit
set_option maxRecDepth 100000

set_option maxHeartbeats 1000000 in
theorem opens_some {Q : ConD → Prop} (C : ConD) (B : ConB Q C) (A : Option Addr) (m c : Nat) (b : List UInt8) (a sz : Nat) (w : World) (hs : Std w) (h : Sl w w.heap.size (.slice A m c) b) (ha : inI a) (hz : inI sz) (hl1 : 1 ≤ m) (hl2 : m ≤ 3000) (j3 : a + sz ≤ m) (j4 : 5 ≤ sz) (l : List (List UInt8)) (k : Nat) (hpr : readT (areaT b a sz) = some (l, k)) :
    Calls Tryd.prog 3 #[.slice A m c, .int .i64 (a : Int), .int .i64 (sz : Int)] w fun x w' => x = .returned (.bool true) ∧ Below w.heap.size w w' := by
  obtain ⟨hmb, hmc, hcm⟩ := h.len
  have HI := Lib.hid (And.intro ha hz)
  unfold inI at ha hz
  obtain ⟨ha1, ha2⟩ := ha
  obtain ⟨hz1, hz2⟩ := hz
  have HS := Lib.hid hs
  have H := Lib.hid (And.intro h (And.intro hmb (And.intro hmc hcm)))
  clear hs h hmb hmc hcm
  have i1 : ¬ (m : Int) < 1 := by omega
  have i2 : ¬ 3000 < (m : Int) := by omega
  have i3 : (m : Int) ≤ 3000 := by omega
  have lp := laid_put b
  have lsy := laid_sync b
  rw [← H.out.2.1] at lp lsy
  have LP := Lib.hid lp
  have LS := Lib.hid lsy
  clear lp lsy
  have j1 : 5 ≤ (sz : Int) := by omega
  have j2 : (a : Int) + (sz : Int) ≤ (m : Int) := by omega
  have hca : ¬ c = a := by have := H.out.2.2.1; omega
  have icc : (a : Int) + (sz : Int) ≤ (c : Int) := by have := H.out.2.2.1; omega
  have hrd : badE (laidD b) a sz = 0 ∧ readB (laidD b) a sz = areaT b a sz := by
    have e : (laidD b).B.length = m := by rw [H.out.2.1]; rfl
    have h1 : badE (laidD b) a sz = 0 := by
      unfold badE
      rw [e, if_pos ⟨by omega, by omega, by omega, by omega⟩]
      rfl
    refine ⟨h1, ?_⟩
    unfold readB
    rw [if_pos h1]
    rfl
  have HRD := Lib.hid hrd
  obtain ⟨bb, off, rfl, -⟩ := sl_at (T := fun k => k < w.heap.size) H.out.1.toT H.out.2.1.symm (by omega)
  have hslc := fun (W : World) (hW : Below w.heap.size w W) => ((H.out.1.toT.cut (k := a) (by have := H.out.2.1; omega)).front (k := sz) (by rw [List.length_drop]; have := H.out.2.1; omega)).kept (w' := W) fun k hk _ => hW.block k hk
  simp only [if_neg hca, Option.map_some, Lib.add_plain] at hslc
  have HSLC := Lib.hid hslc
  clear hrd hslc
  have HPR := Lib.hid hpr
  have hlk := readT_some hpr
  have hrs : Rests (laidD b) a sz l := ⟨rfl, rfl, by show a + sz ≤ b.length; rw [← H.out.2.1]; exact j3, j4, hlk.1⟩
  have HRS := Lib.hid hrs
  have hk : (openT a sz l).fin = k := hlk.2.symm
  have HK := Lib.hid hk
  have hkb : k ≤ sz := by
    have h1 := hrs.state.fits
    rw [← hk]; exact h1
  have RR := Lib.hid (fun (W : World) => RoomR_any (sz : Int) (k : Int) W (by omega) (by omega) (by omega) (by omega))
  clear hpr hlk hrs hk
  go_enter Tryd.func3, Tryd.ntmps3
  go_upto_region 4 with (go_at_call 8; go_must (refine (live_new B w m (by omega) (by omega) (m : Int) rfl).mono ?_; rintro y w1 ⟨p, S, rfl, h1⟩; have L1 := Lib.hid h1; clear h1))
  have cW := live_write L1.out 0 _ m c b (by unfold inI; omega) (by show 0 < 100000; omega) (L1.out.arg H.out.1)
  rw [LP.out.1, er_zero] at cW
  have CW := Lib.hid cW
  clear cW
  go_upto_region 6 with (first
    | (go_at_call 10; (have cS := live_sync L2.out; rw [LS.out.1, LS.out.2, er_zero] at cS; refine cS.mono ?_; rintro y w3 ⟨S3, rfl, h3, -⟩; have L3 := Lib.hid h3; clear h3 cS))
    | (go_at_call 9; go_must (refine CW.out.mono ?_; rintro y w2 ⟨S2, rfl, h2, -⟩; have L2 := Lib.hid h2; clear h2)))
  go_upto_region 7 with (go_at_call 11; go_must (refine (live_open L3.out a sz HRS.out).mono ?_; rintro y w4 ⟨q, v, rfl, h4, ho4, -, -, -⟩; obtain ⟨A4, c4, rfl, -, -⟩ := ho4.form; have T4 := Lib.hid (And.intro h4 ho4); clear h4 ho4))
  go_upto_region 10 with (go_at_call 13; go_must (refine (Records_any _ _ sz _ _ w4 (HSLC.out w4 T4.out.1.below) (by omega)).mono ?_; rintro y w5 ⟨hb5, hm⟩; rw [show readT ((b.drop a).take sz) = some (l, k) from HPR.out] at hm; obtain ⟨v5, rfl, ho5⟩ := hm; obtain ⟨A5, c5, rfl, -, -⟩ := ho5.form; have T5 := Lib.hid (And.intro (T4.out.1.more hb5) (And.intro ((T4.out.2.more hb5).lists (fun _ => True) (fun _ _ _ => trivial) (fun _ _ => trivial)) (ho5.lists (fun _ => True) (fun _ _ _ => trivial) (fun _ _ => trivial)))); clear hb5 ho5))
  go_upto_region 12 with (first
    | (go_at_call 14; go_must (refine (list_any (fun _ => True) (fun _ => True) _ _ _ _ _ _ l l w6 T6.out.2.1 T6.out.2.2 true (decide_eq_true rfl).symm).mono ?_; rintro y w7 ⟨rfl, hb7⟩; have T7 := Lib.hid (T6.out.1.more hb7); clear hb7))
    | (go_at_call 12; go_must (refine (num_none w5).mono ?_; rintro y w6 ⟨rfl, hb6⟩; have T6 := Lib.hid (And.intro (T5.out.1.more hb6) (And.intro (T5.out.2.1.below_ hb6) (T5.out.2.2.below_ hb6))); clear hb6)))
  have hR := lt_room T7.out
  rw [HK.out] at hR
  have HR := Lib.hid hR
  have HL := Lib.hid (lt_len T7.out)
  clear hR
  go_wp2_with (first
    | (go_at_call 7; (refine (sure_any B w8).mono ?_; rintro y w9 ⟨rfl, hb9⟩; have B9 := Lib.hid (T8.out.below.trans (hb9.mono T8.out.size)); clear hb9))
    | (go_at_call 17; (refine (RR.out w8).mono ?_; rintro y w9 ⟨rfl, rfl⟩))
    | (go_at_call 16; go_must (refine HR.out.mono ?_; rintro y w8 ⟨rfl, h8, -⟩; have T8 := Lib.hid h8; clear h8))
    | (go_at_call 15; go_must (refine HL.out.mono ?_; rintro y w9 ⟨rfl, rfl⟩)))
  go_ret
  exact ⟨rfl, B9.out⟩

end Go.Proofs.YthcikgbnenfjpaaDoor.pk
