/-
  The law TapeOpens' own walk.
-/
import Derived.Test.YthcikgbnenfjpaaDoorSureT
import Derived.Test.YthcikgbnenfjpaaDoorListL
import Derived.Test.YthcikgbnenfjpaaDoorNum
import Derived.Test.YthcikgbnenfjpaaDoorRefApp
import Derived.Outline
namespace Go.Proofs.YthcikgbnenfjpaaDoor.pk
open Go Go.RowKit
set_option maxRecDepth 100000

theorem ListsT.below_ {w w' : World} {v : Value} {ls : List (List UInt8)} (h : ListsT w (fun _ => True) v ls) (hb : Below w.heap.size w w') : ListsT w' (fun _ => True) v ls := by
  obtain ⟨cs, hr, he⟩ := h
  exact ⟨cs, hr.kept fun k _ hk => hb.block k hk, fun j hj => by
    obtain ⟨u, hu, hs⟩ := he j hj
    exact ⟨u, hu, hs.kept fun k _ hk => hb.block k hk⟩⟩

/-- Bytes laid on a new disk, and made safe. -/
def laidD (b : List UInt8) : Dk := { B := b, L := [], armed := -1, off := false }
theorem laid_put (b : List UInt8) : putE (newD b.length) 0 b = 0 ∧ putD (newD b.length) 0 b = { B := List.replicate b.length 0, L := [(0, b)], armed := -1, off := false } := by
  have hl : (newD b.length).B.length = b.length := List.length_replicate
  have hb : badE (newD b.length) 0 b.length = 0 := by
    unfold badE
    rw [hl, if_pos ⟨by omega, by omega, by omega, by omega⟩]
    rfl
  unfold putE putD
  rw [if_pos hb, if_pos hb]
  exact ⟨rfl, rfl⟩
theorem laid_sync (b : List UInt8) : syncE (putD (newD b.length) 0 b) = 0 ∧ syncD (putD (newD b.length) 0 b) = laidD b := by
  rw [(laid_put b).2]
  refine ⟨rfl, ?_⟩
  show ({ B := put1 (List.replicate b.length 0) 0 b, L := [], armed := -1, off := false } : Dk) = laidD b
  unfold laidD
  congr 1
  simp [put1]

set_option maxHeartbeats 8000000 in
theorem opens_bad {Q : ConD → Prop} (C : ConD) (B : ConB Q C) (A : Option Addr) (m c : Nat) (b : List UInt8) (at_ size : Int) (w : World) (hs : Std w) (h : Sl w w.heap.size (.slice A m c) b) (ha : inI at_) (hz : inI size) (hl1 : 1 ≤ m) (hl2 : m ≤ 3000) (hbad : at_ < 0 ∨ size < 5 ∨ (m : Int) < at_ ∨ (m : Int) - at_ < size) :
    Calls Tryd.prog 3 #[.slice A m c, .int .i64 at_, .int .i64 size] w fun x w' => x = .returned (.bool true) ∧ Below w.heap.size w w' := by
  obtain ⟨hmb, hmc, hcm⟩ := h.len
  have HI := Lib.hid (And.intro ha hz)
  unfold inI at ha hz
  obtain ⟨ha1, ha2⟩ := ha
  obtain ⟨hz1, hz2⟩ := hz
  have HS := Lib.hid hs
  have H := Lib.hid (And.intro h (And.intro hmb (And.intro hmc hcm)))
  clear hs h hmb hmc hcm
  have i1 : ¬ (m : Int) < 1 := by omega
  have i2 : ¬ 3000 < (m : Int) := by omega
  have i3 : (m : Int) ≤ 3000 := by omega
  have lp := laid_put b
  have lsy := laid_sync b
  rw [← H.out.2.1] at lp lsy
  have LP := Lib.hid lp
  have LS := Lib.hid lsy
  clear lp lsy
  have he : openE (laidD b) at_ size = 1 := by
    unfold openE
    by_cases h5 : size < 5
    · rw [if_pos h5]
    · rw [if_neg h5]
      have hb : badE (laidD b) at_ size = 1 := by
        unfold badE
        rw [if_neg]
        rintro ⟨x1, x2, x3, x4⟩
        have e : ((laidD b).B.length : Int) = (m : Int) := by rw [H.out.2.1]; rfl
        rw [e] at x3 x4
        rcases hbad with h1 | h1 | h1 | h1 <;> omega
      rw [hb, if_neg (by decide)]
  have HE := Lib.hid he
  have hor : at_ < 0 ∨ (0 ≤ at_ ∧ size < 5) ∨ (0 ≤ at_ ∧ 5 ≤ size ∧ (m : Int) < at_) ∨ (0 ≤ at_ ∧ 5 ≤ size ∧ at_ ≤ (m : Int) ∧ (m : Int) - at_ < size) := by omega
  clear he hbad
  rcases hor with h1 | ⟨h1, h2⟩ | ⟨h1, h2, h3⟩ | ⟨h1, h2, h3, h4⟩
  all_goals
    go_enter Tryd.func3, Tryd.ntmps3
    go_upto_region 4 with (go_at_call 8; go_must (refine (live_new B w m (by omega) (by omega) (m : Int) rfl).mono ?_; rintro y w1 ⟨p, S, rfl, h1⟩; have L1 := Lib.hid h1; clear h1))
    have cW := live_write L1.out 0 _ m c b (by unfold inI; omega) (by show 0 < 100000; omega) (L1.out.arg H.out.1)
    rw [LP.out.1, er_zero] at cW
    have CW := Lib.hid cW
    clear cW
    go_upto_region 6 with (first
      | (go_at_call 10; (have cS := live_sync L2.out; rw [LS.out.1, LS.out.2, er_zero] at cS; refine cS.mono ?_; rintro y w3 ⟨S3, rfl, h3, -⟩; have L3 := Lib.hid h3; clear h3 cS))
      | (go_at_call 9; go_must (refine CW.out.mono ?_; rintro y w2 ⟨S2, rfl, h2, -⟩; have L2 := Lib.hid h2; clear h2)))
    go_upto_region 7 with (go_at_call 11; go_must (have cO := Open_no L3.out.dk at_ size HI.out.1 HI.out.2 (by rw [HE.out]; decide); rw [HE.out] at cO; refine cO.mono ?_; rintro y w4 ⟨rfl, hb4⟩; rw [er_ne (by decide)]; have B4 := Lib.hid (L3.out.below.trans (hb4.mono L3.out.size)); clear hb4 cO))
    go_wp2_with (first
      | (go_at_call 7; (refine (sure_any B w5).mono ?_; rintro y w6 ⟨rfl, hb6⟩; have B6 := Lib.hid (B5.out.trans (hb6.mono B5.out.size)); clear hb6))
      | (go_at_call 12; go_must (refine (num_some 1 w4 (HS.out.below HS.out.size B4.out)).mono ?_; rintro y w5 ⟨rfl, hb5⟩; have B5 := Lib.hid (B4.out.trans (hb5.mono B4.out.size)); clear hb5)))
    go_ret
    exact ⟨rfl, B6.out⟩

end Go.Proofs.YthcikgbnenfjpaaDoor.pk
