/-
  The law PairReads' own walk.
-/
import Derived.Test.YtebgnhkcngmgeaaDoorConP
namespace Go.Proofs.YtebgnhkcngmgeaaDoor.pk
open Go Go.RowKit Ieee
set_option maxRecDepth 100000

theorem below_drawP {B : Nat} {w w' : World} (h : Below B w w') (n : Nat) : Below B w (w'.drewN n) := ⟨h.os, h.tape, h.output, h.size, h.block⟩

set_option maxHeartbeats 2000000 in
theorem reads_true (C : ConP) (s : ByteArray) (w : World) (hsz : s.size ≤ 281474976710656) (hs : StdP w) :
    Calls Tryd.prog 3 #[.string s] w fun e w' => e = .returned (.bool true) ∧ Below w.heap.size w w' := by
  obtain ⟨p, hp⟩ : ∃ p, readP s.data.toList = p := ⟨_, rfl⟩
  have cR := C.cRead s w hsz hs
  have cF := fun (W : World) => readR_any s W (by unfold maxLen; omega)
  have cS := fun (W : World) (hW : StdP W) => same_any p (hp ▸ few_readP _) 3 W hW.std
  rw [hp] at cR
  simp only [hp] at cF
  cases p with
  | none =>
    have CR := Lib.hid cR
    have CF := Lib.hid cF
    have CS := Lib.hid cS
    have HS := Lib.hid hs
    clear cR cF cS hp hs
    simp only [amtV, errK, ev] at CR CF CS
    go_enter Tryd.func3, Tryd.ntmps3
    go_wp2_with (first
      | (go_at_call 4; go_must (refine CR.out.mono ?_; rintro y w1 ⟨rfl, hb⟩; have HB1 := Lib.hid hb; clear hb))
      | (go_at_call 5; go_must (refine (CF.out _).mono ?_; rintro y w2 ⟨rfl, k2, rfl⟩; have HB2 := Lib.hid (below_drawP HB1.out k2)))
      | (go_at_call 6; go_must (refine (CS.out _ (HS.out.more HB2.out)).mono ?_; rintro y w3 ⟨rfl, hb⟩; have HB3 := Lib.hid (HB2.out.trans (hb.mono HB2.out.size)); clear hb))
      | (go_at_call 8; go_must (refine (sureP_any C _ (HS.out.more HB3.out)).mono ?_; rintro y w4 ⟨rfl, hb⟩; have HB4 := Lib.hid (HB3.out.trans (hb.mono HB3.out.size)); clear hb)))
    go_ret
    exact ⟨rfl, HB4.out⟩
  | some a =>
    have hsh := readP_show (x := a.1) (y := a.2) hp
    have cW := fun (W : World) (hW : StdP W) => C.cShow a.1 a.2 W hsh.2.1 hsh.2.2 hW
    rw [hsh.1] at cW
    have CW := Lib.hid cW
    have CR := Lib.hid cR
    have CF := Lib.hid cF
    have CS := Lib.hid cS
    have HS := Lib.hid hs
    clear cR cF cS hp hs cW hsh
    simp only [amtV, errK, ev] at CR CF CS
    obtain ⟨x, hx⟩ : ∃ x, x = fB a.1 := ⟨_, rfl⟩
    obtain ⟨z, hz⟩ : ∃ z, z = fB a.2 := ⟨_, rfl⟩
    rw [← hx, ← hz] at CR CW CS
    simp only [← hx, ← hz] at CF
    clear hx hz
    go_enter Tryd.func3, Tryd.ntmps3
    go_wp2_with (first
      | (go_at_call 4; go_must (refine CR.out.mono ?_; rintro y w1 ⟨rfl, hb⟩; have HB1 := Lib.hid hb; clear hb))
      | (go_at_call 5; go_must (refine (CF.out _).mono ?_; rintro y w2 ⟨rfl, k2, rfl⟩; have HB2 := Lib.hid (below_drawP HB1.out k2)))
      | (go_at_call 6; go_must (refine (CS.out _ (HS.out.more HB2.out)).mono ?_; rintro y w3 ⟨rfl, hb⟩; have HB3 := Lib.hid (HB2.out.trans (hb.mono HB2.out.size)); clear hb))
      | (go_at_call 7; go_must (refine (CW.out _ (HS.out.more HB3.out)).mono ?_; rintro y w5 ⟨rfl, hb⟩; have HB5 := Lib.hid (HB3.out.trans (hb.mono HB3.out.size)); clear hb))
      | (go_at_call 8; go_must (refine (sureP_any C _ (HS.out.more HB5.out)).mono ?_; rintro y w4 ⟨rfl, hb⟩; have HB4 := Lib.hid (HB5.out.trans (hb.mono HB5.out.size)); clear hb)))
    go_ret
    exact ⟨rfl, HB4.out⟩

end Go.Proofs.YtebgnhkcngmgeaaDoor.pk
