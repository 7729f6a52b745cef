/-
  The law SealOpens' own walk: what any bytes are, opened, or the error.
-/
import Derived.Test.YtgkjcdhkiclheaaDoorMakes
namespace Go.Proofs.YtgkjcdhkiclheaaDoor.pk
open Go Go.RowKit
set_option maxRecDepth 100000

set_option maxHeartbeats 1000000 in
theorem opens_true (C : Con) (A : Option Addr) (n c : Nat) (b : List UInt8) (w : World) (hs : Std w) (h : Sl w w.heap.size (.slice A n c) b) :
    Calls Tryd.prog 4 #[.slice A n c] w fun x w' => x = .returned (.bool true) ∧ Below w.heap.size w w' := by
  have hG := hs.size
  have HS := Lib.hid hs
  have H := Lib.hid h
  clear h hs
  by_cases hl : 20000 < n
  · have i1 : (20000 : Int) < (n : Int) := by omega
    clear hl
    go_enter Tryd.func4, Tryd.ntmps4
    go_wp2_with (go_at_call 6; go_must (refine (sure_any C _).mono ?_; rintro y w1 ⟨rfl, hb1⟩; have HB1 := Lib.hid hb1; clear hb1))
    go_ret
    exact ⟨rfl, HB1.out⟩
  · have i1 : ¬ (20000 : Int) < (n : Int) := by omega
    clear hl
    have h1 := C.cOpen A n c b w _ (Nat.le_refl _) H.out
    have h2 := fun (w2 : World) (hb : Below w.heap.size w w2) => RefOpen_any A n c b w2 w.heap.size hb.size (H.out.below hb)
    generalize openE b = E at h1 h2
    generalize openX b = S at h1 h2
    generalize ((openK b).toNat : Int) = kI at h1 h2
    have H1 := Lib.hid h1
    have H2 := Lib.hid h2
    clear h1 h2
    go_enter Tryd.func4, Tryd.ntmps4
    go_upto_region 5 with (first
      | (go_at_call 10; go_must (refine H1.out.mono ?_; rintro y w1 ⟨v1, rfl, hs1, hb1⟩; obtain ⟨A1, n1, c1, hv1⟩ := hs1.form; subst hv1; have T1 := Lib.hid hs1; have HB1 := Lib.hid hb1; clear hb1 hs1))
      | (go_at_call 11; go_must (refine (H2.out _ HB1.out).mono ?_; rintro y w2 ⟨v2, rfl, hs2, hb2⟩; obtain ⟨A2, n2, c2, hv2⟩ := hs2.form; subst hv2; have hc1 := conv_bytes (T1.out.below hb2); have hc2 := conv_bytes hs2; have HB2 := Lib.hid (HB1.out.trans (hb2.mono HB1.out.size)); clear hb2 hs2)))
    go_wp2_with (first
      | (go_at_call 9; go_must (refine (num_er E _ (HS.out.below hG HB2.out)).mono ?_; rintro y w3 ⟨rfl, hb3⟩; have HB3 := Lib.hid (HB2.out.trans (hb3.mono HB2.out.size)); clear hb3))
      | (go_at_call 6; go_must (refine (sure_any C _).mono ?_; rintro y w5 ⟨rfl, hb5⟩; have HB5 := Lib.hid (HB3.out.trans (hb5.mono HB3.out.size)); clear hb5)))
    go_ret
    exact ⟨rfl, HB5.out⟩

end Go.Proofs.YtgkjcdhkiclheaaDoor.pk
