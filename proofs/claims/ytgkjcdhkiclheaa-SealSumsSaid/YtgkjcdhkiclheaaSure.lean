/-
  The law's own 'sure': it answers true.
-/
import Derived.Test.YtgkjcdhkiclheaaCon
import Derived.Lib.SlBytesConst
namespace Go.Proofs.Ytgkjcdhkiclheaa.pk
open Go Go.RowKit
set_option maxRecDepth 100000

set_option maxHeartbeats 1000000 in
theorem sure_any (C : Con) (w : World) : Calls Try.prog 4 #[] w fun x w' => x = .returned (.bool true) ∧ Below w.heap.size w w' := by
  obtain ⟨W0, hW0⟩ : ∃ W0, W0 = w.alloc (.cells #[.int .u8 97, .int .u8 98] 5 (2, 3)) := ⟨_, rfl⟩
  have hb0 : Below w.heap.size w W0 := by rw [hW0]; exact (Below.refl _ _).alloc (Nat.le_refl _) _
  have hl0 : Sl W0 W0.heap.size (.slice (some ⟨w.heap.size, 0, none⟩) 2 2) [97, 98] := by rw [hW0]; exact Sl.lit w 5 [97, 98] _ (by simp) (by simp) (2, 3)
  have HB0 := Lib.hid hb0
  have h1 := C.cSeal 7 (some ⟨w.heap.size, 0, none⟩) 2 2 [97, 98] W0 W0.heap.size (Nat.le_refl _) hl0
  rw [sealE_ab, er_zero] at h1
  have H1 := Lib.hid h1
  obtain ⟨oE, oK, oX⟩ := seal_open 7 [97, 98] sealE_ab
  generalize sealB 7 [97, 98] = S at h1 H1 oE oK oX
  have HO : Hid (openE S = 0 ∧ openK S = 7 ∧ openX S = [97, 98]) := Lib.hid ⟨oE, oK, oX⟩
  clear hb0 hl0 h1 oE oK oX
  go_enter Try.func4, Try.ntmps4
  have kc := fun (w : World) (C : Array Value) (n c : Nat) => Lib.run_convert_bytes_const (P := Try.prog) w 22 5 C n c Try.underlying22 Try.underlying5
  go_wp2_with fail
  rw [← hW0]
  clear hW0
  go_upto_region 3 with (first
    | (go_at_call 8; go_must (refine H1.out.mono ?_; rintro y w1 ⟨v1, rfl, ho1, hb1⟩; obtain ⟨A1, c1, rfl, hs1⟩ := own_sl ho1 rfl; have T1 := Lib.hid hs1; have HB1 := Lib.hid (HB0.out.trans (hb1.mono HB0.out.size)); clear ho1 hb1 hs1))
    | (go_at_call 9; go_must (refine (C.cOpen A1 _ c1 S _ _ (Nat.le_refl _) T1.out).mono ?_; rw [HO.out.1, HO.out.2.1, HO.out.2.2, er_zero]; rintro y w2 ⟨v2, rfl, hs2, hb2⟩; obtain ⟨A2, n2, c2, hv2⟩ := hs2.form; subst hv2; have hcv := conv_bytes hs2; have HB2 := Lib.hid (HB1.out.trans (hb2.mono HB1.out.size)); clear hb2 hs2)))
  obtain ⟨W3, hW3⟩ : ∃ W3, W3 = w2.alloc (.cells #[.int .u8 49, .int .u8 50, .int .u8 51, .int .u8 52, .int .u8 53, .int .u8 54, .int .u8 55, .int .u8 56, .int .u8 57] 5 (9, 10)) := ⟨_, rfl⟩
  have hb3 : Below w.heap.size w W3 := by rw [hW3]; exact HB2.out.alloc HB2.out.size _
  have hl3 : Sl W3 W3.heap.size (.slice (some ⟨w2.heap.size, 0, none⟩) 9 9) [49, 50, 51, 52, 53, 54, 55, 56, 57] := by rw [hW3]; exact Sl.lit w2 5 [49, 50, 51, 52, 53, 54, 55, 56, 57] _ (by simp) (by simp) (9, 10)
  have h3 := C.cSum _ _ _ _ _ _ (Nat.le_refl _) hl3
  rw [sum_check, hW3] at h3
  have H3 := Lib.hid h3
  rw [hW3] at hb3
  have HB3 := Lib.hid hb3
  clear hW3 hb3 hl3 h3
  go_wp2_with (go_at_call 5; go_must (refine H3.out.mono ?_; rintro y w4 ⟨rfl, hb4⟩; have HB4 := Lib.hid (HB3.out.trans (hb4.mono HB3.out.size)); clear hb4))
  go_ret
  exact ⟨rfl, HB4.out⟩

end Go.Proofs.Ytgkjcdhkiclheaa.pk
