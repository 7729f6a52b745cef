/-
  The law's own 'sure': it answers true whatever the world is.
-/
import Derived.Test.YteblpfnmcbehmaaDoorWr2
import Derived.Test.YteblpfnmcbehmaaDoorNum
import Derived.Lib.SlBytesConst
namespace Go.Proofs.YteblpfnmcbehmaaDoor.pk
open Go Go.RowKit
set_option maxRecDepth 100000

theorem sure_text : ((([] ++ lUint 300) ++ lBool true) ++ lText [97, 98] : List UInt8) = [110, 51, 48, 48, 59, 121, 116, 50, 58, 97, 98] := by
  have h3 : Lib.decDigits 300 = [51, 48, 48] := by
    rw [Lib.decDigits, dif_neg (by decide), Lib.decDigits, dif_neg (by decide), Lib.decDigits, dif_pos (by decide)]
    decide
  have h2 : Lib.decDigits 2 = [50] := by
    rw [Lib.decDigits, dif_pos (by decide)]
    decide
  simp [lUint, lBool, lText, lHead, h3, h2]

theorem sure_int : (rInt ([105, 45, 55, 59], 0)).2 = -7 := by decide +kernel

theorem sure_any (w : World) (hs : Std w) :
    Calls Tryd.prog 23 #[] w fun x w' => x = .returned (.bool true) ∧ Below w.heap.size w w' := by
  have hG := hs.size
  have kc := fun (w : World) (C : Array Value) (n c : Nat) => Lib.run_convert_bytes_const (P := Tryd.prog) w 24 5 C n c Tryd.underlying24 Tryd.underlying5
  go_enter Tryd.func23, Tryd.ntmps23
  go_wp2_with fail
  refine (New_any w).mono ?_
  rintro x w1 ⟨rfl, h1, hb1⟩
  have HB1 := Lib.hid hb1
  have HS1 := Lib.hid (hs.below hG hb1)
  have H1 := Lib.hid h1
  clear h1 hb1
  go_wp2_with fail
  refine (Writer_Uint w.heap.size w.heap.size 300 (by omega) _ [] _ HS1.out hG H1.out (by simp)).mono ?_
  rintro x w2 ⟨v2, rfl, h2, hk2⟩
  have HB2 := Lib.hid (HB1.out.trans hk2.below)
  have H2 := Lib.hid h2
  clear h2 hk2
  go_wp2_with fail
  refine (Writer_Bool w.heap.size w.heap.size true _ _ _ H2.out (by simp [lUint, Lib.decDigits])).mono ?_
  rintro x w3 ⟨v3, rfl, h3, hk3⟩
  have HB3 := Lib.hid (HB2.out.trans hk3.below)
  have H3 := Lib.hid h3
  clear h3 hk3
  go_wp2_with fail
  refine (Writer_Text w.heap.size w.heap.size ⟨#[97, 98]⟩ (by decide) _ _ _ (hs.below hG HB3.out) hG H3.out (by simp [lUint, Lib.decDigits, lBool]; decide)).mono ?_
  rintro x w4 ⟨v4, rfl, h4, hk4⟩
  have HB4 := Lib.hid (HB3.out.trans hk4.below)
  have h4' : WR w4 w.heap.size w.heap.size v4 [110, 51, 48, 48, 59, 121, 116, 50, 58, 97, 98] := by
    have := h4
    rw [show (⟨#[97, 98]⟩ : ByteArray).data.toList = [97, 98] from rfl, sure_text] at this
    exact this
  have H4 := Lib.hid h4'
  clear h4 hk4 h4'
  go_wp2_with fail
  refine (Writer_Done _ _ _ _ _ H4.out (by simp)).mono ?_
  rintro x w5 ⟨u, rfl, hown, hb5⟩
  have HB5 := Lib.hid (HB4.out.trans (hb5.mono HB4.out.size))
  have hS : Sl w5 w5.heap.size u [110, 51, 48, 48, 59, 121, 116, 50, 58, 97, 98] := Sl.of_own hown _ fun g hg => (hown.lt g hg).2
  obtain ⟨A, c, rfl, hx⟩ := hS
  have hcv := conv_bytes (show Sl w5 w5.heap.size (.slice A 11 c) [110, 51, 48, 48, 59, 121, 116, 50, 58, 97, 98] from ⟨A, c, rfl, hx⟩)
  clear hown hb5 hx
  simp only [List.length_cons, List.length_nil, Nat.zero_add, Nat.reduceAdd]
  go_wp2_with fail
  have hS2 : Sl (w5.alloc (.cells #[.int .u8 105, .int .u8 45, .int .u8 55, .int .u8 59] 5 (4, 5))) (w5.heap.size + 1) (.slice (some ⟨w5.heap.size, 0, none⟩) 4 4) [105, 45, 55, 59] := by
    refine ⟨some ⟨w5.heap.size, 0, none⟩, 4, rfl, by simp, by omega, Or.inr ⟨w5.heap.size, 0, rfl, by omega, ?_⟩⟩
    intro j hj
    have : j = 0 ∨ j = 1 ∨ j = 2 ∨ j = 3 := by simp at hj; omega
    rcases this with rfl | rfl | rfl | rfl
    all_goals
      rw [cell_of_row _ w5.heap.size _ _ _ (4, 5) (heap_alloc_new w5 _)]
      rfl
  refine (Read_any _ _ _ _ _ _ hS2 (by simp)).mono ?_
  rintro x w6 ⟨p, v6, rfl, hp6, h6, hb6⟩
  have HB6 := Lib.hid ((HB5.out.alloc HB5.out.size _).trans (hb6.mono (by simp; have := HB5.out.size; omega)))
  have H6 := Lib.hid h6
  clear h6 hb6 hS2 hcv
  go_wp2_with fail
  refine (Int_any p ([105, 45, 55, 59], 0) v6 _ (hs.below hG HB6.out) H6.out).mono ?_
  rintro x w7 ⟨v7, rfl, h7, hg7⟩
  rw [sure_int]
  have HB7 := Lib.hid (HB6.out.grown hg7 HB6.out.size (fun k hk => by injection hk with hk; subst hk; have := HB5.out.size; have := World.size_alloc w5 (.cells #[.int .u8 105, .int .u8 45, .int .u8 55, .int .u8 59] 5 (4, 5)); omega))
  clear h7 hg7
  go_wp2
  go_ret
  exact ⟨rfl, HB7.out⟩

end Go.Proofs.YteblpfnmcbehmaaDoor.pk
