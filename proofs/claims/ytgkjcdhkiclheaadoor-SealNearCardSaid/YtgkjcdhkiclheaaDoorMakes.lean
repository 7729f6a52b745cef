/-
  The law SealMakes' own walk: any bytes of any kind sealed as the document seals them, and opened as they were.
-/
import Derived.Test.YtgkjcdhkiclheaaDoorSure
import Derived.Test.YtgkjcdhkiclheaaDoorRefOpen
import Derived.Test.YtgkjcdhkiclheaaDoorNum
namespace Go.Proofs.YtgkjcdhkiclheaaDoor.pk
open Go Go.RowKit
set_option maxRecDepth 100000

theorem num_er (k : Nat) (w : World) (hs : Std w) :
    Calls Tryd.prog 9 #[er k] w fun x w' => x = .returned (.int .i64 (k : Int)) ∧ Below w.heap.size w w' := num_any k w hs

set_option maxHeartbeats 1000000 in
theorem makes_true (C : Con) (kind : UInt8) (A : Option Addr) (n c : Nat) (b : List UInt8) (w : World) (hs : Std w) (h : Sl w w.heap.size (.slice A n c) b) :
    Calls Tryd.prog 3 #[.int .u8 (kind.toNat : Int), .slice A n c] w fun x w' => x = .returned (.bool true) ∧ Below w.heap.size w w' := by
  have hG := hs.size
  have HS := Lib.hid hs
  have H := Lib.hid h
  obtain ⟨hn, _, _⟩ := h.len
  clear h hs
  by_cases hl : 20000 < n
  · have i1 : (20000 : Int) < (n : Int) := by omega
    clear hn hl
    go_enter Tryd.func3, Tryd.ntmps3
    go_wp2_with (go_at_call 6; go_must (refine (sure_any C _).mono ?_; rintro y w1 ⟨rfl, hb1⟩; have HB1 := Lib.hid hb1; clear hb1))
    go_ret
    exact ⟨rfl, HB1.out⟩
  · have i1 : ¬ (20000 : Int) < (n : Int) := by omega
    clear hn hl
    obtain ⟨E, hE⟩ : ∃ E, E = sealE kind b := ⟨_, rfl⟩
    have h1 := C.cSeal kind A n c b w _ (Nat.le_refl _) H.out
    rw [← hE] at h1
    have h2 := fun (w2 : World) (hb : Below w.heap.size w w2) => RefSeal_any kind A n c b w2 w.heap.size hb.size (H.out.below hb)
    rw [← hE] at h2
    have HO : Hid (E = 0 → openE (sealB kind b) = 0 ∧ openK (sealB kind b) = kind ∧ openX (sealB kind b) = b) := Lib.hid fun h0 => seal_open kind b (by rw [← hE, h0])
    have HC0 := Lib.hid (conv_bytes H.out)
    generalize sealB kind b = S at h1 h2 HO
    have H1 := Lib.hid h1
    have H2 := Lib.hid h2
    clear h1 h2 hE
    by_cases hE0 : E = 0
    · subst hE0
      have ho := HO.out rfl
      have HP := Lib.hid ho
      clear ho HO
      rw [er_zero] at H1
      have hz0 : ((0 : Nat) : Int) = 0 := rfl
      go_enter Tryd.func3, Tryd.ntmps3
      go_upto_region 5 with (first
        | (go_at_call 7; go_must (refine H1.out.mono ?_; rintro y w1 ⟨v1, rfl, ho1, hb1⟩; obtain ⟨A1, c1, rfl, hs1⟩ := own_sl ho1 rfl; have T1 := Lib.hid hs1; have HB1 := Lib.hid hb1; clear ho1 hb1 hs1))
        | (go_at_call 8; go_must (refine (H2.out _ HB1.out).mono ?_; rintro y w2 ⟨v2, rfl, hs2, hb2⟩; obtain ⟨A2, n2, c2, hv2⟩ := hs2.form; subst hv2; have T2 := Lib.hid hs2; have HT1 := Lib.hid ((T1.out.below hb2).more hb2.size); have HB2 := Lib.hid (HB1.out.trans (hb2.mono HB1.out.size)); clear hb2 hs2)))
      have hz2 := HB2.out.size
      generalize S.length = N at HT1
      go_upto_region 7 with (go_at_call 9; go_must (refine (num_er 0 _ (HS.out.below hG HB2.out)).mono ?_; rintro y w3 ⟨rfl, hb3⟩; have HB3 := Lib.hid (HB2.out.trans (hb3.mono hz2)); have HT3 := Lib.hid ((HT1.out.below hb3).more hb3.size); have hc1 := conv_bytes HT3.out; have hc2 := conv_bytes (T2.out.below hb3); clear hb3))
      have hz3 := HB3.out.size
      go_upto_region 10 with (go_at_call 10; go_must (refine (C.cOpen A1 N c1 S _ _ (Nat.le_refl _) HT3.out).mono ?_; rw [HP.out.1, HP.out.2.1, HP.out.2.2, er_zero]; rintro y w4 ⟨v4, rfl, hs4, hb4⟩; obtain ⟨A4, n4, c4, hv4⟩ := hs4.form; subst hv4; have hc4 := conv_bytes hs4; have HB4 := Lib.hid (HB3.out.trans (hb4.mono hz3)); have hc5 := conv_bytes (H.out.below (HB3.out.trans (hb4.mono hz3))); clear hb4 hs4))
      clear hc1 hc2
      go_wp2_with (go_at_call 6; go_must (refine (sure_any C _).mono ?_; rintro y w5 ⟨rfl, hb5⟩; have HB5 := Lib.hid (HB4.out.trans (hb5.mono HB4.out.size)); clear hb5))
      go_ret
      exact ⟨rfl, HB5.out⟩
    · have hEI : ¬ (E : Int) = 0 := by omega
      have hEB : ((E : Int) == 0) = false := by rw [beq_eq_false_iff_ne]; exact hEI
      clear hE0 HO
      go_enter Tryd.func3, Tryd.ntmps3
      go_upto_region 5 with (first
        | (go_at_call 7; go_must (refine H1.out.mono ?_; rintro y w1 ⟨v1, rfl, ho1, hb1⟩; obtain ⟨A1, c1, rfl, hs1⟩ := own_sl ho1 rfl; have T1 := Lib.hid hs1; have HB1 := Lib.hid hb1; clear ho1 hb1 hs1))
        | (go_at_call 8; go_must (refine (H2.out _ HB1.out).mono ?_; rintro y w2 ⟨v2, rfl, hs2, hb2⟩; obtain ⟨A2, n2, c2, hv2⟩ := hs2.form; subst hv2; have T2 := Lib.hid hs2; have HT1 := Lib.hid ((T1.out.below hb2).more hb2.size); have HB2 := Lib.hid (HB1.out.trans (hb2.mono HB1.out.size)); clear hb2 hs2)))
      have hz2 := HB2.out.size
      generalize S.length = N at HT1
      go_wp2_with (first
        | (go_at_call 9; go_must (refine (num_er E _ (HS.out.below hG HB2.out)).mono ?_; rintro y w3 ⟨rfl, hb3⟩; have HB3 := Lib.hid (HB2.out.trans (hb3.mono hz2)); have hc1 := conv_bytes (HT1.out.below hb3); have hc2 := conv_bytes (T2.out.below hb3); clear hb3))
        | (go_at_call 6; go_must (refine (sure_any C _).mono ?_; rintro y w5 ⟨rfl, hb5⟩; have HB5 := Lib.hid (HB3.out.trans (hb5.mono HB3.out.size)); clear hb5)))
      go_ret
      exact ⟨rfl, HB5.out⟩

end Go.Proofs.YtgkjcdhkiclheaaDoor.pk
