/-
  The law SealSums' own walk: the sum of any bytes, and of two parts of them.
-/
import Derived.Test.YtgkjcdhkiclheaaSure
import Derived.Test.YtgkjcdhkiclheaaRefSum
namespace Go.Proofs.Ytgkjcdhkiclheaa.pk
open Go Go.RowKit
set_option maxRecDepth 100000

set_option maxHeartbeats 1000000 in
theorem sums_true (C : Con) (A A' : Option Addr) (n c n' c' : Nat) (a b : List UInt8) (w : World) (ha : Sl w w.heap.size (.slice A n c) a) (hb : Sl w w.heap.size (.slice A' n' c') b)
    (hla : a.length ≤ 140737488355328) (hlb : b.length ≤ 140737488355328) :
    Calls Try.prog 3 #[.slice A n c, .slice A' n' c'] w fun x w' => x = .returned (.bool true) ∧ Below w.heap.size w w' := by
  obtain ⟨i0, hi, hz0, hz1, hz2⟩ := info_parts info_u8
  obtain ⟨hn, _, _⟩ := ha.len
  obtain ⟨hn', _, _⟩ := hb.len
  have Ha := Lib.hid ha
  have Hb := Lib.hid hb
  have iw : IntKind.i64.wrap ((n : Int) + (n' : Int)) = ((n + n' : Nat) : Int) := by rw [IntWalk.i64_in _ (by omega)]; omega
  have HN := Lib.hid hn
  have HN' := Lib.hid hn'
  obtain ⟨M, hM⟩ : ∃ M, M = n + n' := ⟨_, rfl⟩
  rw [← hM] at iw
  have HM := Lib.hid hM
  clear ha hb
  by_cases hl : 20000 < M
  · have i1 : (20000 : Int) < (M : Int) := by omega
    clear hn hn' hM hl
    go_enter Try.func3, Try.ntmps3
    go_wp2_with (go_at_call 4; go_must (refine (sure_any C _).mono ?_; rintro y w1 ⟨rfl, hb1⟩; have HB1 := Lib.hid hb1; clear hb1))
    go_ret
    exact ⟨rfl, HB1.out⟩
  · have i1 : ¬ (20000 : Int) < (M : Int) := by omega
    have HL := Lib.hid (show a.length + b.length ≤ 20000 by omega)
    clear hn hn' hM hl
    go_enter Try.func3, Try.ntmps3
    go_upto_region 5 with (first
      | (at_builtin; refine wpList_append_sl rfl _ _ 22 rfl w.heap.size 5 i0 _ Try.underlying22 hi hz0 hz1 hz2 rfl _ _ _ rfl HO1.out w.heap.size A' n' c' b rfl (Hb.out.below HB1.out) (by have := HL.out; omega) HB1.out.size ?_; intro v2 w2 hown2 hg2; have HB2 := Lib.hid (HB1.out.grown hg2 HB1.out.size (fun k hk => (HO1.out.lt k hk).1)); have HO2 := Lib.hid (show w2.ownsRow w.heap.size 5 1 v2 (a.length + b.length) (Lib.byteCells (a ++ b)) from by simpa [Lib.byteCells] using hown2); clear hown2 hg2)
      | (at_builtin; refine wpList_append_sl rfl _ _ 22 rfl w.heap.size 5 i0 _ Try.underlying22 hi hz0 hz1 hz2 rfl (.slice none 0 0) 0 [] rfl (World.ownsRow_nil _ _ _ _) w.heap.size A n c a rfl Ha.out (by have := HL.out; omega) (Nat.le_refl _) ?_; intro v1 w1 hown1 hg1; have HB1 := Lib.hid ((Below.refl w.heap.size w).grown hg1 (Nat.le_refl _) (fun k hk => by cases hk)); have HO1 := Lib.hid (show w1.ownsRow w.heap.size 5 1 v1 a.length (Lib.byteCells a) from by simpa using hown1); clear hown1 hg1))
    obtain ⟨A2, c2, hv2, hs2⟩ := own_sl HO2.out (by rw [List.length_append])
    subst hv2
    have TA := Lib.hid hs2
    have HC2 := Lib.hid (Below.refl w2.heap.size w2)
    clear hs2
    generalize a.length + b.length = M2 at TA
    go_wp2_with (first
        | (go_at_call 4; go_must (refine (sure_any C _).mono ?_; rintro y w10 ⟨rfl, hb10⟩; have HC10 := Lib.hid (HC9.out.trans (hb10.mono HC9.out.size)); clear hb10))
        | (go_at_call 6; refine (RefSum_any A2 _ c2 (a ++ b) _ _ HC8.out.size (TA.out.below HC8.out)).mono ?_; rintro y w9 ⟨rfl, hb9⟩; have HC9 := Lib.hid (HC8.out.trans (hb9.mono HC8.out.size)); clear hb9)
        | (go_at_call 5; refine (C.cSum A2 _ c2 (a ++ b) _ _ HC7.out.size (TA.out.below HC7.out)).mono ?_; rintro y w8 ⟨rfl, hb8⟩; have HC8 := Lib.hid (HC7.out.trans (hb8.mono HC7.out.size)); clear hb8)
        | (go_at_call 6; refine (RefSum_any A2 _ c2 (a ++ b) _ _ HC6.out.size (TA.out.below HC6.out)).mono ?_; rintro y w7 ⟨rfl, hb7⟩; have HC7 := Lib.hid (HC6.out.trans (hb7.mono HC6.out.size)); clear hb7)
        | (go_at_call 7; refine (C.cMore (sum a) A' n' c' b _ _ (sum_lt a) (HB2.out.trans (HC5.out.mono HB2.out.size)).size (Hb.out.below (HB2.out.trans (HC5.out.mono HB2.out.size)))).mono ?_; rw [more_sum]; rintro y w6 ⟨rfl, hb6⟩; have HC6 := Lib.hid (HC5.out.trans (hb6.mono HC5.out.size)); clear hb6)
        | (go_at_call 5; refine (C.cSum A n c a _ _ (HB2.out.trans (HC4.out.mono HB2.out.size)).size (Ha.out.below (HB2.out.trans (HC4.out.mono HB2.out.size)))).mono ?_; rintro y w5 ⟨rfl, hb5⟩; have HC5 := Lib.hid (HC4.out.trans (hb5.mono HC4.out.size)); clear hb5)
        | (go_at_call 6; refine (RefSum_any A n c a _ _ (HB2.out.trans (HC3.out.mono HB2.out.size)).size (Ha.out.below (HB2.out.trans (HC3.out.mono HB2.out.size)))).mono ?_; rintro y w4 ⟨rfl, hb4⟩; have HC4 := Lib.hid (HC3.out.trans (hb4.mono HC3.out.size)); clear hb4)
        | (go_at_call 5; refine (C.cSum A n c a _ _ (HB2.out.trans (HC2.out.mono HB2.out.size)).size (Ha.out.below (HB2.out.trans (HC2.out.mono HB2.out.size)))).mono ?_; rintro y w3 ⟨rfl, hb3⟩; have HC3 := Lib.hid (HC2.out.trans (hb3.mono HC2.out.size)); clear hb3))
    go_ret
    exact ⟨rfl, HB2.out.trans (HC10.out.mono HB2.out.size)⟩

end Go.Proofs.Ytgkjcdhkiclheaa.pk
