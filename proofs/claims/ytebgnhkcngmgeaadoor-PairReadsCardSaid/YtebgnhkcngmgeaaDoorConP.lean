/-
  What the program's package is asked for by the law PairReads: as contracts.
-/
import Derived.Test.YtebgnhkcngmgeaaDoorSameP
import Derived.Test.YtebgnhkcngmgeaaDoorStdP
namespace Go.Proofs.YtebgnhkcngmgeaaDoor.pk
open Go Go.RowKit Ieee
set_option maxRecDepth 100000

structure ConP : Prop where
  cRead : ∀ (s : ByteArray) (w : World), s.size ≤ 281474976710656 → StdP w → Calls Tryd.prog 4 #[.string s] w fun e w' => e = .returned (.tuple #[amtV (readP s.data.toList), ev (errK 3 (readP s.data.toList))]) ∧ Below w.heap.size w w'
  cShow : ∀ (x y : Nat) (w : World), x ≤ mostN → y ≤ mostN → StdP w → Calls Tryd.prog 7 #[.complex .f64 (fB x) (fB y)] w fun e w' => e = .returned (.string ⟨(showP x y).toArray⟩) ∧ Below w.heap.size w w'
  cAdd : ∀ (x y u v : Nat) (w : World), x + u ≤ mostN → y + v ≤ mostN → StdP w → Calls Tryd.prog 15 #[.complex .f64 (fB x) (fB y), .complex .f64 (fB u) (fB v)] w fun e w' => e = .returned (.tuple #[.complex .f64 (fB (x + u)) (fB (y + v)), .nilIface]) ∧ Below w.heap.size w w'
  cMay : ∀ (x y : Nat) (w : World), x ≤ mostN → y ≤ mostN → StdP w → Calls Tryd.prog 16 #[.complex .f64 (fB x) (fB y)] w fun e w' => e = .returned (.bool true) ∧ Below w.heap.size w w'
  cNot : ∀ (x y : Nat) (w : World), x < 18446744073709551616 → y < 18446744073709551616 → amt x = none → StdP w → Calls Tryd.prog 16 #[.complex .f64 x y] w fun e w' => e = .returned (.bool false) ∧ Below w.heap.size w w'

theorem num3 : fB 3 = 4613937818241073152 := rfl
theorem num4' : fB 4 = 4616189618054758400 := rfl
theorem num1 : fB 1 = 4607182418800017408 := rfl
theorem num5 : fB 5 = 4617315517961601024 := rfl
theorem amt_minus : amt 13830554455654793216 = none := by decide
theorem show45 : showP 4 5 = [52, 47, 53] := by
  unfold showP
  rw [Lib.decDigits_one (by omega), Lib.decDigits_one (by omega)]
  rfl

set_option maxHeartbeats 1000000 in
theorem sureP_any (C : ConP) (w : World) (hs : StdP w) : Calls Tryd.prog 8 #[] w fun e w' => e = .returned (.bool true) ∧ Below w.heap.size w w' := by
  have A1 := Lib.hid fun (W : World) (hW : StdP W) => C.cAdd 3 4 1 1 W (by unfold mostN; omega) (by unfold mostN; omega) hW
  have A2 := Lib.hid fun (W : World) (hW : StdP W) => C.cShow 4 5 W (by unfold mostN; omega) (by unfold mostN; omega) hW
  have A3 := Lib.hid fun (W : World) (hW : StdP W) => C.cNot 13830554455654793216 0 W (by omega) (by omega) amt_minus hW
  have A4 := Lib.hid fun (W : World) (hW : StdP W) => C.cMay 3 4 W (by unfold mostN; omega) (by unfold mostN; omega) hW
  have o4 : FloatKind.f64.format.order 4616189618054758400 4616189618054758400 = some .eq := ord_same (x := 4) (by unfold mostN; omega)
  have o5 : FloatKind.f64.format.order 4617315517961601024 4617315517961601024 = some .eq := ord_same (x := 5) (by unfold mostN; omega)
  rw [num3, num4'] at A4
  rw [num3, num4', num1, show fB (4 + 1) = 4617315517961601024 from rfl] at A1
  rw [num4', num5, show45] at A2
  have HS := Lib.hid hs
  have HB0 := Lib.hid (Below.refl w.heap.size w)
  clear hs
  go_enter Tryd.func8, Tryd.ntmps8
  go_wp2_with (first
    | (go_at_call 15; go_must (refine (A1.out w HS.out).mono ?_; rintro y w1 ⟨rfl, hb⟩; have HB1 := Lib.hid hb; clear hb))
    | (go_at_call 7; go_must (refine (A2.out _ (HS.out.more HB1.out)).mono ?_; rintro y w2 ⟨rfl, hb⟩; have HB2 := Lib.hid (HB1.out.trans (hb.mono HB1.out.size)); clear hb))
    | (go_at_call 16; (first
      | (refine (A4.out _ (HS.out.more HB3.out)).mono ?_; rintro y w4 ⟨rfl, hb⟩; have HB4 := Lib.hid (HB3.out.trans (hb.mono HB3.out.size)); clear hb)
      | (refine (A3.out _ (HS.out.more HB2.out)).mono ?_; rintro y w3 ⟨rfl, hb⟩; have HB3 := Lib.hid (HB2.out.trans (hb.mono HB2.out.size)); clear hb))))
  go_ret
  exact ⟨rfl, HB4.out⟩

end Go.Proofs.YtebgnhkcngmgeaaDoor.pk
