/-
  The program's amounts: whether a number is one, of two numbers, its parts, its text, two together.
-/
import Derived.Test.YtebgnhkcngmgeaaDoorMineQ
import Derived.Test.YtebgnhkcngmgeaaDoorLoose
import Derived.Test.YtebgnhkcngmgeaaDoorShelf
import Derived.Lib.AppendIntMem
import Derived.Lib.ItoaLen
namespace Go.Proofs.YtebgnhkcngmgeaaDoor.pk
open Go Go.RowKit Ieee Go.Extern
set_option maxRecDepth 100000

set_option maxHeartbeats 1000000 in
theorem may_any (x y : Nat) (hx : x < 18446744073709551616) (hy : y < 18446744073709551616) (w : World) :
    Calls Tryd.prog 16 #[.complex .f64 x y] w fun e w' => e = .returned (.bool (amt2 x y).isSome) ∧ w' = w := by
  have c1 := fun W => part_any x hx W
  have c2 := fun W => part_any y hy W
  have hr : (amt2 x y).isSome = ((amt x).isSome && (amt y).isSome) := by
    unfold amt2 pairOf
    cases ha : amt x with
    | none => rfl
    | some a =>
      cases hb : amt y with
      | none => rfl
      | some b => simp [(amt_some ha).2, (amt_some hb).2]
  rw [hr]
  clear hr
  cases ha : (amt x).isSome with
  | false =>
    rw [ha] at c1
    have C1 := Lib.hid c1
    clear c1 c2 ha hx hy
    go_enter Tryd.func16, Tryd.ntmps16
    go_wp2_with (go_at_call 23; refine (C1.out _).mono ?_; rintro y W ⟨rfl, rfl⟩)
    go_ret
    exact ⟨rfl, rfl⟩
  | true =>
    obtain ⟨b, hb⟩ : ∃ b, b = (amt y).isSome := ⟨_, rfl⟩
    rw [← hb] at c2 ⊢
    rw [ha] at c1
    have C1 := Lib.hid c1
    have C2 := Lib.hid c2
    have tk : True := trivial
    clear c1 c2 ha hx hy hb
    go_enter Tryd.func16, Tryd.ntmps16
    go_wp2_with (first
      | (go_at_call 23; have _t := tk; clear tk; refine (C1.out _).mono ?_; rintro y1 W ⟨rfl, rfl⟩)
      | (go_at_call 23; refine (C2.out _).mono ?_; rintro y1 W ⟨rfl, rfl⟩))
    go_ret
    exact ⟨by simp, rfl⟩

set_option maxHeartbeats 1000000 in
theorem may_yes (x y : Nat) (hx : x ≤ mostN) (hy : y ≤ mostN) (w : World) :
    Calls Tryd.prog 16 #[.complex .f64 (fB x) (fB y)] w fun e w' => e = .returned (.bool true) ∧ w' = w := by
  have h := may_any (fB x) (fB y) (by have := fB_lt (Nat.lt_of_le_of_lt hx mostN_lt); omega) (by have := fB_lt (Nat.lt_of_le_of_lt hy mostN_lt); omega) w
  rw [amt2_fB hx hy] at h
  exact h

theorem fl_lt (a : Int) : floatOfInt .f64 a < 18446744073709551616 := FloatKind.f64.format.write_lt (.number (decide (a < 0)) a.natAbs 0)

set_option maxHeartbeats 1000000 in
theorem of_any (a b : Int) (w : World) :
    Calls Tryd.prog 19 #[.int .i64 a, .int .i64 b] w fun e w' => e = .returned (.tuple #[amtV (amt2 (floatOfInt .f64 a) (floatOfInt .f64 b)), ev (errK 1 (amt2 (floatOfInt .f64 a) (floatOfInt .f64 b)))]) ∧ w' = w := by
  obtain ⟨x, hx⟩ : ∃ x, floatOfInt .f64 a = x := ⟨_, rfl⟩
  obtain ⟨y, hy⟩ : ∃ y, floatOfInt .f64 b = y := ⟨_, rfl⟩
  have bx := fl_lt a
  have bY := fl_lt b
  rw [hx] at bx
  rw [hy] at bY
  rw [hx, hy]
  have cM := fun W => may_any x y bx bY W
  cases hm : amt2 x y with
  | none =>
    rw [hm] at cM
    have CM := Lib.hid cM
    clear cM hm bx bY
    simp only [amtV, errK, ev]
    go_enter Tryd.func19, Tryd.ntmps19
    go_wp2_with (go_at_call 16; refine (CM.out _).mono ?_; rintro y1 W ⟨rfl, rfl⟩)
    go_ret2
    exact ⟨rfl, rfl⟩
  | some p =>
    have hp : amtV (some p) = .complex .f64 x y := by
      unfold amt2 at hm
      obtain ⟨h1, h2, _, _⟩ := pairOf_some (x := p.1) (y := p.2) hm
      show Value.complex .f64 (fB p.1) (fB p.2) = _
      rw [← (amt_some h1).1, ← (amt_some h2).1]
    rw [hm] at cM
    rw [hp]
    have CM := Lib.hid cM
    clear cM hm bx bY hp
    simp only [errK, ev]
    go_enter Tryd.func19, Tryd.ntmps19
    go_wp2_with (go_at_call 16; refine (CM.out _).mono ?_; rintro y1 W ⟨rfl, rfl⟩)
    go_ret2
    exact ⟨rfl, rfl⟩

set_option maxHeartbeats 1000000 in
theorem parts_yes (x y : Nat) (hx : x ≤ mostN) (hy : y ≤ mostN) (w : World) :
    Calls Tryd.prog 13 #[.complex .f64 (fB x) (fB y)] w fun e w' => e = .returned (.tuple #[.int .i64 (x : Int), .int .i64 (y : Int), .nilIface]) ∧ w' = w := by
  have CM := Lib.hid fun W => may_yes x y hx hy W
  have c1 := toI (fB_toInt (Nat.lt_of_le_of_lt hx mostN_lt)) hx
  have c2 := toI (fB_toInt (Nat.lt_of_le_of_lt hy mostN_lt)) hy
  have hop1 : ∀ W, (convert 47 3 (.float .f64 (fB x))).run Tryd.prog W = .ok (.int .i64 x) W := fun W => run_convert_float_int W 47 3 .f64 .i64 (fB x) x (by rw [Tryd.underlying47]; rfl) Tryd.underlying3 c1
  have hop2 : ∀ W, (convert 47 3 (.float .f64 (fB y))).run Tryd.prog W = .ok (.int .i64 y) W := fun W => run_convert_float_int W 47 3 .f64 .i64 (fB y) y (by rw [Tryd.underlying47]; rfl) Tryd.underlying3 c2
  obtain ⟨p, hp⟩ : ∃ p, p = fB x := ⟨_, rfl⟩
  obtain ⟨q, hq⟩ : ∃ q, q = fB y := ⟨_, rfl⟩
  rw [← hp, ← hq] at CM
  rw [← hp] at hop1 ⊢
  rw [← hq] at hop2 ⊢
  clear hp hq c1 c2 hx hy
  go_enter Tryd.func13, Tryd.ntmps13
  go_wp2_with (first | simp only [hop1, hop2] | (go_at_call 16; refine (CM.out _).mono ?_; rintro y1 W ⟨rfl, rfl⟩))
  go_ret3
  exact ⟨rfl, rfl⟩

theorem itoa_nat (x : Nat) : Lib.itoa (x : Int) = Lib.decDigits x := by
  unfold Lib.itoa
  rw [if_neg (by omega), Int.toNat_natCast]

set_option maxHeartbeats 2000000 in
theorem show_yes (x y : Nat) (hx : x ≤ mostN) (hy : y ≤ mostN) (w : World) (hs : StdP w) :
    Calls Tryd.prog 7 #[.complex .f64 (fB x) (fB y)] w fun e w' => e = .returned (.string ⟨(showP x y).toArray⟩) ∧ Below w.heap.size w w' := by
  have CP := Lib.hid fun W => parts_yes x y hx hy W
  have ht := hs.tab
  have c1 := Tryd.strconv_Itoa (x : Int) (by omega) (by unfold mostN at hx; omega) w ht
  have c2 := fun W h => Tryd.strconv_Itoa (y : Int) (by omega) (by unfold mostN at hy; omega) W h
  rw [itoa_nat] at c1 c2
  have hl1 : (Lib.decDigits x).length ≤ 21 := by rw [← itoa_nat]; exact Lib.itoa_length_le _ (by omega) (by unfold mostN at hx; omega)
  have hl2 : (Lib.decDigits y).length ≤ 21 := by rw [← itoa_nat]; exact Lib.itoa_length_le _ (by omega) (by unfold mostN at hy; omega)
  unfold showP
  obtain ⟨l1, h1⟩ : ∃ l, l = Lib.decDigits x := ⟨_, rfl⟩
  obtain ⟨l2, h2⟩ : ∃ l, l = Lib.decDigits y := ⟨_, rfl⟩
  rw [← h1] at c1 hl1 ⊢
  rw [← h2] at c2 hl2 ⊢
  obtain ⟨p, hp⟩ : ∃ p, p = fB x := ⟨_, rfl⟩
  obtain ⟨q, hq⟩ : ∃ q, q = fB y := ⟨_, rfl⟩
  rw [← hp, ← hq] at CP
  rw [← hp, ← hq]
  have C1 := Lib.hid c1
  have C2 := Lib.hid c2
  have HS := Lib.hid hs
  have HB0 := Lib.hid fun k os => Lib.below_grow w.heap.size w (Nat.le_refl _) k os
  have tk : True := trivial
  clear c1 c2 h1 h2 hp hq hx hy hs ht
  go_enter Tryd.func7, Tryd.ntmps7
  go_wp2_with (first
    | (go_at_call 13; refine (CP.out _).mono ?_; rintro y1 W ⟨rfl, rfl⟩)
    | (go_at_call 14; have _t := tk; clear tk; go_must (refine C1.out.mono ?_; rintro y1 W ⟨rfl, k1, os1, rfl⟩; have HB1 := Lib.hid (HB0.out k1 os1); have HT := Lib.hid (HS.out.more HB1.out).tab))
    | (go_at_call 14; refine (C2.out _ HT.out).mono ?_; rintro y1 W ⟨rfl, k2, os2, rfl⟩))
  go_ret
  refine ⟨by rw [show (⟨#[47]⟩ : ByteArray) = ⟨[47].toArray⟩ from rfl, ByteArray.mk_append_mk, ByteArray.mk_append_mk, List.append_assoc]; rfl, HB1.out.trans (Lib.below_grow _ _ HB1.out.size k2 os2)⟩

end Go.Proofs.YtebgnhkcngmgeaaDoor.pk
