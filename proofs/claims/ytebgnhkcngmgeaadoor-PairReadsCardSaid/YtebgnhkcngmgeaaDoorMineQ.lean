/-
  The program's own check of an amount's part, and of an amount; the amount of two numbers; an amount's parts.
-/
import Derived.Test.YtebgnhkcngmgeaaDoorConP
import Derived.Laws.FloatArith
import Derived.Laws.FloatBits
import Derived.Laws.ComplexArith
import Derived.LaidEql
import Derived.Stop.Asserts
import Derived.RowKitTokens
namespace Go.Proofs.YtebgnhkcngmgeaaDoor.pk
open Go Go.RowKit Ieee Go.Extern
set_option maxRecDepth 100000

set_option maxHeartbeats 1000000 in
theorem signbit_any (x : Nat) (hx : x < 18446744073709551616) (w : World) :
    Calls Tryd.prog 32 #[.float .f64 x] w fun e w' => e = .returned (.bool (decide (9223372036854775808 ≤ x))) ∧ w' = w := by
  have h6 := @run_callFunc_extern Tryd.prog 47 _ MathFloatBits.float64bits Tryd.func47 (by kernel_rfl) (by kernel_rfl) (by kernel_rfl) (by kernel_rfl)
  have h7 : ∀ W, (MathFloatBits.float64bits #[.float .f64 x]).run Tryd.prog W = .ok (.int .u64 (x : Int)) W := fun W => rfl
  have hxi : (x : Int) < 18446744073709551616 := by omega
  by_cases hb : 9223372036854775808 ≤ x
  · rw [decide_eq_true hb]
    have hw : IntKind.i64.wrap (x : Int) = (x : Int) - 18446744073709551616 := by rw [IntKind.wrap_i64]; omega
    have hl : (x : Int) - 18446744073709551616 < 0 := by omega
    go_enter Tryd.func32, Tryd.ntmps32
    go_wp2
    go_ret
    exact ⟨rfl, rfl⟩
  · rw [decide_eq_false hb]
    have hw : IntKind.i64.wrap (x : Int) = (x : Int) := IntWalk.i64_in _ (by omega)
    go_enter Tryd.func32, Tryd.ntmps32
    go_wp2
    go_ret
    exact ⟨rfl, rfl⟩

theorem amt_none {x : Nat} (h : ∀ n, n ≤ mostN → x ≠ fB n) : amt x = none := by
  cases ha : amt x with
  | none => rfl
  | some n => exact absurd (amt_some ha).1 (h n (amt_some ha).2)
theorem ord_lo {n : Nat} (h : n ≤ mostN) : double.order (fB n) 0 = some .gt ∨ double.order (fB n) 0 = some .eq := by
  have h1 := fB_order (Nat.lt_of_le_of_lt h mostN_lt) (b := 0) (by omega)
  rw [fB_zero] at h1
  by_cases h0 : n = 0
  · subst h0; exact Or.inr (h1.trans (by rw [cmp_eq]))
  · exact Or.inl (h1.trans (by rw [cmp_gt (by omega)]))
theorem ord_hi {n : Nat} (h : n ≤ mostN) : double.order (fB n) (fB mostN) = some .lt ∨ double.order (fB n) (fB mostN) = some .eq := by
  have h1 := fB_order (Nat.lt_of_le_of_lt h mostN_lt) mostN_lt
  by_cases h0 : n = mostN
  · subst h0; exact Or.inr (h1.trans (by rw [cmp_eq]))
  · exact Or.inl (h1.trans (by rw [cmp_lt (by omega)]))
theorem most_bits : fB mostN = 4787326403894837248 := rfl
theorem toI {x n : Nat} (h : (double.read x).toInt .zero = some (n : Int)) (hn : n ≤ mostN) : floatToIntVal .f64 x .i64 = some (n : Int) := by
  have h' : (FloatKind.f64.decode x).toInt .zero = some (n : Int) := h
  unfold floatToIntVal
  rw [h']
  have : (n : Int) ≤ 1099511627776 := by unfold mostN at hn; omega
  exact if_pos ⟨by show (-9223372036854775808 : Int) ≤ _; omega, by show _ ≤ (9223372036854775807 : Int); omega⟩
theorem ord_symm {x y : Nat} (h : double.order x y = some .eq) : double.order y x = some .eq := by
  unfold Format.order at h ⊢
  generalize double.read x = a at h
  generalize double.read y = b at h
  cases a with
  | nan s f => cases h
  | infinity s =>
    cases b with
    | nan t f => cases h
    | infinity t => cases s <;> cases t <;> first | rfl | cases h
    | number t n j => cases s <;> cases h
  | number s m i =>
    cases b with
    | nan t f => cases h
    | infinity t => cases t <;> cases h
    | number t n j =>
      unfold Datum.order at h ⊢
      simp only at h ⊢
      rw [Int.min_comm j i]
      injection h with h
      rw [cmp_eq_int h]
where
  cmp_eq_int {a b : Int} (h : compare a b = .eq) : some (compare b a) = some Ordering.eq := by
    unfold compare instOrdInt compareOfLessAndEq at h ⊢
    simp only at h ⊢
    split at h
    · cases h
    · split at h
      · rename_i h1 h2; subst h2; simp
      · cases h

theorem trunc_run {P : Program} {x n m : Nat} {i : Int} (h3 : FloatKind.f64.decode x = .number false m i) (h4 : FloatKind.f64.encode ((Datum.number false m i).integral .zero) = n) (W : World) :
    (MathFloor.toIntegral "math.archTrunc" .zero #[.float .f64 x]).run P W = .ok (.float .f64 n) W := by
  unfold MathFloor.toIntegral
  delta MathFloor.toIntegral.match_2
  simp [MathFloor.toIntegral._sparseCasesOn_2, MathFloor.toIntegral._sparseCasesOn_3, Array.getLit, h3, h4]

theorem trunc_bits {x n : Nat} (hx : x < 9223372036854775808) (h : (double.read x).toInt .zero = some (n : Int)) (hn : n ≤ mostN) :
    ∃ m i, double.read x = .number false m i ∧ double.write ((Datum.number false m i).integral .zero) = fB n := by
  cases hr : double.read x with
  | nan s f => rw [hr] at h; cases h
  | infinity s => rw [hr] at h; cases h
  | number s m i =>
    obtain ⟨_, hs⟩ := read_low hr
    have hs' : s = false := by rw [hs]; simp; omega
    subst hs'
    refine ⟨m, i, rfl, ?_⟩
    rw [hr] at h
    unfold Datum.toInt Datum.integral at h
    simp only [signed, Bool.false_eq_true, if_false, Nat.shiftLeft_zero] at h
    injection h with h
    have he : Toward.zero.cut false (m <<< i.toNat) (-i).toNat = n := by omega
    unfold Datum.integral
    simp only
    rw [he]
    exact Num.write (c := 0) ⟨by omega, by simp⟩ (Nat.lt_of_le_of_lt hn mostN_lt)

set_option maxHeartbeats 1000000 in
theorem trunc_any (x n : Nat) (hx : x < 9223372036854775808) (h : (double.read x).toInt .zero = some (n : Int)) (hn : n ≤ mostN) (w : World) :
    Calls Tryd.prog 33 #[.float .f64 x] w fun e w' => e = .returned (.float .f64 (fB n)) ∧ w' = w := by
  obtain ⟨m, i, h1, h2⟩ := trunc_bits hx h hn
  have h6 := @run_callFunc_extern Tryd.prog 48 _ (MathFloor.toIntegral "math.archTrunc" .zero) Tryd.func48 (by kernel_rfl) (by kernel_rfl) (by kernel_rfl) (by kernel_rfl)
  have h7 : ∀ W, (MathFloor.toIntegral "math.archTrunc" .zero #[.float .f64 x]).run Tryd.prog W = .ok (.float .f64 (fB n)) W := fun W => trunc_run h1 h2 W
  obtain ⟨z, hz⟩ : ∃ z, z = fB n := ⟨_, rfl⟩
  rw [← hz] at h7 ⊢
  clear h1 h2 hz h hn hx
  go_enter Tryd.func33, Tryd.ntmps33
  go_wp2
  go_ret
  exact ⟨rfl, rfl⟩

theorem read_inf {x : Nat} {s : Bool} (h : double.read x = .infinity s) : s = (x / 9223372036854775808 % 2 == 1) := by
  obtain ⟨d1, d2, d3, d4, d5⟩ := dbl
  unfold Format.read at h
  rw [d1, d2, d3, d4] at h
  by_cases c1 : x % 9223372036854775808 < 4503599627370496
  · simp only [if_pos c1] at h; cases h
  · simp only [if_neg c1] at h
    by_cases c2 : x % 9223372036854775808 < 9218868437227405312
    · simp only [if_pos c2] at h; cases h
    · simp only [if_neg c2] at h
      by_cases c3 : x % 9223372036854775808 = 9218868437227405312
      · simp only [if_pos c3] at h; injection h with h; exact h.symm
      · simp only [if_neg c3] at h; cases h
/-- Bits without the sign that are neither above nor at nought are no number: they compare to nothing. -/
theorem nan_of {x : Nat} (hx : x < 9223372036854775808) (h1 : double.order x 0 ≠ some .gt) (h2 : double.order x 0 ≠ some .eq) : double.order x (fB mostN) = none := by
  unfold Format.order at h1 h2 ⊢
  rw [read_zero] at h1 h2
  cases hr : double.read x with
  | nan s f => rfl
  | infinity s =>
    exfalso
    have hs := read_inf hr
    have hs' : s = false := by rw [hs]; simp; omega
    rw [hr, hs'] at h1
    exact h1 rfl
  | number s m i =>
    exfalso
    obtain ⟨_, hs⟩ := read_low hr
    have hs' : s = false := by rw [hs]; simp; omega
    rw [hr, hs'] at h1 h2
    unfold Datum.order at h1 h2
    simp only [signed, Bool.false_eq_true, if_false, shl, Nat.zero_mul] at h1 h2
    rw [cmp_int] at h1 h2
    generalize m * 2 ^ (i - min i (-1074)).toNat = y at h1 h2
    by_cases hy : y = 0
    · subst hy; exact h2 rfl
    · exact h1 (by rw [cmp_gt (by omega)])

set_option maxHeartbeats 1000000 in
theorem part_any (x : Nat) (hx : x < 18446744073709551616) (w : World) :
    Calls Tryd.prog 23 #[.float .f64 x] w fun e w' => e = .returned (.bool (amt x).isSome) ∧ w' = w := by
  have cS := fun W => signbit_any x hx W
  by_cases hb : 9223372036854775808 ≤ x
  · have ha : amt x = none := amt_none fun m hm e => by
      have := fB_lt (Nat.lt_of_le_of_lt hm mostN_lt)
      rw [← e] at this
      omega
    rw [decide_eq_true hb] at cS
    rw [ha]
    have CS := Lib.hid cS
    clear cS ha hx hb
    go_enter Tryd.func23, Tryd.ntmps23
    go_wp2_with (go_at_call 32; refine (CS.out _).mono ?_; rintro y W ⟨rfl, rfl⟩)
    go_ret
    exact ⟨rfl, rfl⟩
  · rw [decide_eq_false hb] at cS
    have CS := Lib.hid cS
    clear cS
    have big : ∀ h1 : double.order x (fB mostN) ≠ some .lt, double.order x (fB mostN) ≠ some .eq → amt x = none → Calls Tryd.prog 23 #[.float .f64 x] w fun e w' => e = .returned (.bool (amt x).isSome) ∧ w' = w := by
      intro h1 h2 ha
      rw [most_bits] at h1 h2
      have o1 : (FloatKind.f64.format.order x 4787326403894837248 == some .lt) = false := by
        cases h : (FloatKind.f64.format.order x 4787326403894837248 == some .lt) with
        | false => rfl
        | true => exact absurd (eq_of_beq h) h1
      have o2 : (FloatKind.f64.format.order x 4787326403894837248 == some .eq) = false := by
        cases h : (FloatKind.f64.format.order x 4787326403894837248 == some .eq) with
        | false => rfl
        | true => exact absurd (eq_of_beq h) h2
      rw [ha]
      clear ha h1 h2 hb hx
      go_enter Tryd.func23, Tryd.ntmps23
      go_wp2_with (go_at_call 32; refine (CS.out _).mono ?_; rintro y W ⟨rfl, rfl⟩)
      go_ret
      exact ⟨rfl, rfl⟩
    have small : ∀ n : Nat, (double.order x (fB mostN) = some .lt ∨ double.order x (fB mostN) = some .eq) → (double.read x).toInt .zero = some (n : Int) → n ≤ mostN → (FloatKind.f64.format.order x (fB n) == some .eq) = (amt x).isSome → Calls Tryd.prog 23 #[.float .f64 x] w fun e w' => e = .returned (.bool (amt x).isSome) ∧ w' = w := by
      intro n h1 ht hn he
      have cT := fun W => trunc_any x n (by omega) ht hn W
      rw [most_bits] at h1
      have o1 : FloatKind.f64.format.order x 4787326403894837248 = some .lt ∨ FloatKind.f64.format.order x 4787326403894837248 = some .eq := h1
      obtain ⟨z, hz⟩ : ∃ z, z = fB n := ⟨_, rfl⟩
      obtain ⟨b, hb2⟩ : ∃ b, b = (amt x).isSome := ⟨_, rfl⟩
      rw [← hz] at cT he
      rw [← hb2] at he ⊢
      have CT := Lib.hid cT
      clear cT hz hb2 h1 ht hn hb hx
      rcases o1 with o1 | o1
      all_goals
        go_enter Tryd.func23, Tryd.ntmps23
        go_wp2_with (first
          | (go_at_call 32; refine (CS.out _).mono ?_; rintro y W ⟨rfl, rfl⟩)
          | (go_at_call 33; refine (CT.out _).mono ?_; rintro y W ⟨rfl, rfl⟩))
        go_ret
        exact ⟨rfl, rfl⟩
    cases part_of x hx with
    | yes n h e =>
      refine small n (by rw [e]; exact ord_hi h) (by rw [e]; exact fB_toInt (Nat.lt_of_le_of_lt h mostN_lt)) h ?_
      have o0 : FloatKind.f64.format.order x (fB n) = some .eq := by rw [e]; exact ord_same h
      rw [o0, e, amt_fB h]
      rfl
    | below h1 h2 =>
      have ha : amt x = none := amt_none fun n hn e => by
        rw [e] at h1 h2
        exact (ord_lo hn).elim h1 h2
      have hn := nan_of (by omega) h1 h2
      exact big (by rw [hn]; intro h; cases h) (by rw [hn]; intro h; cases h) ha
    | above h h1 h2 =>
      exact big h1 h2 (amt_none fun n hn e => by
        rw [e] at h1 h2
        exact (ord_hi hn).elim h1 h2)
    | between n h h1 hn ht hne =>
      have ha : amt x = none := amt_none fun m hm e => by
        rw [e, fB_toInt (Nat.lt_of_le_of_lt hm mostN_lt)] at ht
        injection ht with ht
        have hmn : m = n := by omega
        rw [e, hmn] at hne
        exact hne (ord_same hn)
      refine small n h1 ht hn ?_
      rw [ha]
      cases h : (FloatKind.f64.format.order x (fB n) == some .eq) with
      | false => rfl
      | true => exact absurd (ord_symm (eq_of_beq h)) hne
    | minus h h1 ht he hs => omega

end Go.Proofs.YtebgnhkcngmgeaaDoor.pk
