/-
  Plain mathematics of floats: which bits are those of a whole number from 0 to 2^40, and how others are told.
-/
import Derived.Test.YtebgnhkcngmgeaaDoorFloat2
namespace Go.Proofs.YtebgnhkcngmgeaaDoor.pk
open Go Ieee
set_option maxRecDepth 100000

theorem read_low {x m : Nat} {s : Bool} {i : Int} (h : double.read x = .number s m i) : 0 ≤ i + 1074 ∧ s = (x / 9223372036854775808 % 2 == 1) := by
  obtain ⟨d1, d2, d3, d4, d5⟩ := dbl
  unfold Format.read at h
  rw [d1, d2, d3, d4] at h
  by_cases c1 : x % 9223372036854775808 < 4503599627370496
  · simp only [if_pos c1] at h
    injection h with hs _ hi
    exact ⟨by omega, hs.symm⟩
  · simp only [if_neg c1] at h
    by_cases c2 : x % 9223372036854775808 < 9218868437227405312
    · simp only [if_pos c2] at h
      injection h with hs _ hi
      exact ⟨by omega, hs.symm⟩
    · simp only [if_neg c2] at h
      by_cases c3 : x % 9223372036854775808 = 9218868437227405312
      · simp only [if_pos c3] at h; cases h
      · simp only [if_neg c3] at h; cases h
theorem read_zero : double.read 0 = .number false 0 (-1074) := rfl

/-- What stands at 2^40. -/
def mostN : Nat := 1099511627776
theorem mostN_lt : mostN < 9007199254740992 := by decide

/-- How bits stand to the amounts. -/
inductive Part (x : Nat) : Prop where
  | yes (n : Nat) (h : n ≤ mostN) (e : x = fB n)
  | below (h1 : double.order x 0 ≠ some .gt) (h2 : double.order x 0 ≠ some .eq)
  | above (h : double.order x 0 = some .gt ∨ double.order x 0 = some .eq) (h1 : double.order x (fB mostN) ≠ some .lt) (h2 : double.order x (fB mostN) ≠ some .eq)
  | between (n : Nat) (h : double.order x 0 = some .gt ∨ double.order x 0 = some .eq) (h1 : double.order x (fB mostN) = some .lt ∨ double.order x (fB mostN) = some .eq) (hn : n ≤ mostN) (ht : (double.read x).toInt .zero = some (n : Int)) (hne : double.order (fB n) x ≠ some .eq)
  | minus (h : double.order x 0 = some .eq) (h1 : double.order x (fB mostN) = some .lt) (ht : (double.read x).toInt .zero = some 0) (he : double.order (fB 0) x = some .eq) (hs : 9223372036854775808 ≤ x)

theorem part_of (x : Nat) (hx : x < 18446744073709551616) : Part x := by
  obtain ⟨c, hc⟩ : ∃ c, c = 1074 := ⟨_, rfl⟩
  obtain ⟨kM, pM, hM, nM⟩ := fB_read hc mostN_lt
  cases hr : double.read x with
  | nan s f =>
    refine .below ?_ ?_ <;> (unfold Format.order; rw [hr]; intro h; cases h)
  | infinity s =>
    cases s with
    | true => refine .below ?_ ?_ <;> (unfold Format.order; rw [hr, read_zero]; intro h; cases h)
    | false =>
      refine .above (Or.inl ?_) ?_ ?_
      · unfold Format.order; rw [hr, read_zero]; rfl
      · unfold Format.order; rw [hr, hM]; intro h; cases h
      · unfold Format.order; rw [hr, hM]; intro h; cases h
  | number s m i =>
    obtain ⟨hl, hs⟩ := read_low hr
    have hlc : 0 ≤ i + c := by omega
    cases s with
    | true =>
      have hxs : 9223372036854775808 ≤ x := by
        have h1 : x / 9223372036854775808 % 2 = 1 := by simpa using hs.symm
        omega
      by_cases hm : m = 0
      · subst hm
        refine .minus ?_ ?_ ?_ ?_ hxs
        · unfold Format.order Datum.order
          rw [hr, read_zero]
          simp only [signed, Bool.false_eq_true, if_false, if_true, shl, Nat.zero_mul]
          rfl
        · unfold Format.order Datum.order
          rw [hr, hM]
          simp only [signed, Bool.false_eq_true, if_false, if_true, shl, Nat.zero_mul]
          have hk0 : kM ≠ 0 := (nM.log (by decide)).1
          have hpos : 0 < kM * 2 ^ (pM - min i pM).toNat := Nat.mul_pos (by omega) (two_pos _)
          rw [show (-((0 : Nat) : Int)) = ((0 : Nat) : Int) from rfl, cmp_int, cmp_lt hpos]
        · unfold Datum.toInt Datum.integral
          rw [hr]
          simp only [signed, if_true, shl, Nat.zero_mul]
          unfold Toward.cut
          simp
        · unfold Format.order
          rw [fB_zero, hr, read_zero]
          unfold Datum.order
          simp only [signed, Bool.false_eq_true, if_false, if_true, shl, Nat.zero_mul]
          rfl
      · have hneg : double.order x 0 = some .lt := by
          unfold Format.order Datum.order
          rw [hr, read_zero]
          simp only [signed, Bool.false_eq_true, if_false, if_true, shl, Nat.zero_mul]
          have hpos : 0 < m * 2 ^ (i - min i (-1074)).toNat := Nat.mul_pos (by omega) (two_pos _)
          generalize m * 2 ^ (i - min i (-1074)).toNat = y at hpos
          show some (compareOfLessAndEq (-(y : Int)) ((0 : Nat) : Int)) = _
          unfold compareOfLessAndEq
          rw [if_pos (by omega)]
        refine .below ?_ ?_ <;> (rw [hneg]; intro h; cases h)
    | false =>
      have hx2 : x < 9223372036854775808 := by
        have h1 : ¬ x / 9223372036854775808 % 2 = 1 := by simpa using hs.symm
        omega
      have hge : double.order x 0 = some .gt ∨ double.order x 0 = some .eq := by
        unfold Format.order Datum.order
        rw [hr, read_zero]
        simp only [signed, Bool.false_eq_true, if_false, shl, Nat.zero_mul]
        rw [cmp_int]
        generalize m * 2 ^ (i - min i (-1074)).toNat = y
        by_cases hy : y = 0
        · subst hy; exact Or.inr rfl
        · exact Or.inl (by rw [cmp_gt (by omega)])
      by_cases hle : double.order x (fB mostN) = some .lt ∨ double.order x (fB mostN) = some .eq
      · have hng : Datum.order (.number false m i) (.number false kM pM) ≠ some .gt := by
          unfold Format.order at hle
          rw [hr, hM] at hle
          rcases hle with h | h <;> (rw [h]; intro h'; cases h')
        have hb := order_le nM hlc hng
        have hn := cut_le hlc hb
        obtain ⟨n, hne⟩ : ∃ n, n = Toward.zero.cut false (m <<< i.toNat) (-i).toNat := ⟨_, rfl⟩
        rw [← hne] at hn
        have ht : (double.read x).toInt .zero = some (n : Int) := by
          rw [hr, hne]
          unfold Datum.toInt Datum.integral
          simp only [signed, Bool.false_eq_true, if_false]
          rfl
        have hnl : n < 9007199254740992 := Nat.lt_of_le_of_lt hn mostN_lt
        by_cases heq : double.order (fB n) x = some .eq
        · obtain ⟨k, p, h1, h2⟩ := fB_read hc hnl
          unfold Format.order at heq
          rw [h1, hr] at heq
          exact .yes n hn (read_fB hc hx2 hr (order_eq h2 hlc heq) hnl)
        · exact .between n hge hle hn ht heq
      · exact .above hge (fun h => hle (Or.inl h)) (fun h => hle (Or.inr h))

end Go.Proofs.YtebgnhkcngmgeaaDoor.pk
