/-
  Plain mathematics of floats that are whole numbers: the operations on their bits, and when bits are such.
-/
import Derived.Test.YtebgnhkcngmgeaaDoorFloat
namespace Go.Proofs.YtebgnhkcngmgeaaDoor.pk
open Go Ieee
set_option maxRecDepth 100000

theorem fB_order {a b : Nat} (ha : a < 9007199254740992) (hb : b < 9007199254740992) : double.order (fB a) (fB b) = some (compare a b) := by
  obtain ⟨c, hc⟩ : ∃ c, c = 1074 := ⟨_, rfl⟩
  obtain ⟨k, p, h1, h2⟩ := fB_read hc ha
  obtain ⟨k', p', h3, h4⟩ := fB_read hc hb
  unfold Format.order
  rw [h1, h3]
  exact h2.order h4
theorem fB_toInt {a : Nat} (ha : a < 9007199254740992) : (double.read (fB a)).toInt .zero = some (a : Int) := by
  obtain ⟨c, hc⟩ : ∃ c, c = 1074 := ⟨_, rfl⟩
  obtain ⟨k, p, h1, h2⟩ := fB_read hc ha
  rw [h1]
  exact h2.toInt
theorem fB_nearest {a : Nat} (ha : a < 9007199254740992) : FloatKind.f64.nearest (a : Int) = fB a := by
  show double.write (.number (decide ((a : Int) < 0)) (a : Int).natAbs 0) = fB a
  rw [show decide ((a : Int) < 0) = false from decide_eq_false (by omega), Int.natAbs_natCast]
  exact Num.write (c := 0) ⟨by omega, by simp⟩ ha
theorem fB_add {a b : Nat} (ha : a < 9007199254740992) (hb : b < 9007199254740992) (hab : a + b < 9007199254740992) : double.add (fB a) (fB b) = some (fB (a + b)) := by
  obtain ⟨c, hc⟩ : ∃ c, c = 1074 := ⟨_, rfl⟩
  obtain ⟨k, p, h1, h2⟩ := fB_read hc ha
  obtain ⟨k', p', h3, h4⟩ := fB_read hc hb
  have l2 := h2.low
  have l4 := h4.low
  unfold Format.add
  rw [h1, h3]
  unfold Datum.sum
  simp only [signed, Bool.false_eq_true, if_false, shl, Option.map_some]
  congr 1
  generalize hx : k * 2 ^ (p - min p p').toNat = x
  generalize hy : k' * 2 ^ (p' - min p p').toNat = y
  have e1 : ((x : Int) + (y : Int)).natAbs = x + y := by omega
  have e2 : (if (x : Int) + (y : Int) = 0 then (false && false) else decide ((x : Int) + (y : Int) < 0)) = false := by
    split
    · rfl
    · exact decide_eq_false (by omega)
  have hN : Num c (a + b) (x + y) (min p p') := ⟨by omega, by
    rw [Nat.add_mul, ← hx, ← hy, h2.base (by omega) (by omega), h4.base (by omega) (by omega), Nat.add_mul]⟩
  rw [e1]
  first
    | (rw [e2]; exact hN.write hab)
    | (simp only [Bool.and_self] at e2 ⊢; rw [e2]; exact hN.write hab)
theorem fB_sub {a b : Nat} (ha : a < 9007199254740992) (hb : b < 9007199254740992) (hab : b ≤ a) : double.sub (fB a) (fB b) = some (fB (a - b)) := by
  obtain ⟨c, hc⟩ : ∃ c, c = 1074 := ⟨_, rfl⟩
  obtain ⟨k, p, h1, h2⟩ := fB_read hc ha
  obtain ⟨k', p', h3, h4⟩ := fB_read hc hb
  have l2 := h2.low
  have l4 := h4.low
  unfold Format.sub
  rw [h1, h3]
  unfold Datum.opposite Datum.sum
  simp only [signed, Bool.not_false, Bool.false_eq_true, if_false, if_true, shl, Option.map_some]
  congr 1
  have b1 := h2.base (b := min p p') (by omega) (by omega)
  have b2 := h4.base (b := min p p') (by omega) (by omega)
  generalize k * 2 ^ (p - min p p').toNat = x at b1
  generalize k' * 2 ^ (p' - min p p').toNat = y at b2
  have hyx : y ≤ x := by
    have h5 : y * 2 ^ (min p p' + c).toNat ≤ x * 2 ^ (min p p' + c).toNat := by
      rw [b1, b2]; exact Nat.mul_le_mul_right _ hab
    exact Nat.le_of_mul_le_mul_right h5 (two_pos _)
  have e1 : ((x : Int) + -(y : Int)).natAbs = x - y := by omega
  have e2 : (if (x : Int) + -(y : Int) = 0 then (false && true) else decide ((x : Int) + -(y : Int) < 0)) = false := by
    split
    · rfl
    · exact decide_eq_false (by omega)
  have hN : Num c (a - b) (x - y) (min p p') := ⟨by omega, by rw [Nat.sub_mul, b1, b2, Nat.sub_mul]⟩
  rw [e1]
  first
    | (rw [e2]; exact hN.write (by omega))
    | (simp only [Bool.false_and] at e2 ⊢; rw [e2]; exact hN.write (by omega))

/-- A number cut off at the point. -/
theorem cut_le {c m n : Nat} {p : Int} (hl : 0 ≤ p + c) (h : m * 2 ^ (p + c).toNat ≤ n * 2 ^ c) : Toward.zero.cut false (m <<< p.toNat) (-p).toNat ≤ n := by
  rw [shl]
  by_cases hp : 0 ≤ p
  · rw [show (-p).toNat = 0 by omega, cut_none]
    have e : m * 2 ^ p.toNat * 2 ^ c ≤ n * 2 ^ c := by
      rw [Nat.mul_assoc, ← Nat.pow_add, show p.toNat + c = (p + c).toNat by omega]; exact h
    exact Nat.le_of_mul_le_mul_right e (two_pos c)
  · rw [show p.toNat = 0 by omega, Nat.pow_zero, Nat.mul_one]
    unfold Toward.cut
    simp only [Bool.toNat_false, Nat.add_zero, shl, Nat.one_mul]
    by_cases hd : (-p).toNat ≤ m.log2 + 2
    · rw [Nat.min_eq_left hd]
      have h1 : m / 2 ^ (-p).toNat * 2 ^ (-p).toNat ≤ m := Nat.div_mul_le_self _ _
      have e : m / 2 ^ (-p).toNat * 2 ^ c ≤ n * 2 ^ c := by
        refine Nat.le_trans ?_ h
        have h2 := Nat.mul_le_mul_right (2 ^ (p + c).toNat) h1
        rw [Nat.mul_assoc, ← Nat.pow_add, show (-p).toNat + (p + c).toNat = c by omega] at h2
        exact h2
      exact Nat.le_of_mul_le_mul_right e (two_pos c)
    · rw [Nat.min_eq_right (by omega)]
      have h1 : m < 2 ^ (m.log2 + 2) := by
        have := Nat.lt_log2_self (n := m)
        rw [show m.log2 + 2 = (m.log2 + 1) + 1 by omega, Nat.pow_succ]
        omega
      rw [Nat.div_eq_of_lt h1]
      omega
theorem order_eq {c n m : Nat} {k : Nat} {p p' : Int} (h : Num c n k p) (hl : 0 ≤ p' + c) (ho : Datum.order (.number false k p) (.number false m p') = some .eq) : Num c n m p' := by
  refine ⟨hl, ?_⟩
  have hk := h.low
  unfold Datum.order at ho
  simp only [signed, Bool.false_eq_true, if_false, shl] at ho
  rw [cmp_int] at ho
  injection ho with ho
  have e := Nat.compare_eq_eq.1 ho
  have h1 := h.base (b := min p p') (by omega) (by omega)
  rw [e, Nat.mul_assoc, ← Nat.pow_add] at h1
  rw [← h1]
  congr 2
  omega
theorem order_le {c n m : Nat} {k : Nat} {p p' : Int} (h : Num c n k p) (hl : 0 ≤ p' + c) (ho : Datum.order (.number false m p') (.number false k p) ≠ some .gt) : m * 2 ^ (p' + c).toNat ≤ n * 2 ^ c := by
  have hk := h.low
  unfold Datum.order at ho
  simp only [signed, Bool.false_eq_true, if_false, shl] at ho
  rw [cmp_int] at ho
  have h1 := h.base (b := min p' p) (by omega) (by omega)
  rcases Nat.lt_or_ge (k * 2 ^ (p - min p' p).toNat) (m * 2 ^ (p' - min p' p).toNat) with h2 | h2
  · exact absurd (by rw [cmp_gt h2]) ho
  · rw [← h1]
    have h3 := Nat.mul_le_mul_right (2 ^ (min p' p + c).toNat) h2
    refine Nat.le_trans (Nat.le_of_eq ?_) h3
    rw [Nat.mul_assoc, ← Nat.pow_add]
    congr 2
    omega

end Go.Proofs.YtebgnhkcngmgeaaDoor.pk
