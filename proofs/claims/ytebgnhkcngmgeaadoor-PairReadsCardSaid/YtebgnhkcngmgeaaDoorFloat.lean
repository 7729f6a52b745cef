/-
  Plain mathematics of floats that are whole numbers: what bits they have, how they stand to each other, sums and differences. Nothing of a program is in it.
-/
import GoSem.Core.Float
namespace Go.Proofs.YtebgnhkcngmgeaaDoor.pk
open Go Ieee
set_option maxRecDepth 100000

/-- The number 'k * 2 ^ p' is n: said with a place c far enough down. -/
structure Num (c n k : Nat) (p : Int) : Prop where
  low : 0 ≤ p + c
  eq : k * 2 ^ (p + c).toNat = n * 2 ^ c

theorem two_pos (e : Nat) : 0 < 2 ^ e := Nat.pow_pos (by omega)
theorem shl (k e : Nat) : k <<< e = k * 2 ^ e := Nat.shiftLeft_eq k e

theorem cmp_lt {a b : Nat} (h : a < b) : compare a b = .lt := Nat.compare_eq_lt.2 h
theorem cmp_gt {a b : Nat} (h : b < a) : compare a b = .gt := Nat.compare_eq_gt.2 h
theorem cmp_eq (a : Nat) : compare a a = .eq := Nat.compare_eq_eq.2 rfl
theorem cmp_int (a b : Nat) : compare ((a : Nat) : Int) ((b : Nat) : Int) = compare a b := by
  show compareOfLessAndEq ((a : Nat) : Int) ((b : Nat) : Int) = compareOfLessAndEq a b
  unfold compareOfLessAndEq
  rcases Nat.lt_trichotomy a b with h | h | h
  · rw [if_pos h, if_pos (by omega)]
  · subst h; simp
  · rw [if_neg (by omega), if_neg (by omega), if_neg (by omega), if_neg (by omega)]
theorem cmp_mul (a b e : Nat) : compare (a * 2 ^ e) (b * 2 ^ e) = compare a b := by
  have hp := two_pos e
  rcases Nat.lt_trichotomy a b with h | h | h
  · rw [cmp_lt h, cmp_lt (Nat.mul_lt_mul_of_pos_right h hp)]
  · rw [h, cmp_eq, cmp_eq]
  · rw [cmp_gt h, cmp_gt (Nat.mul_lt_mul_of_pos_right h hp)]

/-- With the lower one's place all is whole. -/
theorem Num.base {c n k : Nat} {p b : Int} (h : Num c n k p) (hb : b ≤ p) (hc : 0 ≤ b + c) : k * 2 ^ (p - b).toNat * 2 ^ (b + c).toNat = n * 2 ^ c := by
  rw [Nat.mul_assoc, ← Nat.pow_add, ← h.eq]
  congr 2
  have := h.low
  omega
theorem Num.order {c n k n' k' : Nat} {p p' : Int} (h : Num c n k p) (h' : Num c n' k' p') : Datum.order (.number false k p) (.number false k' p') = some (compare n n') := by
  have hl := h.low
  have hl' := h'.low
  unfold Datum.order
  simp only [signed, Bool.false_eq_true, if_false, shl]
  rw [cmp_int, ← cmp_mul _ _ (min p p' + c).toNat, h.base (by omega) (by omega), h'.base (by omega) (by omega), cmp_mul]
theorem cut_none (way : Toward) (n : Nat) : way.cut false n 0 = n := by
  unfold Toward.cut
  cases way <;> simp [Nat.mod_one]
theorem min_log {d M : Nat} (h : d ≤ M.log2 + 2) : min d (M.log2 + 2) = d := Nat.min_eq_left h
theorem cut_exact (way : Toward) {M d n : Nat} (hd : d ≤ M.log2 + 2) (h : M = n * 2 ^ d) : way.cut false M d = n := by
  have hp := two_pos d
  unfold Toward.cut
  rw [min_log hd, shl, Nat.one_mul]
  have h1 : M / 2 ^ d = n := by rw [h]; exact Nat.mul_div_cancel n hp
  have h2 : M % 2 ^ d = 0 := by rw [h]; exact Nat.mul_mod_left n (2 ^ d)
  simp only [h1, h2]
  cases way <;> simp
  all_goals omega
theorem Num.toInt {c n k : Nat} {p : Int} (h : Num c n k p) : Datum.toInt .zero (.number false k p) = some (n : Int) := by
  have hl := h.low
  have he := h.eq
  unfold Datum.toInt Datum.integral
  simp only [signed, Bool.false_eq_true, if_false, shl, Nat.pow_zero, Nat.mul_one]
  congr 2
  by_cases hp : 0 ≤ p
  · rw [show (-p).toNat = 0 by omega, cut_none]
    have e : k * 2 ^ p.toNat * 2 ^ c = n * 2 ^ c := by
      rw [Nat.mul_assoc, ← Nat.pow_add, ← he]
      congr 2
      omega
    exact Nat.eq_of_mul_eq_mul_right (two_pos c) e
  · rw [show p.toNat = 0 by omega, Nat.pow_zero, Nat.mul_one]
    have e : k = n * 2 ^ (-p).toNat := by
      have e1 : k * 2 ^ (p + c).toNat = n * 2 ^ (-p).toNat * 2 ^ (p + c).toNat := by
        rw [Nat.mul_assoc, ← Nat.pow_add, he]
        congr 2
        omega
      exact Nat.eq_of_mul_eq_mul_right (two_pos _) e1
    by_cases hk : k = 0
    · have hn : n = 0 := by
        rw [hk] at e
        rcases Nat.mul_eq_zero.1 e.symm with h1 | h1
        · exact h1
        · have := two_pos (-p).toNat; omega
      subst hk; subst hn
      unfold Toward.cut
      simp
    · refine cut_exact .zero ?_ e
      have hn : n ≠ 0 := fun h0 => hk (by rw [e, h0, Nat.zero_mul])
      have : k.log2 = n.log2 + (-p).toNat := by
        rw [e]
        refine (Nat.log2_eq_iff (by rw [← e]; exact hk)).2 ⟨?_, ?_⟩
        · rw [Nat.pow_add]
          exact Nat.mul_le_mul_right _ (Nat.log2_self_le hn)
        · have h1 := Nat.lt_log2_self (n := n)
          have h2 : n < 2 ^ (n.log2 + 1) := h1
          rw [show n.log2 + (-p).toNat + 1 = (n.log2 + 1) + (-p).toNat by omega, Nat.pow_add]
          exact Nat.mul_lt_mul_of_pos_right h2 (two_pos _)
      omega

/-- The double's own: what its numbers are. -/
theorem dbl : double.leastPlace = -1074 ∧ double.binade = 4503599627370496 ∧ double.signWeight = 9223372036854775808 ∧ double.infRung = 9218868437227405312 ∧ double.fractionBits = 52 := by
  refine ⟨?_, ?_, ?_, ?_, ?_⟩ <;> rfl

/-- A number's log. -/
theorem log_mul {n d : Nat} (hn : n ≠ 0) : (n * 2 ^ d).log2 = n.log2 + d := by
  have hk : n * 2 ^ d ≠ 0 := fun h0 => by
    rcases Nat.mul_eq_zero.1 h0 with h1 | h1
    · exact hn h1
    · have := two_pos d; omega
  refine (Nat.log2_eq_iff hk).2 ⟨?_, ?_⟩
  · rw [Nat.pow_add]
    exact Nat.mul_le_mul_right _ (Nat.log2_self_le hn)
  · have h1 := Nat.lt_log2_self (n := n)
    rw [show n.log2 + d + 1 = (n.log2 + 1) + d by omega, Nat.pow_add]
    exact Nat.mul_lt_mul_of_pos_right h1 (two_pos _)

/-- A whole number's bits. -/
def fB (n : Nat) : Nat := if n = 0 then 0 else (n.log2 + 1022) * 4503599627370496 + n * 2 ^ (52 - n.log2)

theorem Num.log {c n k : Nat} {p : Int} (h : Num c n k p) (hn : n ≠ 0) : k ≠ 0 ∧ (k.log2 : Int) + p = n.log2 := by
  have hk : k ≠ 0 := fun h0 => by
    have := h.eq
    rw [h0, Nat.zero_mul] at this
    rcases Nat.mul_eq_zero.1 this.symm with h1 | h1
    · exact hn h1
    · have := two_pos c; omega
  have h1 := congrArg Nat.log2 h.eq
  rw [log_mul hk, log_mul hn] at h1
  have := h.low
  exact ⟨hk, by omega⟩
/-- However a whole number is written, its word is the same. -/
theorem Num.write {c n k : Nat} {p : Int} (h : Num c n k p) (hn : n < 9007199254740992) : double.write (.number false k p) = fB n := by
  obtain ⟨d1, d2, d3, d4, d5⟩ := dbl
  show double.nearest false k p = fB n
  by_cases hn0 : n = 0
  · have hk : k = 0 := by
      have := h.eq
      rw [hn0, Nat.zero_mul] at this
      rcases Nat.mul_eq_zero.1 this with h1 | h1
      · exact h1
      · have := two_pos (p + c).toNat; omega
    unfold Format.nearest fB
    rw [if_pos hk, if_pos hn0]
    rfl
  · obtain ⟨hk, hlog⟩ := h.log hn0
    have hL : n.log2 < 53 := (Nat.log2_lt hn0).2 hn
    unfold Format.nearest fB
    rw [if_neg hk, if_neg hn0, d1, d2, d4, d5]
    have hlast : max (p + (k.log2 : Int) - ((52 : Nat) : Int)) (-1074) = (n.log2 : Int) - 52 := by omega
    rw [hlast]
    have hkept : Toward.even.cut false (k <<< (p - ((n.log2 : Int) - 52)).toNat) (((n.log2 : Int) - 52) - p).toNat = n * 2 ^ (52 - n.log2) := by
      rw [shl]
      have hlow := h.low
      have he := h.eq
      by_cases hp : (n.log2 : Int) - 52 ≤ p
      · rw [show (((n.log2 : Int) - 52) - p).toNat = 0 by omega, cut_none]
        have e : k * 2 ^ (p - ((n.log2 : Int) - 52)).toNat * 2 ^ (p + c).toNat = n * 2 ^ (52 - n.log2) * 2 ^ (p + c).toNat := by
          rw [Nat.mul_assoc, Nat.mul_comm (2 ^ _), ← Nat.mul_assoc, he, Nat.mul_assoc, ← Nat.pow_add, Nat.mul_assoc, ← Nat.pow_add]
          congr 2
          omega
        exact Nat.eq_of_mul_eq_mul_right (two_pos _) e
      · rw [show (p - ((n.log2 : Int) - 52)).toNat = 0 by omega, Nat.pow_zero, Nat.mul_one]
        refine cut_exact .even (by omega) ?_
        have e : k * 2 ^ (p + c).toNat = n * 2 ^ (52 - n.log2) * 2 ^ (((n.log2 : Int) - 52) - p).toNat * 2 ^ (p + c).toNat := by
          rw [he, Nat.mul_assoc, Nat.mul_assoc, ← Nat.pow_add, ← Nat.pow_add]
          congr 2
          omega
        exact Nat.eq_of_mul_eq_mul_right (two_pos _) e
    show double.word false (min (((n.log2 : Int) - 52 - -1074).toNat * 4503599627370496 + Toward.even.cut false (k <<< (p - ((n.log2 : Int) - 52)).toNat) (((n.log2 : Int) - 52) - p).toNat) 9218868437227405312) = _
    rw [hkept]
    have hbd : n * 2 ^ (52 - n.log2) < 9007199254740992 := by
      have h1 := Nat.lt_log2_self (n := n)
      have h2 : n * 2 ^ (52 - n.log2) < 2 ^ (n.log2 + 1) * 2 ^ (52 - n.log2) := Nat.mul_lt_mul_of_pos_right h1 (two_pos _)
      rw [← Nat.pow_add, show n.log2 + 1 + (52 - n.log2) = 53 by omega] at h2
      exact h2
    unfold Format.word
    simp only [Bool.false_eq_true, if_false]
    rw [show ((n.log2 : Int) - 52 - -1074).toNat = n.log2 + 1022 by omega]
    exact Nat.min_eq_left (by omega)

theorem fB_zero : fB 0 = 0 := rfl
theorem fB_parts {n : Nat} (hn : n < 9007199254740992) (hn0 : n ≠ 0) : n.log2 ≤ 52 ∧ 4503599627370496 ≤ n * 2 ^ (52 - n.log2) ∧ n * 2 ^ (52 - n.log2) < 9007199254740992 ∧ fB n = (n.log2 + 1022) * 4503599627370496 + n * 2 ^ (52 - n.log2) := by
  have hL : n.log2 < 53 := (Nat.log2_lt hn0).2 hn
  refine ⟨by omega, ?_, ?_, if_neg hn0⟩
  · have h1 := Nat.log2_self_le hn0
    have h2 : 2 ^ n.log2 * 2 ^ (52 - n.log2) ≤ n * 2 ^ (52 - n.log2) := Nat.mul_le_mul_right _ h1
    rw [← Nat.pow_add, show n.log2 + (52 - n.log2) = 52 by omega] at h2
    exact h2
  · have h1 := Nat.lt_log2_self (n := n)
    have h2 : n * 2 ^ (52 - n.log2) < 2 ^ (n.log2 + 1) * 2 ^ (52 - n.log2) := Nat.mul_lt_mul_of_pos_right h1 (two_pos _)
    rw [← Nat.pow_add, show n.log2 + 1 + (52 - n.log2) = 53 by omega] at h2
    exact h2
theorem fB_lt {n : Nat} (hn : n < 9007199254740992) : fB n < 9223372036854775808 := by
  by_cases h0 : n = 0
  · subst h0; decide
  · obtain ⟨h1, h2, h3, h4⟩ := fB_parts hn h0
    rw [h4]
    omega
/-- What the word of a whole number stands for. -/
theorem fB_read {c n : Nat} (hc : c = 1074) (hn : n < 9007199254740992) : ∃ k p, double.read (fB n) = .number false k p ∧ Num c n k p := by
  obtain ⟨d1, d2, d3, d4, d5⟩ := dbl
  by_cases h0 : n = 0
  · subst h0
    exact ⟨0, -1074, by rw [fB_zero]; rfl, ⟨by omega, by rw [Nat.zero_mul, Nat.zero_mul]⟩⟩
  · obtain ⟨h1, h2, h3, h4⟩ := fB_parts hn h0
    generalize hK : n * 2 ^ (52 - n.log2) = K at h2 h3 h4
    have hlt : fB n < 9223372036854775808 := fB_lt hn
    refine ⟨K, (n.log2 : Int) - 52, ?_, ⟨by omega, ?_⟩⟩
    · unfold Format.read
      rw [d1, d2, d3, d4]
      generalize fB n = x at h4 hlt
      have e0 : x / 9223372036854775808 = 0 := by omega
      have e1 : x % 9223372036854775808 = x := by omega
      have e2 : ¬ x < 4503599627370496 := by omega
      have e3 : x < 9218868437227405312 := by omega
      have e4 : x % 4503599627370496 = K - 4503599627370496 := by omega
      have e5 : x / 4503599627370496 = n.log2 + 1023 := by omega
      have a1 : 4503599627370496 + (K - 4503599627370496) = K := by omega
      have a2 : (-1074 : Int) + ((n.log2 + 1023 - 1 : Nat) : Int) = (n.log2 : Int) - 52 := by omega
      simp only [e0, e1, if_neg e2, if_pos e3, e4, e5, a1, a2]
      simp
    · rw [← hK, Nat.mul_assoc, ← Nat.pow_add]
      congr 2
      omega
/-- A word that stands for a whole number is that number's. -/
theorem read_fB {c x n : Nat} {k : Nat} {p : Int} (hc : c = 1074) (hx : x < 9223372036854775808) (hr : double.read x = .number false k p) (h : Num c n k p) (hn : n < 9007199254740992) : x = fB n := by
  obtain ⟨d1, d2, d3, d4, d5⟩ := dbl
  unfold Format.read at hr
  rw [d1, d2, d3, d4] at hr
  have e0 : x / 9223372036854775808 = 0 := by omega
  have e1 : x % 9223372036854775808 = x := by omega
  simp only [e0, e1] at hr
  by_cases c1 : x < 4503599627370496
  · rw [if_pos c1] at hr
    injection hr with _ hk hp
    subst hk; subst hp
    by_cases h0 : n = 0
    · subst h0
      have h1 := h.eq
      rw [Nat.zero_mul] at h1
      rcases Nat.mul_eq_zero.1 h1 with h1 | h1
      · rw [h1]; rfl
      · have := two_pos ((-1074 : Int) + c).toNat; omega
    · obtain ⟨hk, hl⟩ := h.log h0
      have : x.log2 < 52 := (Nat.log2_lt hk).2 c1
      omega
  · rw [if_neg c1] at hr
    by_cases c2 : x < 9218868437227405312
    · rw [if_pos c2] at hr
      injection hr with _ hk hp
      have hE : 1 ≤ x / 4503599627370496 := by omega
      have hkb : 4503599627370496 ≤ k ∧ k < 9007199254740992 := by omega
      have h0 : n ≠ 0 := fun h0 => by
        have := h.eq
        rw [h0, Nat.zero_mul] at this
        rcases Nat.mul_eq_zero.1 this with h1 | h1
        · omega
        · have := two_pos (p + c).toNat; omega
      obtain ⟨hk0, hl⟩ := h.log h0
      have hlk : k.log2 = 52 := (Nat.log2_eq_iff hk0).2 ⟨by exact hkb.1, by exact hkb.2⟩
      obtain ⟨f1, f2, f3, f4⟩ := fB_parts hn h0
      have hkn : k = n * 2 ^ (52 - n.log2) := by
        have e : k * 2 ^ (p + c).toNat = n * 2 ^ (52 - n.log2) * 2 ^ (p + c).toNat := by
          rw [h.eq, Nat.mul_assoc, ← Nat.pow_add]
          congr 2
          omega
        exact Nat.eq_of_mul_eq_mul_right (two_pos _) e
      rw [f4, ← hkn]
      omega
    · rw [if_neg c2] at hr
      by_cases c3 : x = 9218868437227405312
      · rw [if_pos c3] at hr; cases hr
      · rw [if_neg c3] at hr; cases hr

end Go.Proofs.YtebgnhkcngmgeaaDoor.pk
