/-
  Plain mathematics: what is laid is taken off as it was, and as nothing else; a begin of it ends ahead of its end.
-/
import Derived.Test.YtfblgkcipnkhaaaGreatDoorPlain
namespace Go.Proofs.YtfblgkcipnkhaaaGreatDoor.pk
open Go

theorem parseM_snoc (M : Nat) (c : UInt8) : ∀ (l : List UInt8) (acc : Nat), Lib.parseUintM M acc (l ++ [c]) =
    match Lib.parseUintM M acc l with
    | .ok v => Lib.parseUintM M v [c]
    | e => e
  | [], acc => by simp [Lib.parseUintM]
  | d :: l, acc => by
    simp only [List.cons_append, Lib.parseUintM]
    by_cases h1 : 48 ≤ d.toNat ∧ d.toNat ≤ 57
    · rw [if_pos h1, if_pos h1]
      by_cases h2 : 1844674407370955162 ≤ acc
      · rw [if_pos h2, if_pos h2]
      · rw [if_neg h2, if_neg h2]
        by_cases h3 : M < acc * 10 + (d.toNat - 48)
        · rw [if_pos h3, if_pos h3]
        · rw [if_neg h3, if_neg h3]
          have := parseM_snoc M c l (acc * 10 + (d.toNat - 48))
          simpa [Lib.parseUintM] using this
    · rw [if_neg h1, if_neg h1]

theorem digit_toNat (x : Nat) (hx : x < 10) : (UInt8.ofNat (48 + x)).toNat = 48 + x := by
  simp [UInt8.toNat_ofNat']; omega

theorem parseM_digits (u : Nat) (hu : u < 18446744073709551616) : Lib.parseUintM (2 ^ 64 - 1) 0 (Lib.decDigits u) = .ok u := by
  induction u using Nat.strongRecOn with
  | ind u ih =>
    by_cases h : u < 10
    · rw [Lib.decDigits_one h]
      have := digit_toNat u h
      simp only [Lib.parseUintM]
      rw [if_pos (by omega), if_neg (by omega), if_neg (by omega)]
      congr 1
      omega
    · rw [Lib.decDigits, dif_neg h, parseM_snoc, ih (u / 10) (by omega) (by omega)]
      have := digit_toNat (u % 10) (by omega)
      simp only [Lib.parseUintM]
      rw [if_pos (by omega), if_neg (by omega), if_neg (by omega)]
      congr 1
      omega

theorem digits_ne (u : Nat) : Lib.decDigits u ≠ [] := by
  intro e
  have := Lib.nDigits_pos u
  rw [← Lib.decDigits_length, e] at this
  simp at this

theorem digits_all (u : Nat) : ∀ d ∈ Lib.decDigits u, isDg d = true := by
  induction u using Nat.strongRecOn with
  | ind u ih =>
    intro d hd
    by_cases h : u < 10
    · rw [Lib.decDigits_one h, List.mem_singleton] at hd
      subst hd
      have := digit_toNat u h
      simp only [isDg, decide_eq_true_eq]
      omega
    · rw [Lib.decDigits, dif_neg h, List.mem_append, List.mem_singleton] at hd
      rcases hd with hd | rfl
      · exact ih (u / 10) (by omega) d hd
      · have := digit_toNat (u % 10) (by omega)
        simp only [isDg, decide_eq_true_eq]
        omega

theorem digits_head (u : Nat) (hu : 1 ≤ u) : (Lib.decDigits u).head? ≠ some 48 := by
  induction u using Nat.strongRecOn with
  | ind u ih =>
    by_cases h : u < 10
    · rw [Lib.decDigits_one h]
      intro e
      simp only [List.head?_cons, Option.some.injEq] at e
      have h1 := digit_toNat u h
      rw [e] at h1
      have : (48 : UInt8).toNat = 48 := rfl
      omega
    · rw [Lib.decDigits, dif_neg h, List.head?_append]
      have := ih (u / 10) (by omega) (by omega)
      cases hh : (Lib.decDigits (u / 10)).head? with
      | none =>
        have := digits_ne (u / 10)
        rw [List.head?_eq_none_iff] at hh
        exact absurd hh this
      | some x =>
        rw [hh] at this
        simpa using this

theorem numOf_digits (u : Nat) (hu : u < 18446744073709551616) : numOf (Lib.decDigits u) = some u := by
  unfold numOf
  rw [if_neg, Lib.parseUintB, if_neg (digits_ne u), parseM_digits u hu]
  rintro ⟨h1, h2⟩
  rw [Lib.decDigits_length] at h1
  by_cases h0 : u = 0
  · subst h0
    rw [Lib.nDigits_small (by omega)] at h1
    omega
  · exact digits_head u (by omega) h2

theorem scan_digits (e : UInt8) (he : isDg e = false) (r : List UInt8) : ∀ (ds pre : List UInt8), (∀ d ∈ ds, isDg d = true) → pre.length + ds.length ≤ 20 →
    scan e pre (ds ++ e :: r) = match numOf (pre ++ ds) with
      | some n => (0, n, r)
      | none => (3, 0, [])
  | [], pre, _, _ => by
    rw [List.nil_append, scan_cons, if_pos rfl, List.append_nil]
    cases numOf pre <;> rfl
  | d :: ds, pre, hd, hl => by
    have h1 := hd d (by simp)
    rw [List.cons_append, scan_cons, if_neg (by rintro rfl; rw [h1] at he; cases he), if_neg]
    · rw [scan_digits e he r ds (pre ++ [d]) (fun x hx => hd x (by simp [hx])) (by simp at hl ⊢; omega)]
      simp
    · rintro (h | h)
      · rw [h1] at h; cases h
      · simp at hl; omega

theorem scan_cut (e : UInt8) (he : isDg e = false) : ∀ (ds pre : List UInt8), (∀ d ∈ ds, isDg d = true) → pre.length + ds.length ≤ 20 → scan e pre ds = (12, 0, [])
  | [], pre, _, _ => rfl
  | d :: ds, pre, hd, hl => by
    have h1 := hd d (by simp)
    rw [scan_cons, if_neg (by rintro rfl; rw [h1] at he; cases he), if_neg]
    · exact scan_cut e he ds (pre ++ [d]) (fun x hx => hd x (by simp [hx])) (by simp at hl ⊢; omega)
    · rintro (h | h)
      · rw [h1] at h; cases h
      · simp at hl; omega

theorem digits_len (u : Nat) (hu : u < 18446744073709551616) : (Lib.decDigits u).length ≤ 20 := by
  rw [Lib.decDigits_length]; exact Lib.nDigits_le20 u hu

theorem scan_dec (e : UInt8) (he : isDg e = false) (u : Nat) (hu : u < 18446744073709551616) (r : List UInt8) : scan e [] (Lib.decDigits u ++ e :: r) = (0, u, r) := by
  rw [scan_digits e he r _ _ (digits_all u) (by simpa using digits_len u hu), List.nil_append, numOf_digits u hu]

/-- A begin of digits and their sign, but not all: the end comes first. -/
theorem scan_dec_cut (e : UInt8) (he : isDg e = false) (u : Nat) (hu : u < 18446744073709551616) (j : Nat) (hj : j ≤ (Lib.decDigits u).length) : scan e [] ((Lib.decDigits u ++ [e]).take j) = (12, 0, []) := by
  rw [List.take_append_of_le_length hj]
  exact scan_cut e he _ _ (fun d hd => digits_all u d (List.mem_of_mem_take hd)) (by simp; have := digits_len u hu; omega)

theorem rdUint_lay (most u : Nat) (hu : u < 18446744073709551616) (hm : u ≤ most) (r : List UInt8) : rdUint most (lUint u ++ r) = (0, u, r) := by
  unfold rdUint lUint
  rw [List.cons_append, hd_cons, if_pos rfl, List.append_assoc, List.singleton_append, scan_dec 59 (by decide) u hu r]
  simp only
  rw [if_neg (by omega)]

theorem itoa_neg (k : Int) (h : k < 0) : Lib.itoa k = 45 :: Lib.decDigits k.natAbs := by unfold Lib.itoa; rw [if_pos h]
theorem itoa_pos' (k : Int) (h : ¬ k < 0) : Lib.itoa k = Lib.decDigits k.toNat := by unfold Lib.itoa; rw [if_neg h]

theorem digits_head45 (u : Nat) (r : List UInt8) : (Lib.decDigits u ++ r).head? ≠ some 45 := by
  intro e
  cases h : Lib.decDigits u with
  | nil => exact digits_ne u h
  | cons d t =>
    rw [h] at e
    simp only [List.cons_append, List.head?_cons, Option.some.injEq] at e
    have := digits_all u d (by rw [h]; simp)
    rw [e] at this
    exact absurd this (by decide)

theorem rdInt_plus (u : Nat) (hu : u ≤ 9223372036854775807) (r : List UInt8) : rdInt (105 :: (Lib.decDigits u ++ 59 :: r)) = (0, (u : Int), r) := by
  have h45 := digits_head45 u (59 :: r)
  rw [rdInt_cons, if_pos rfl, if_neg h45, scan_dec 59 (by decide) u (by omega) r]
  have e1 : decide ((Lib.decDigits u ++ 59 :: r).head? = some 45) = false := decide_eq_false h45
  simp only [e1, sgn, if_pos, if_pos hu]

theorem rdInt_minus (u : Nat) (h0 : 1 ≤ u) (hu : u ≤ 9223372036854775808) (r : List UInt8) : rdInt (105 :: 45 :: (Lib.decDigits u ++ 59 :: r)) = (0, -(u : Int), r) := by
  rw [rdInt_cons, if_pos rfl]
  simp only [List.head?_cons, if_pos, List.tail_cons, decide_true]
  rw [scan_dec 59 (by decide) u (by omega) r]
  have : sgn u true = (0, -(u : Int)) := by
    unfold sgn
    rw [if_neg (by decide), if_neg (by omega), if_pos hu]
  simp only [this, if_pos]

theorem rdInt_lay (k : Int) (h0 : -9223372036854775808 ≤ k) (h1 : k ≤ 9223372036854775807) (r : List UInt8) : rdInt (lInt k ++ r) = (0, k, r) := by
  unfold lInt
  by_cases h : k < 0
  · rw [itoa_neg k h]
    simp only [List.cons_append, List.append_assoc, List.nil_append]
    rw [rdInt_minus k.natAbs (by omega) (by omega) r]
    congr 2
    omega
  · rw [itoa_pos' k h]
    simp only [List.cons_append, List.append_assoc, List.nil_append]
    rw [rdInt_plus k.toNat (by omega) r]
    congr 2
    omega

theorem rdBool_lay (b : Bool) (r : List UInt8) : rdBool (lBool b ++ r) = (0, b, r) := by
  cases b <;> rfl

theorem hd_lHead (letter : UInt8) (n : Nat) (hn : n < 18446744073709551616) (r : List UInt8) : hd letter 58 (lHead letter n ++ r) = (0, n, r) := by
  unfold lHead
  rw [List.cons_append, hd_cons, if_pos rfl, List.append_assoc, List.singleton_append, scan_dec 58 (by decide) n hn r]

theorem rdBytes_lay (letter : UInt8) (l r : List UInt8) (hl : l.length < 18446744073709551616) (most : Int) (hm : (l.length : Int) ≤ most) : rdBytes letter most (lHead letter l.length ++ l ++ r) = (0, l, r) := by
  unfold rdBytes
  rw [if_neg (by omega), List.append_assoc, hd_lHead letter _ hl]
  simp only
  rw [if_neg (by omega), if_neg (by simp), List.take_left, List.drop_left]

theorem rdText_lay (l r : List UInt8) (hl : l.length < 18446744073709551616) (most : Int) (hm : (l.length : Int) ≤ most) : rdBytes 116 most (lText l ++ r) = (0, l, r) := rdBytes_lay 116 l r hl most hm
theorem rdBytes_lay' (l r : List UInt8) (hl : l.length < 18446744073709551616) (most : Int) (hm : (l.length : Int) ≤ most) : rdBytes 98 most (lBytes l ++ r) = (0, l, r) := rdBytes_lay 98 l r hl most hm

/-- What taking off as one of five leaves. -/
def asR (k : Nat) (len : Int) (s : List UInt8 × Nat) : List UInt8 × Nat :=
  if k = 0 then (rUint 18446744073709551615 s).1 else if k = 1 then (rInt s).1 else if k = 2 then (rBool s).1 else if k = 3 then (rBytes 116 len s).1 else (rBytes 98 len s).1

theorem asR_stop (k : Nat) (len : Int) (bs : List UInt8) (e : Nat) (he : e ≠ 0) : asR k len (bs, e) = (bs, e) := by
  unfold asR rUint rInt rBool rBytes
  simp only [if_neg he]
  split
  · rfl
  · split
    · rfl
    · split
      · rfl
      · split <;> rfl

/-- What is laid is taken off, and what is behind is left. -/
theorem asR_right (kd n : Int) (t r : List UInt8) (h0 : -9223372036854775808 ≤ n) (h1 : n ≤ 9223372036854775807) (ht : t.length < 18446744073709551616) : asR (five kd) t.length (layB kd n t ++ r, 0) = (r, 0) := by
  have hq := five_lt kd
  unfold asR layB
  by_cases c0 : five kd = 0
  · rw [if_pos c0, if_pos c0]
    simp only [rUint, if_pos]
    rw [rdUint_lay _ _ (by omega) (by omega)]
    rfl
  · rw [if_neg c0, if_neg c0]
    by_cases c1 : five kd = 1
    · rw [if_pos c1, if_pos c1]
      simp only [rInt, if_pos]
      rw [rdInt_lay n h0 h1]
      rfl
    · rw [if_neg c1, if_neg c1]
      by_cases c2 : five kd = 2
      · rw [if_pos c2, if_pos c2]
        simp only [rBool, if_pos]
        rw [rdBool_lay]
        rfl
      · rw [if_neg c2, if_neg c2]
        by_cases c3 : five kd = 3
        · rw [if_pos c3, if_pos c3]
          simp only [rBytes, if_pos]
          rw [rdText_lay t r ht _ (Int.le_refl _)]
          rfl
        · rw [if_neg c3, if_neg c3]
          simp only [rBytes, if_pos]
          rw [rdBytes_lay' t r ht _ (Int.le_refl _)]
          rfl

theorem layB_head (kd n : Int) (t : List UInt8) : ∃ c r, layB kd n t = c :: r ∧ ((five kd = 0 ∧ c = 110) ∨ (five kd = 1 ∧ c = 105) ∨ (five kd = 2 ∧ (c = 121 ∨ c = 122)) ∨ (five kd = 3 ∧ c = 116) ∨ (five kd = 4 ∧ c = 98)) := by
  have hq := five_lt kd
  unfold layB
  by_cases c0 : five kd = 0
  · rw [if_pos c0]; exact ⟨_, _, rfl, Or.inl ⟨c0, rfl⟩⟩
  · rw [if_neg c0]
    by_cases c1 : five kd = 1
    · rw [if_pos c1]; exact ⟨_, _, rfl, Or.inr (Or.inl ⟨c1, rfl⟩)⟩
    · rw [if_neg c1]
      by_cases c2 : five kd = 2
      · rw [if_pos c2]
        refine ⟨_, _, rfl, Or.inr (Or.inr (Or.inl ⟨c2, ?_⟩))⟩
        split
        · exact Or.inl rfl
        · exact Or.inr rfl
      · rw [if_neg c2]
        by_cases c3 : five kd = 3
        · rw [if_pos c3]; exact ⟨_, _, rfl, Or.inr (Or.inr (Or.inr (Or.inl ⟨c3, rfl⟩)))⟩
        · rw [if_neg c3]; exact ⟨_, _, rfl, Or.inr (Or.inr (Or.inr (Or.inr ⟨by omega, rfl⟩)))⟩

/-- A thing is taken off as nothing else. -/
theorem asR_wrong (k : Nat) (hk : k < 5) (kd n : Int) (t r : List UInt8) (len : Int) (hl : 0 ≤ len) (hne : k ≠ five kd) : asR k len (layB kd n t ++ r, 0) = (layB kd n t ++ r, 3) := by
  obtain ⟨c, u, hc, hh⟩ := layB_head kd n t
  rw [hc, List.cons_append]
  have hkk : k = 0 ∨ k = 1 ∨ k = 2 ∨ k = 3 ∨ k = 4 := by omega
  have hhd : ∀ l e : UInt8, c ≠ l → hd l e (c :: (u ++ r)) = (3, 0, []) := fun l e h => by rw [hd_cons, if_neg h]
  rcases hkk with rfl | rfl | rfl | rfl | rfl
  · have h1 : c ≠ 110 := by rintro rfl; rcases hh with ⟨h, _⟩ | ⟨_, h⟩ | ⟨_, h | h⟩ | ⟨_, h⟩ | ⟨_, h⟩ <;> first | omega | exact absurd h (by decide)
    simp [asR, rUint, rdUint, hhd _ _ h1]
  · have h1 : c ≠ 105 := by rintro rfl; rcases hh with ⟨_, h⟩ | ⟨h, _⟩ | ⟨_, h | h⟩ | ⟨_, h⟩ | ⟨_, h⟩ <;> first | omega | exact absurd h (by decide)
    simp [asR, rInt, rdInt, h1]
  · have h1 : c ≠ 121 ∧ c ≠ 122 := by
      constructor
      · rintro rfl; rcases hh with ⟨_, h⟩ | ⟨_, h⟩ | ⟨h, _⟩ | ⟨_, h⟩ | ⟨_, h⟩ <;> first | omega | exact absurd h (by decide)
      · rintro rfl; rcases hh with ⟨_, h⟩ | ⟨_, h⟩ | ⟨h, _⟩ | ⟨_, h⟩ | ⟨_, h⟩ <;> first | omega | exact absurd h (by decide)
    simp [asR, rBool, rdBool, h1.1, h1.2]
  · have h1 : c ≠ 116 := by rintro rfl; rcases hh with ⟨_, h⟩ | ⟨_, h⟩ | ⟨_, h | h⟩ | ⟨h, _⟩ | ⟨_, h⟩ <;> first | omega | exact absurd h (by decide)
    have h2 : ¬ len < 0 := by omega
    simp [asR, rBytes, rdBytes, hhd _ _ h1, h2]
  · have h1 : c ≠ 98 := by rintro rfl; rcases hh with ⟨_, h⟩ | ⟨_, h⟩ | ⟨_, h | h⟩ | ⟨_, h⟩ | ⟨h, _⟩ <;> first | omega | exact absurd h (by decide)
    have h2 : ¬ len < 0 := by omega
    simp [asR, rBytes, rdBytes, hhd _ _ h1, h2]

theorem layB_len (kd n : Int) (t : List UInt8) (h0 : -9223372036854775808 ≤ n) (h1 : n ≤ 9223372036854775807) (ht : t.length < 18446744073709551616) : (layB kd n t).length ≤ 23 + t.length := by
  unfold layB
  have hi := Lib.itoa_length_le n h0 h1
  have hd1 := digits_len (n % 18446744073709551616).toNat (by omega)
  have hd2 := digits_len t.length ht
  split
  · simp [lUint]; omega
  · split
    · simp [lInt]; omega
    · split
      · simp [lBool]; omega
      · split
        · simp [lText, lHead]; omega
        · simp [lBytes, lHead]; omega

end Go.Proofs.YtfblgkcipnkhaaaGreatDoor.pk
