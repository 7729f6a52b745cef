/-
  Plain mathematics for the package pack: what taking digits off a list of bytes gives, as functions on lists. Nothing of the program is in it.
-/
import Derived.Lib.ItoaNum
import Derived.Lib.ItoaLen
import Derived.Lib.ParseIntB
import Derived.Lib.ParseIntBCases
namespace Go.Proofs.YtfblgkcipnkhaaaGreatDoor.pk
open Go

/-- What the digits tell: nothing, if there are none, a needless nought, or too much. -/
def numOf (ds : List UInt8) : Option Nat :=
  if 1 < ds.length ∧ ds.head? = some 48 then none else
    match Lib.parseUintB 64 ds with
    | .ok u => some u
    | _ => none

/-- Is the byte a digit? -/
def isDg (c : UInt8) : Bool := decide (48 ≤ c.toNat ∧ c.toNat ≤ 57)

/-- Digits up to a sign: the error's number (0: none), the number, what is behind. -/
def scan (e : UInt8) (pre : List UInt8) : List UInt8 → Nat × Nat × List UInt8
  | [] => (12, 0, [])
  | c :: r =>
    if c = e then
      match numOf pre with
      | some n => (0, n, r)
      | none => (3, 0, [])
    else if isDg c = false ∨ pre.length = 20 then (3, 0, [])
    else scan e (pre ++ [c]) r

theorem scan_cons (e : UInt8) (pre : List UInt8) (c : UInt8) (r : List UInt8) : scan e pre (c :: r) =
    if c = e then
      match numOf pre with
      | some n => (0, n, r)
      | none => (3, 0, [])
    else if isDg c = false ∨ pre.length = 20 then (3, 0, [])
    else scan e (pre ++ [c]) r := rfl

/-- A letter, and digits behind it up to a sign. -/
def hd (l e : UInt8) : List UInt8 → Nat × Nat × List UInt8
  | [] => (12, 0, [])
  | c :: r => if c = l then scan e [] r else (3, 0, [])

/-- A number of a size, below 0 or not: the error's number (0: none), the number. -/
def sgn (n : Nat) (neg : Bool) : Nat × Int :=
  if neg = false then (if n ≤ 9223372036854775807 then (0, (n : Int)) else (4, 0))
  else if n = 0 then (3, 0) else if n ≤ 9223372036854775808 then (0, -(n : Int)) else (4, 0)

/-- What Uint(most), Int, Bool, Text(most) and Bytes(most) take off bytes: the error's number (0: none), the thing, what is behind. -/
def rdUint (most : Nat) (l : List UInt8) : Nat × Nat × List UInt8 :=
  match hd 110 59 l with
  | (0, n, r) => if most < n then (4, 0, []) else (0, n, r)
  | (k + 1, _, _) => (k + 1, 0, [])
def rdInt : List UInt8 → Nat × Int × List UInt8
  | [] => (12, 0, [])
  | c :: r =>
    if c = 105 then
      match scan 59 [] (if r.head? = some 45 then r.tail else r) with
      | (0, n, rest) => if (sgn n (r.head? = some 45)).1 = 0 then (0, (sgn n (r.head? = some 45)).2, rest) else ((sgn n (r.head? = some 45)).1, 0, [])
      | (k + 1, _, _) => (k + 1, 0, [])
    else (3, 0, [])
def rdBool : List UInt8 → Nat × Bool × List UInt8
  | [] => (12, false, [])
  | c :: r => if c = 121 then (0, true, r) else if c = 122 then (0, false, r) else (3, false, [])
def rdBytes (letter : UInt8) (most : Int) (l : List UInt8) : Nat × List UInt8 × List UInt8 :=
  if most < 0 then (1, [], []) else
  match hd letter 58 l with
  | (0, n, r) => if most < (n : Int) then (2, [], []) else if r.length < n then (12, [], []) else (0, r.take n, r.drop n)
  | (k + 1, _, _) => (k + 1, [], [])

theorem rdBool_cons (c : UInt8) (r : List UInt8) : rdBool (c :: r) = if c = 121 then (0, true, r) else if c = 122 then (0, false, r) else (3, false, []) := rfl

/-- What is left behind the '-', or all. -/
theorem rdInt_cons (c : UInt8) (r : List UInt8) : rdInt (c :: r) = if c = 105 then
      match scan 59 [] (if r.head? = some 45 then r.tail else r) with
      | (0, n, rest) => if (sgn n (r.head? = some 45)).1 = 0 then (0, (sgn n (r.head? = some 45)).2, rest) else ((sgn n (r.head? = some 45)).1, 0, [])
      | (k + 1, _, _) => (k + 1, 0, [])
    else (3, 0, []) := rfl

theorem rdUint_ok {most m : Nat} {l rest : List UInt8} (h : rdUint most l = (0, m, rest)) : hd 110 59 l = (0, m, rest) ∧ m ≤ most := by
  unfold rdUint at h
  split at h
  · rename_i n r hh
    by_cases hm : most < n
    · rw [if_pos hm] at h; simp at h
    · rw [if_neg hm] at h
      simp only [Prod.mk.injEq, true_and] at h
      obtain ⟨rfl, rfl⟩ := h
      exact ⟨hh, by omega⟩
  · simp at h
theorem rdUint_err {most k m : Nat} {l rest : List UInt8} (h : rdUint most l = (k, m, rest)) (hk : k ≠ 0) :
    (∃ n r, hd 110 59 l = (k, n, r)) ∨ (k = 4 ∧ ∃ n r, hd 110 59 l = (0, n, r) ∧ most < n) := by
  unfold rdUint at h
  split at h
  · rename_i n r hh
    by_cases hm : most < n
    · rw [if_pos hm] at h
      simp only [Prod.mk.injEq] at h
      exact Or.inr ⟨h.1.symm, n, r, hh, hm⟩
    · rw [if_neg hm] at h
      simp only [Prod.mk.injEq] at h
      exact absurd h.1.symm hk
  · rename_i k' n r hh
    simp only [Prod.mk.injEq] at h
    exact Or.inl ⟨n, r, by rw [hh, ← h.1]⟩
theorem rdBytes_ok {letter : UInt8} {most : Int} {l x rest : List UInt8} (h : rdBytes letter most l = (0, x, rest)) :
    0 ≤ most ∧ ∃ n r, hd letter 58 l = (0, n, r) ∧ (n : Int) ≤ most ∧ n ≤ r.length ∧ x = r.take n ∧ rest = r.drop n := by
  unfold rdBytes at h
  by_cases h0 : most < 0
  · rw [if_pos h0] at h; simp at h
  · rw [if_neg h0] at h
    refine ⟨by omega, ?_⟩
    split at h
    · rename_i n r hh
      by_cases h1 : most < (n : Int)
      · rw [if_pos h1] at h; simp at h
      · rw [if_neg h1] at h
        by_cases h2 : r.length < n
        · rw [if_pos h2] at h; simp at h
        · rw [if_neg h2] at h
          simp only [Prod.mk.injEq, true_and] at h
          exact ⟨n, r, hh, by omega, by omega, h.1.symm, h.2.symm⟩
    · simp at h
theorem rdBytes_err {letter : UInt8} {most : Int} {k : Nat} {l x rest : List UInt8} (h : rdBytes letter most l = (k, x, rest)) (hk : k ≠ 0) :
    (k = 1 ∧ most < 0) ∨ (0 ≤ most ∧ ((∃ n r, hd letter 58 l = (k, n, r)) ∨ ∃ n r, hd letter 58 l = (0, n, r) ∧ ((k = 2 ∧ most < (n : Int)) ∨ (k = 12 ∧ (n : Int) ≤ most ∧ r.length < n)))) := by
  unfold rdBytes at h
  by_cases h0 : most < 0
  · rw [if_pos h0] at h
    simp only [Prod.mk.injEq] at h
    exact Or.inl ⟨h.1.symm, h0⟩
  · rw [if_neg h0] at h
    refine Or.inr ⟨by omega, ?_⟩
    split at h
    · rename_i n r hh
      by_cases h1 : most < (n : Int)
      · rw [if_pos h1] at h
        simp only [Prod.mk.injEq] at h
        exact Or.inr ⟨n, r, hh, Or.inl ⟨h.1.symm, h1⟩⟩
      · rw [if_neg h1] at h
        by_cases h2 : r.length < n
        · rw [if_pos h2] at h
          simp only [Prod.mk.injEq] at h
          exact Or.inr ⟨n, r, hh, Or.inr ⟨h.1.symm, by omega, h2⟩⟩
        · rw [if_neg h2] at h
          simp only [Prod.mk.injEq] at h
          exact absurd h.1.symm hk
    · rename_i k' n r hh
      simp only [Prod.mk.injEq] at h
      exact Or.inl ⟨n, r, by rw [hh, ← h.1]⟩

theorem hd_cons (l e c : UInt8) (r : List UInt8) : hd l e (c :: r) = if c = l then scan e [] r else (3, 0, []) := rfl

theorem scan_err {e : UInt8} : ∀ (l pre : List UInt8) {k n : Nat} {r : List UInt8}, scan e pre l = (k, n, r) → k ≠ 0 → (k = 3 ∨ k = 12) ∧ n = 0 ∧ r = []
  | [], pre, k, n, r, h, hk => by
    simp only [scan, Prod.mk.injEq] at h
    obtain ⟨rfl, rfl, rfl⟩ := h
    exact ⟨Or.inr rfl, rfl, rfl⟩
  | c :: t, pre, k, n, r, h, hk => by
    unfold scan at h
    by_cases h1 : c = e
    · rw [if_pos h1] at h
      cases hn : numOf pre with
      | some m =>
        rw [hn] at h
        simp only [Prod.mk.injEq] at h
        exact absurd h.1.symm hk
      | none =>
        rw [hn] at h
        simp only [Prod.mk.injEq] at h
        obtain ⟨rfl, rfl, rfl⟩ := h
        exact ⟨Or.inl rfl, rfl, rfl⟩
    · rw [if_neg h1] at h
      by_cases h2 : isDg c = false ∨ pre.length = 20
      · rw [if_pos h2] at h
        simp only [Prod.mk.injEq] at h
        obtain ⟨rfl, rfl, rfl⟩ := h
        exact ⟨Or.inl rfl, rfl, rfl⟩
      · rw [if_neg h2] at h
        exact scan_err t _ h hk

theorem numOf_some {ds : List UInt8} {u : Nat} (h : numOf ds = some u) : ¬ (1 < ds.length ∧ ds.head? = some 48) ∧ Lib.parseUintB 64 ds = .ok u := by
  unfold numOf at h
  by_cases h1 : 1 < ds.length ∧ ds.head? = some 48
  · rw [if_pos h1] at h; cases h
  · rw [if_neg h1] at h
    refine ⟨h1, ?_⟩
    cases hp : Lib.parseUintB 64 ds with
    | ok v =>
      rw [hp] at h
      injection h with h
      rw [h]
    | _ => rw [hp] at h; cases h

theorem numOf_none {ds : List UInt8} (h : numOf ds = none) (h1 : ¬ (1 < ds.length ∧ ds.head? = some 48)) : Lib.parseUintB 64 ds = Lib.parseUintB 64 [] ∨ Lib.parseUintB 64 ds = .range := by
  unfold numOf at h
  rw [if_neg h1] at h
  cases hp : Lib.parseUintB 64 ds with
  | ok v => rw [hp] at h; cases h
  | range => exact Or.inr rfl
  | _ => exact Or.inl rfl

theorem numOf_lt {ds : List UInt8} {u : Nat} (h : numOf ds = some u) : u < 18446744073709551616 := by
  unfold numOf at h
  by_cases h1 : 1 < ds.length ∧ ds.head? = some 48
  · rw [if_pos h1] at h; cases h
  · rw [if_neg h1] at h
    by_cases h2 : ds = []
    · subst h2
      simp [Lib.parseUintB] at h
    · unfold Lib.parseUintB at h
      rw [if_neg h2] at h
      cases hp : Lib.parseUintM (2 ^ 64 - 1) 0 ds with
      | ok v =>
        rw [hp] at h
        injection h with h
        subst h
        have := Lib.parseUintM_le (2 ^ 64 - 1) ds 0 v (Nat.zero_le _) hp
        omega
      | _ => rw [hp] at h; cases h

theorem scan_lt {e : UInt8} : ∀ (l pre : List UInt8) {k n : Nat} {r : List UInt8}, scan e pre l = (k, n, r) → n < 18446744073709551616
  | [], pre, k, n, r, h => by
    simp only [scan, Prod.mk.injEq] at h
    omega
  | c :: t, pre, k, n, r, h => by
    unfold scan at h
    by_cases h1 : c = e
    · rw [if_pos h1] at h
      cases hn : numOf pre with
      | some m =>
        rw [hn] at h
        simp only [Prod.mk.injEq] at h
        obtain ⟨_, rfl, _⟩ := h
        exact numOf_lt hn
      | none =>
        rw [hn] at h
        simp only [Prod.mk.injEq] at h
        omega
    · rw [if_neg h1] at h
      by_cases h2 : isDg c = false ∨ pre.length = 20
      · rw [if_pos h2] at h
        simp only [Prod.mk.injEq] at h
        omega
      · rw [if_neg h2] at h
        exact scan_lt t _ h

theorem hd_lt {l e : UInt8} {bs : List UInt8} {k n : Nat} {r : List UInt8} (h : hd l e bs = (k, n, r)) : n < 18446744073709551616 := by
  rcases bs with _ | ⟨c, t⟩
  · simp only [hd, Prod.mk.injEq] at h; omega
  · rw [hd_cons] at h
    by_cases h1 : c = l
    · rw [if_pos h1] at h; exact scan_lt _ _ h
    · rw [if_neg h1] at h; simp only [Prod.mk.injEq] at h; omega

theorem scan_len {e : UInt8} : ∀ (l pre : List UInt8) {k n : Nat} {r : List UInt8}, scan e pre l = (k, n, r) → r.length ≤ l.length
  | [], pre, k, n, r, h => by
    simp only [scan, Prod.mk.injEq] at h
    obtain ⟨_, _, rfl⟩ := h
    simp
  | c :: t, pre, k, n, r, h => by
    rw [scan_cons] at h
    by_cases h1 : c = e
    · rw [if_pos h1] at h
      cases hn : numOf pre with
      | some m =>
        rw [hn] at h
        simp only [Prod.mk.injEq] at h
        obtain ⟨_, _, rfl⟩ := h
        simp
      | none =>
        rw [hn] at h
        simp only [Prod.mk.injEq] at h
        obtain ⟨_, _, rfl⟩ := h
        simp
    · rw [if_neg h1] at h
      by_cases h2 : isDg c = false ∨ pre.length = 20
      · rw [if_pos h2] at h
        simp only [Prod.mk.injEq] at h
        obtain ⟨_, _, rfl⟩ := h
        simp
      · rw [if_neg h2] at h
        have := scan_len t _ h
        simp only [List.length_cons]
        omega
theorem hd_len {l e : UInt8} {bs : List UInt8} {k n : Nat} {r : List UInt8} (h : hd l e bs = (k, n, r)) : r.length ≤ bs.length := by
  rcases bs with _ | ⟨c, t⟩
  · simp only [hd, Prod.mk.injEq] at h
    obtain ⟨_, _, rfl⟩ := h
    simp
  · rw [hd_cons] at h
    by_cases h1 : c = l
    · rw [if_pos h1] at h
      have := scan_len _ _ h
      simp only [List.length_cons]
      omega
    · rw [if_neg h1] at h
      simp only [Prod.mk.injEq] at h
      obtain ⟨_, _, rfl⟩ := h
      simp
theorem rdBytes_len {letter : UInt8} {most : Int} {l x rest : List UInt8} (h : rdBytes letter most l = (0, x, rest)) : x.length ≤ l.length := by
  obtain ⟨_, n, r, hh, _, _, rfl, _⟩ := rdBytes_ok h
  have := hd_len hh
  rw [List.length_take]
  omega

/-- A reader's state: what is left, and the first error's number (0: none). -/
def rUint (most : Nat) (s : List UInt8 × Nat) : (List UInt8 × Nat) × Nat :=
  if s.2 = 0 then (if (rdUint most s.1).1 = 0 then (((rdUint most s.1).2.2, 0), (rdUint most s.1).2.1) else ((s.1, (rdUint most s.1).1), 0)) else (s, 0)
def rInt (s : List UInt8 × Nat) : (List UInt8 × Nat) × Int :=
  if s.2 = 0 then (if (rdInt s.1).1 = 0 then (((rdInt s.1).2.2, 0), (rdInt s.1).2.1) else ((s.1, (rdInt s.1).1), 0)) else (s, 0)
def rBool (s : List UInt8 × Nat) : (List UInt8 × Nat) × Bool :=
  if s.2 = 0 then (if (rdBool s.1).1 = 0 then (((rdBool s.1).2.2, 0), (rdBool s.1).2.1) else ((s.1, (rdBool s.1).1), false)) else (s, false)
def rBytes (letter : UInt8) (most : Int) (s : List UInt8 × Nat) : (List UInt8 × Nat) × List UInt8 :=
  if s.2 = 0 then (if (rdBytes letter most s.1).1 = 0 then (((rdBytes letter most s.1).2.2, 0), (rdBytes letter most s.1).2.1) else ((s.1, (rdBytes letter most s.1).1), [])) else (s, [])

/-- What is laid. -/
def lUint (u : Nat) : List UInt8 := 110 :: (Lib.decDigits u ++ [59])
def lInt (k : Int) : List UInt8 := 105 :: (Lib.itoa k ++ [59])
def lBool (b : Bool) : List UInt8 := [if b then 121 else 122]
def lHead (letter : UInt8) (n : Nat) : List UInt8 := letter :: (Lib.decDigits n ++ [58])
def lText (l : List UInt8) : List UInt8 := lHead 116 l.length ++ l
def lBytes (l : List UInt8) : List UInt8 := lHead 98 l.length ++ l

/-- Which of five a number names. -/
def five (k : Int) : Nat := ((k % 18446744073709551616) % 5).toNat
theorem five_lt (k : Int) : five k < 5 := by unfold five; omega
/-- A thing laid: a number, an int, a truth, a text, bytes. -/
def layB (kd n : Int) (t : List UInt8) : List UInt8 :=
  if five kd = 0 then lUint (n % 18446744073709551616).toNat else if five kd = 1 then lInt n else if five kd = 2 then lBool (decide (0 < n)) else if five kd = 3 then lText t else lBytes t

end Go.Proofs.YtfblgkcipnkhaaaGreatDoor.pk
