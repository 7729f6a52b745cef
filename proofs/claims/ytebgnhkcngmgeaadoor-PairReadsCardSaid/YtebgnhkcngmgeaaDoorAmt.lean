/-
  Plain mathematics of amounts: which parts are amounts; the amount of a text, and an amount's text.
-/
import Derived.Test.YtebgnhkcngmgeaaDoorFloat3
import Derived.Lib.ItoaNum
import Derived.Lib.ItoaLen
namespace Go.Proofs.YtebgnhkcngmgeaaDoor.pk
open Go Ieee
set_option maxRecDepth 100000

/-- The whole number that bits are, if they are an amount's part. -/
def amt (x : Nat) : Option Nat :=
  match (double.read x).toInt .zero with
  | some i => if i.toNat ≤ mostN ∧ fB i.toNat = x then some i.toNat else none
  | none => none

theorem amt_fB {n : Nat} (h : n ≤ mostN) : amt (fB n) = some n := by
  unfold amt
  rw [fB_toInt (Nat.lt_of_le_of_lt h mostN_lt)]
  show (if (n : Int).toNat ≤ mostN ∧ fB (n : Int).toNat = fB n then some (n : Int).toNat else none) = some n
  rw [Int.toNat_natCast, if_pos ⟨h, rfl⟩]
theorem amt_some {x n : Nat} (h : amt x = some n) : x = fB n ∧ n ≤ mostN := by
  unfold amt at h
  split at h
  · split at h
    · rename_i hc
      injection h with h
      subst h
      exact ⟨hc.2.symm, hc.1⟩
    · cases h
  · cases h
theorem fB_inj {a b : Nat} (ha : a ≤ mostN) (hb : b ≤ mostN) (h : fB a = fB b) : a = b := by
  have h1 := amt_fB ha
  rw [h, amt_fB hb] at h1
  injection h1 with h1
  exact h1.symm

/-- The amount of two numbers, if both are there and none is too great. -/
def pairOf : Option Nat → Option Nat → Option (Nat × Nat)
  | some x, some y => if x ≤ mostN ∧ y ≤ mostN then some (x, y) else none
  | _, _ => none
/-- The amount of two parts' bits. -/
def amt2 (a b : Nat) : Option (Nat × Nat) := pairOf (amt a) (amt b)
theorem amt2_fB {x y : Nat} (hx : x ≤ mostN) (hy : y ≤ mostN) : amt2 (fB x) (fB y) = some (x, y) := by
  unfold amt2
  rw [amt_fB hx, amt_fB hy]
  exact if_pos ⟨hx, hy⟩

def isDig (c : UInt8) : Bool := decide (48 ≤ c.toNat) && decide (c.toNat ≤ 57)
/-- The number of digits. -/
def dval (l : List UInt8) : Nat := l.foldl (fun n c => 10 * n + (c.toNat - 48)) 0
theorem dval_snoc (l : List UInt8) (c : UInt8) : dval (l ++ [c]) = 10 * dval l + (c.toNat - 48) := by
  unfold dval
  rw [List.foldl_append]
  rfl
/-- The number of a text of digits. -/
def numT (l : List UInt8) : Option Nat :=
  if l = [] ∨ 13 < l.length ∨ (1 < l.length ∧ l.head? = some 48) ∨ l.all isDig = false then none else some (dval l)

theorem dval_dec : ∀ (n : Nat) (l : List UInt8), l.length = n → l ≠ [] → l.all isDig = true → ¬ (1 < l.length ∧ l.head? = some 48) → Lib.decDigits (dval l) = l ∧ (l.head? ≠ some 48 → 1 ≤ dval l) := by
  intro n
  induction n with
  | zero => intro l hl hn; exact absurd (List.eq_nil_of_length_eq_zero hl) hn
  | succ n ih =>
    intro l hl hn hd hh
    obtain ⟨m, c, rfl⟩ : ∃ m c, l = m ++ [c] := ⟨l.dropLast, l.getLast hn, (List.dropLast_concat_getLast hn).symm⟩
    have hm : m.length = n := by simp at hl; exact hl
    have hc : isDig c = true := by
      rw [List.all_eq_true] at hd
      exact hd c (by simp)
    unfold isDig at hc
    rw [Bool.and_eq_true] at hc
    have c1 : 48 ≤ c.toNat := of_decide_eq_true hc.1
    have c2 : c.toNat ≤ 57 := of_decide_eq_true hc.2
    have hcc : UInt8.ofNat (48 + (c.toNat - 48)) = c := by
      rw [show 48 + (c.toNat - 48) = c.toNat by omega]
      exact UInt8.ofNat_toNat
    rw [dval_snoc]
    by_cases hm0 : m = []
    · subst hm0
      have hlt : 10 * dval [] + (c.toNat - 48) < 10 := by
        show 10 * 0 + (c.toNat - 48) < 10
        omega
      have he : 10 * dval [] + (c.toNat - 48) = c.toNat - 48 := by
        show 10 * 0 + (c.toNat - 48) = _
        omega
      rw [he]
      refine ⟨?_, fun h => ?_⟩
      · rw [Lib.decDigits, dif_pos (by omega), hcc]
        rfl
      · have : c ≠ 48 := fun e => h (by rw [e]; rfl)
        have h48 : c.toNat ≠ 48 := fun e => this (UInt8.toNat_inj.1 (by rw [e]; rfl))
        omega
    · have hlen : 1 < (m ++ [c]).length := by
        have : 0 < m.length := List.length_pos_iff.2 hm0
        simp
        omega
      have hhead : (m ++ [c]).head? = m.head? := by
        cases m with
        | nil => exact absurd rfl hm0
        | cons a m => rfl
      have hh2 : m.head? ≠ some 48 := fun e => hh ⟨hlen, by rw [hhead]; exact e⟩
      obtain ⟨i1, i2⟩ := ih m hm hm0 (by
        rw [List.all_eq_true] at hd ⊢
        exact fun x hx => hd x (by simp [hx])) (fun e => hh2 e.2)
      have i3 := i2 hh2
      have hq : (10 * dval m + (c.toNat - 48)) / 10 = dval m := by omega
      have hr : (10 * dval m + (c.toNat - 48)) % 10 = c.toNat - 48 := by omega
      refine ⟨?_, fun _ => by omega⟩
      rw [Lib.decDigits, dif_neg (by omega), hq, hr, i1, hcc]

theorem numT_dec {l : List UInt8} {n : Nat} (h : numT l = some n) : Lib.decDigits n = l := by
  unfold numT at h
  split at h
  · cases h
  · rename_i hc
    injection h with h
    subst h
    have h1 : l ≠ [] := fun e => hc (Or.inl e)
    have h2 : ¬ (1 < l.length ∧ l.head? = some 48) := fun e => hc (Or.inr (Or.inr (Or.inl e)))
    have h3 : l.all isDig = true := by
      cases h : l.all isDig with
      | true => rfl
      | false => exact absurd (Or.inr (Or.inr (Or.inr h))) hc
    exact (dval_dec _ l rfl h1 h3 h2).1

/-- The amount of a text. -/
def readP (s : List UInt8) : Option (Nat × Nat) :=
  match s.dropWhile (· != 47) with
  | [] => none
  | _ :: r => pairOf (numT (s.takeWhile (· != 47))) (numT r)
/-- An amount's text. -/
def showP (x y : Nat) : List UInt8 := Lib.decDigits x ++ 47 :: Lib.decDigits y

theorem readP_none {s : List UInt8} (h : ∀ c ∈ s, c ≠ 47) : readP s = none := by
  have h' : s.dropWhile (· != 47) = [] := by
    have := List.dropWhile_append_of_pos (p := fun c : UInt8 => c != 47) (l₁ := s) (l₂ := []) (fun c hc => by simpa using h c hc)
    simpa using this
  unfold readP
  rw [h']
theorem readP_split {a r : List UInt8} (h : ∀ c ∈ a, c ≠ 47) : readP (a ++ 47 :: r) = pairOf (numT a) (numT r) := by
  have h' : ∀ c ∈ a, (c != 47) = true := fun c hc => by simpa using h c hc
  unfold readP
  rw [List.dropWhile_append_of_pos h', List.takeWhile_append_of_pos h']
  simp
theorem numT_long {a : List UInt8} (h : 13 < a.length) : numT a = none := by
  unfold numT
  rw [if_pos (Or.inr (Or.inl h))]
theorem pairOf_some {a b : Option Nat} {x y : Nat} (h : pairOf a b = some (x, y)) : a = some x ∧ b = some y ∧ x ≤ mostN ∧ y ≤ mostN := by
  unfold pairOf at h
  split at h
  · split at h
    · rename_i hc
      injection h with h
      injection h with h1 h2
      subst h1; subst h2
      exact ⟨rfl, rfl, hc.1, hc.2⟩
    · cases h
  · cases h
theorem readP_show {s : List UInt8} {x y : Nat} (h : readP s = some (x, y)) : showP x y = s ∧ x ≤ mostN ∧ y ≤ mostN := by
  unfold readP at h
  split at h
  · cases h
  · rename_i c r hd
    obtain ⟨h1, h2, h3, h4⟩ := pairOf_some h
    refine ⟨?_, h3, h4⟩
    have hc : c = 47 := by
      have := List.head?_dropWhile_not (p := fun c : UInt8 => c != 47) s
      rw [hd] at this
      simpa using this
    unfold showP
    rw [numT_dec h1, numT_dec h2]
    have := List.takeWhile_append_dropWhile (p := fun c : UInt8 => c != 47) (l := s)
    rw [hd, hc] at this
    exact this

end Go.Proofs.YtebgnhkcngmgeaaDoor.pk
