/-
  Plain mathematics: a text of an amount, cut at the sign between the parts, and each part read as a whole number.
-/
import Derived.Test.YtebgnhkcngmgeaaDoorAmt
import Derived.Lib.AtoiTie
import Derived.Lib.Bytealg
namespace Go.Proofs.YtebgnhkcngmgeaaDoor.pk
open Go Ieee
set_option maxRecDepth 100000

/-- Ahead of the first sign between the parts, and behind it (nothing where there is none). -/
def cutA (s : List UInt8) : List UInt8 := s.takeWhile (· != 47)
def cutB (s : List UInt8) : List UInt8 := (s.dropWhile (· != 47)).drop 1

theorem isDig_iff {c : UInt8} : isDig c = true ↔ 48 ≤ c.toNat ∧ c.toNat ≤ 57 := by
  unfold isDig
  rw [Bool.and_eq_true, decide_eq_true_iff, decide_eq_true_iff]

theorem decFrom_all : ∀ (l : List UInt8) (acc : Nat), l.all isDig = true → Lib.decFrom acc l = some (l.foldl (fun n c => 10 * n + (c.toNat - 48)) acc)
  | [], _, _ => rfl
  | c :: r, acc, h => by
    rw [List.all_cons, Bool.and_eq_true] at h
    unfold Lib.decFrom Lib.digitVal
    rw [if_pos (isDig_iff.1 h.1)]
    show Lib.decFrom (acc * 10 + (c.toNat - 48)) r = _
    rw [decFrom_all r _ h.2, List.foldl_cons, Nat.mul_comm acc 10]

theorem atoi_num {l : List UInt8} {n : Nat} (h : numT l = some n) (hn : n ≤ mostN) : Lib.atoiAll l = Lib.NumEnd.ofOption (some (n : Int)) := by
  unfold numT at h
  split at h
  · cases h
  · rename_i hc
    injection h with h
    have h1 : l ≠ [] := fun e => hc (Or.inl e)
    have h2 : l.length ≤ 13 := by
      rcases Nat.lt_or_ge 13 l.length with h | h
      · exact absurd (Or.inr (Or.inl h)) hc
      · exact h
    have h3 : l.all isDig = true := by
      cases h : l.all isDig with
      | true => rfl
      | false => exact absurd (Or.inr (Or.inr (Or.inr h))) hc
    rw [Lib.atoiAll_short l (by omega)]
    cases l with
    | nil => exact absurd rfl h1
    | cons c r =>
      have hd := h3
      rw [List.all_cons, Bool.and_eq_true] at hd
      have hb := isDig_iff.1 hd.1
      have e1 : (c == 45) = false := by
        rw [beq_eq_false_iff_ne]; intro e; rw [e] at hb; exact absurd hb.1 (by decide)
      have e2 : (c == 43) = false := by
        rw [beq_eq_false_iff_ne]; intro e; rw [e] at hb; exact absurd hb.1 (by decide)
      unfold Lib.atoi
      simp only [e1, e2, Bool.false_eq_true, if_false]
      unfold Lib.decNat
      rw [show (c :: r).isEmpty = false from rfl]
      simp only [Bool.false_eq_true, if_false]
      rw [decFrom_all _ _ h3]
      show Lib.NumEnd.ofOption (some ((dval (c :: r) : Nat) : Int)) = _
      rw [h]

theorem dec_num : ∀ (n u : Nat), u ≤ n → (Lib.decDigits u).all isDig = true ∧ dval (Lib.decDigits u) = u ∧ Lib.decDigits u ≠ [] ∧ (1 ≤ u → (Lib.decDigits u).head? ≠ some 48) := by
  intro n
  induction n with
  | zero =>
    intro u hu
    obtain rfl : u = 0 := by omega
    rw [Lib.decDigits_one (by omega)]
    exact ⟨by decide, by decide, by decide, fun h => absurd h (by omega)⟩
  | succ n ih =>
    intro u hu
    by_cases h : u < 10
    · rw [Lib.decDigits_one h]
      have e : (UInt8.ofNat (48 + u)).toNat = 48 + u := by rw [UInt8.toNat_ofNat']; omega
      refine ⟨?_, ?_, by simp, fun h1 => ?_⟩
      · rw [List.all_cons, List.all_nil, Bool.and_true, isDig_iff, e]; omega
      · unfold dval
        simp only [List.foldl_cons, List.foldl_nil, e]
        omega
      · intro hh
        simp only [List.head?_cons, Option.some.injEq] at hh
        have h2 : (UInt8.ofNat (48 + u)).toNat = 48 := by rw [hh]; rfl
        omega
    · obtain ⟨i1, i2, i3, i4⟩ := ih (u / 10) (by omega)
      have e : (UInt8.ofNat (48 + u % 10)).toNat = 48 + u % 10 := by rw [UInt8.toNat_ofNat']; omega
      have hd : Lib.decDigits u = Lib.decDigits (u / 10) ++ [UInt8.ofNat (48 + u % 10)] := by
        rw [Lib.decDigits, dif_neg h]
      rw [hd]
      refine ⟨?_, ?_, by simp, fun _ => ?_⟩
      · rw [List.all_append, i1, Bool.true_and, List.all_cons, List.all_nil, Bool.and_true, isDig_iff, e]; omega
      · rw [dval_snoc, i2, e]; omega
      · rw [List.head?_append, ]
        cases hq : Lib.decDigits (u / 10) with
        | nil => exact absurd hq i3
        | cons c r =>
          have := i4 (by omega)
          rw [hq] at this
          simpa using this

theorem num_dec {n : Nat} (h : n ≤ mostN) : numT (Lib.decDigits n) = some n := by
  obtain ⟨h1, h2, h3, h4⟩ := dec_num n n (Nat.le_refl _)
  have hl : (Lib.decDigits n).length ≤ 13 := by
    rw [Lib.decDigits_length]
    rcases Nat.lt_or_ge 13 (Lib.nDigits n) with h5 | h5
    · by_cases h0 : n < 10
      · rw [Lib.nDigits_small h0]; omega
      · exfalso
        have h6 : ∀ k u, Lib.nDigits u = k + 1 → u ≠ 0 → 10 ^ k ≤ u := by
          intro k
          induction k with
          | zero => intro u _ hu; simp; omega
          | succ k ih =>
            intro u hk hu
            have hb : ¬ u < 10 := fun hh => by rw [Lib.nDigits_small hh] at hk; omega
            rw [Lib.nDigits_big hb] at hk
            have := ih (u / 10) (by omega) (by omega)
            rw [Nat.pow_succ]
            omega
        have h7 := h6 (Lib.nDigits n - 1) n (by omega) (by omega)
        have h8 : 10 ^ 13 ≤ 10 ^ (Lib.nDigits n - 1) := Nat.pow_le_pow_right (by omega) (by omega)
        have h9 : (10 : Nat) ^ 13 = 10000000000000 := by decide
        unfold mostN at h
        omega
    · exact h5
  unfold numT
  rw [if_neg, h2]
  rintro (h5 | h5 | h5 | h5)
  · exact h3 h5
  · omega
  · by_cases h0 : 1 ≤ n
    · exact h4 h0 h5.2
    · obtain rfl : n = 0 := by omega
      rw [Lib.decDigits_one (by omega)] at h5
      exact absurd h5.1 (by simp)
  · rw [h1] at h5; cases h5

theorem dig_no {l : List UInt8} (h : l.all isDig = true) : ∀ c ∈ l, c ≠ 47 := fun c hc e => by
  have := isDig_iff.1 (List.all_eq_true.1 h c hc)
  rw [e] at this
  exact absurd this.1 (by decide)
theorem read_showP {x y : Nat} (hx : x ≤ mostN) (hy : y ≤ mostN) : readP (showP x y) = some (x, y) := by
  unfold showP
  rw [readP_split (dig_no (dec_num x x (Nat.le_refl _)).1), num_dec hx, num_dec hy]
  exact if_pos ⟨hx, hy⟩

theorem drop_has : ∀ (s : List UInt8), (47 : UInt8) ∈ s → s.dropWhile (· != 47) ≠ []
  | [], h => by cases h
  | c :: r, h => by
    by_cases hc : c = 47
    · subst hc
      rw [List.dropWhile_cons_of_neg (by decide)]
      simp
    · rw [List.dropWhile_cons_of_pos (by simpa using hc)]
      rcases List.mem_cons.1 h with e | h
      · exact absurd e.symm hc
      · exact drop_has r h
theorem readP_cut (s : List UInt8) : readP s = if 47 ∈ s then pairOf (numT (cutA s)) (numT (cutB s)) else none := by
  unfold cutA cutB
  by_cases h : 47 ∈ s
  · rw [if_pos h]
    unfold readP
    cases hd : s.dropWhile (· != 47) with
    | nil =>
      exact absurd hd (drop_has s h)
    | cons c r => rfl
  · rw [if_neg h]
    exact readP_none fun c hc e => h (e ▸ hc)
/-- What a text's amount says of its parts as numbers. -/
theorem readP_parts {s : List UInt8} {x y : Nat} (h : readP s = some (x, y)) : Lib.atoiAll (cutA s) = Lib.NumEnd.ofOption (some (x : Int)) ∧ Lib.atoiAll (cutB s) = Lib.NumEnd.ofOption (some (y : Int)) ∧ x ≤ mostN ∧ y ≤ mostN := by
  rw [readP_cut] at h
  split at h
  · obtain ⟨h1, h2, h3, h4⟩ := pairOf_some h
    exact ⟨atoi_num h1 h3, atoi_num h2 h4, h3, h4⟩
  · cases h
theorem readP_of_show {s : List UInt8} {x y : Nat} (hx : x ≤ mostN) (hy : y ≤ mostN) (h : showP x y = s) : readP s = some (x, y) := h ▸ read_showP hx hy
/-- A text whose parts are numbers of an amount, but that is shown otherwise, is none. -/
theorem readP_other {s : List UInt8} {x y : Nat} (ha : Lib.atoiAll (cutA s) = Lib.NumEnd.ofOption (some (x : Int))) (hb : Lib.atoiAll (cutB s) = Lib.NumEnd.ofOption (some (y : Int))) (h : showP x y ≠ s) : readP s = none := by
  cases hr : readP s with
  | none => rfl
  | some p =>
    obtain ⟨a, b⟩ := p
    obtain ⟨h1, h2, h3, h4⟩ := readP_parts hr
    rw [ha] at h1
    rw [hb] at h2
    unfold Lib.NumEnd.ofOption at h1 h2
    injection h1 with h1
    injection h2 with h2
    have e1 : x = a := by omega
    have e2 : y = b := by omega
    subst e1; subst e2
    exact absurd (readP_show hr).1 h
theorem readP_noA {s : List UInt8} (h : ∀ x : Nat, x ≤ mostN → Lib.atoiAll (cutA s) ≠ Lib.NumEnd.ofOption (some (x : Int))) : readP s = none := by
  cases hr : readP s with
  | none => rfl
  | some p => exact absurd (readP_parts (x := p.1) (y := p.2) hr).1 (h _ (readP_parts (x := p.1) (y := p.2) hr).2.2.1)
theorem readP_noB {s : List UInt8} (h : ∀ x : Nat, x ≤ mostN → Lib.atoiAll (cutB s) ≠ Lib.NumEnd.ofOption (some (x : Int))) : readP s = none := by
  cases hr : readP s with
  | none => rfl
  | some p => exact absurd (readP_parts (x := p.1) (y := p.2) hr).2.1 (h _ (readP_parts (x := p.1) (y := p.2) hr).2.2.2)

/-- Where the sign between the parts stands. -/
theorem index_cut (s : List UInt8) : (Lib.indexByte s 47 = -1 ∧ cutA s = s ∧ cutB s = []) ∨ ∃ k : Nat, Lib.indexByte s 47 = (k : Int) ∧ k < s.length ∧ cutA s = s.take k ∧ cutB s = s.drop (k + 1) := by
  unfold cutA cutB
  induction s with
  | nil => exact Or.inl ⟨rfl, rfl, rfl⟩
  | cons c r ih =>
    unfold Lib.indexByte
    by_cases hc : c = 47
    · subst hc
      exact Or.inr ⟨0, rfl, by simp, by simp, by simp⟩
    · have e1 : (c == 47) = false := beq_eq_false_iff_ne.2 hc
      have e2 : (c != 47) = true := by unfold bne; rw [e1]; rfl
      rw [e1]
      simp only [Bool.false_eq_true, if_false]
      rw [show (c :: r).takeWhile (fun x => x != 47) = c :: r.takeWhile (fun x => x != 47) from List.takeWhile_cons_of_pos (p := fun x => x != 47) e2, show (c :: r).dropWhile (fun x => x != 47) = r.dropWhile (fun x => x != 47) from List.dropWhile_cons_of_pos (p := fun x => x != 47) e2]
      rcases ih with ⟨h1, h2, h3⟩ | ⟨k, h1, h2, h3, h4⟩
      · exact Or.inl ⟨by rw [h1]; rfl, by rw [h2], h3⟩
      · refine Or.inr ⟨k + 1, ?_, by simp; omega, by rw [h3]; rfl, by rw [h4]; rfl⟩
        rw [h1]
        have : ((k : Int) == -1) = false := by rw [beq_eq_false_iff_ne]; omega
        rw [this]
        simp only [Bool.false_eq_true, if_false]
        omega

end Go.Proofs.YtebgnhkcngmgeaaDoor.pk
