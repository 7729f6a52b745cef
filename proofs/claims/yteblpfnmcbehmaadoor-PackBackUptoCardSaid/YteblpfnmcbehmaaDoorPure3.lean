/-
  Plain mathematics: a begin of what is laid, but not all of it, is taken off as so many things only up to its end.
-/
import Derived.Test.YteblpfnmcbehmaaDoorPure
namespace Go.Proofs.YteblpfnmcbehmaaDoor.pk
open Go

theorem rdUint_cut (most u : Nat) (hu : u < 18446744073709551616) (m : Nat) (hm : m < (lUint u).length) : rdUint most ((lUint u).take m) = (12, 0, []) := by
  cases m with
  | zero => rfl
  | succ m =>
    unfold lUint at hm ⊢
    simp only [List.length_cons, List.length_append, List.length_nil] at hm
    unfold rdUint
    rw [List.take_succ_cons, hd_cons, if_pos rfl, scan_dec_cut 59 (by decide) u hu m (by omega)]

theorem head_take45 (l : List UInt8) (m : Nat) (h : l.head? ≠ some 45) : (l.take m).head? ≠ some 45 := by
  cases l with
  | nil => simp
  | cons d r =>
    cases m with
    | zero => simp
    | succ m => simpa using h

theorem rdInt_cut (k : Int) (h0 : -9223372036854775808 ≤ k) (h1 : k ≤ 9223372036854775807) (m : Nat) (hm : m < (lInt k).length) : rdInt ((lInt k).take m) = (12, 0, []) := by
  cases m with
  | zero => rfl
  | succ m =>
    unfold lInt at hm ⊢
    rw [List.take_succ_cons, rdInt_cons, if_pos rfl]
    by_cases h : k < 0
    · rw [itoa_neg k h] at hm ⊢
      simp only [List.length_cons, List.length_append, List.length_nil] at hm
      cases m with
      | zero => rfl
      | succ j =>
        have e : ((45 :: Lib.decDigits k.natAbs) ++ [59]).take (j + 1) = 45 :: ((Lib.decDigits k.natAbs ++ [59]).take j) := rfl
        rw [e]
        simp only [List.head?_cons, if_pos, List.tail_cons]
        rw [scan_dec_cut 59 (by decide) _ (by omega) j (by omega)]
    · rw [itoa_pos' k h] at hm ⊢
      simp only [List.length_cons, List.length_append, List.length_nil] at hm
      rw [if_neg (head_take45 _ m (digits_head45 _ _)), scan_dec_cut 59 (by decide) _ (by omega) m (by omega)]

theorem hd_cut (letter : UInt8) (n : Nat) (hn : n < 18446744073709551616) (m : Nat) (hm : m < (lHead letter n).length) : hd letter 58 ((lHead letter n).take m) = (12, 0, []) := by
  cases m with
  | zero => rfl
  | succ m =>
    unfold lHead at hm ⊢
    simp only [List.length_cons, List.length_append, List.length_nil] at hm
    rw [List.take_succ_cons, hd_cons, if_pos rfl, scan_dec_cut 58 (by decide) n hn m (by omega)]

theorem rdBytes_cut (letter : UInt8) (t : List UInt8) (ht : t.length < 18446744073709551616) (m : Nat) (hm : m < (lHead letter t.length ++ t).length) : rdBytes letter t.length ((lHead letter t.length ++ t).take m) = (12, [], []) := by
  unfold rdBytes
  rw [if_neg (by omega)]
  by_cases h : m < (lHead letter t.length).length
  · rw [List.take_append_of_le_length (Nat.le_of_lt h), hd_cut letter _ ht m h]
  · rw [List.take_append, List.take_of_length_le (by omega), hd_lHead letter _ ht]
    rw [List.length_append] at hm
    simp only
    rw [if_neg (by omega), if_pos (by rw [List.length_take]; omega)]

/-- A begin of a thing that is laid: the end comes first. -/
theorem asR_cut (kd n : Int) (t : List UInt8) (h0 : -9223372036854775808 ≤ n) (h1 : n ≤ 9223372036854775807) (ht : t.length < 18446744073709551616) (m : Nat) (hm : m < (layB kd n t).length) :
    asR (five kd) t.length ((layB kd n t).take m, 0) = ((layB kd n t).take m, 12) := by
  unfold asR
  unfold layB at hm ⊢
  by_cases c0 : five kd = 0
  · rw [if_pos c0] at hm ⊢
    rw [if_pos c0]
    simp only [rUint]
    rw [rdUint_cut _ _ (by omega) m hm]
    rfl
  · rw [if_neg c0] at hm ⊢
    rw [if_neg c0]
    by_cases c1 : five kd = 1
    · rw [if_pos c1] at hm ⊢
      rw [if_pos c1]
      simp only [rInt]
      rw [rdInt_cut n h0 h1 m hm]
      rfl
    · rw [if_neg c1] at hm ⊢
      rw [if_neg c1]
      by_cases c2 : five kd = 2
      · rw [if_pos c2] at hm ⊢
        rw [if_pos c2]
        have hm0 : m = 0 := by simpa [lBool] using hm
        subst hm0
        rfl
      · rw [if_neg c2] at hm ⊢
        rw [if_neg c2]
        by_cases c3 : five kd = 3
        · rw [if_pos c3] at hm ⊢
          rw [if_pos c3]
          unfold lText at hm ⊢
          simp only [rBytes]
          rw [rdBytes_cut 116 t ht m hm]
          rfl
        · rw [if_neg c3] at hm ⊢
          rw [if_neg c3]
          unfold lBytes at hm ⊢
          simp only [rBytes]
          rw [rdBytes_cut 98 t ht m hm]
          rfl

/-- A thing: its kind, its number, its bytes. -/
structure Th where
  kd : Int
  n : Int
  t : List UInt8
/-- A thing's bounds. -/
def Th.ok (x : Th) : Prop := -9223372036854775808 ≤ x.n ∧ x.n ≤ 9223372036854775807 ∧ x.t.length < 18446744073709551616
/-- Things laid, one behind the other. -/
def flat (l : List Th) : List UInt8 := l.flatMap fun x => layB x.kd x.n x.t
/-- Things taken off, one behind the other. -/
def runR (l : List Th) (s : List UInt8 × Nat) : List UInt8 × Nat := l.foldl (fun s x => asR (five x.kd) x.t.length s) s

theorem flat_cons (x : Th) (l : List Th) : flat (x :: l) = layB x.kd x.n x.t ++ flat l := by simp [flat]
theorem flat_snoc (l : List Th) (x : Th) : flat (l ++ [x]) = flat l ++ layB x.kd x.n x.t := by simp [flat]
theorem runR_cons (x : Th) (l : List Th) (s : List UInt8 × Nat) : runR (x :: l) s = runR l (asR (five x.kd) x.t.length s) := rfl
theorem runR_snoc (l : List Th) (x : Th) (s : List UInt8 × Nat) : runR (l ++ [x]) s = asR (five x.kd) x.t.length (runR l s) := by simp [runR]
theorem layB_pos (kd n : Int) (t : List UInt8) : 0 < (layB kd n t).length := by
  obtain ⟨c, r, h, _⟩ := layB_head kd n t
  rw [h]; simp
theorem flat_nil {l : List Th} (h : flat l = []) : l = [] := by
  cases l with
  | nil => rfl
  | cons x l =>
    rw [flat_cons] at h
    have := layB_pos x.kd x.n x.t
    rw [List.append_eq_nil_iff] at h
    rw [h.1] at this
    simp at this

theorem runR_stop (l : List Th) (bs : List UInt8) (e : Nat) (he : e ≠ 0) : runR l (bs, e) = (bs, e) := by
  induction l with
  | nil => rfl
  | cons x l ih => rw [runR_cons, asR_stop _ _ _ _ he, ih]
theorem runR_right (l : List Th) (hl : ∀ x ∈ l, x.ok) (r : List UInt8) : runR l (flat l ++ r, 0) = (r, 0) := by
  induction l with
  | nil => simp [runR, flat]
  | cons x l ih =>
    have hx := hl x (by simp)
    rw [runR_cons, flat_cons, List.append_assoc, asR_right _ _ _ _ hx.1 hx.2.1 hx.2.2]
    exact ih fun y hy => hl y (by simp [hy])
/-- A begin, but not all: not so many things. -/
theorem runR_cut (l : List Th) : (∀ x ∈ l, x.ok) → ∀ m, m < (flat l).length → (runR l ((flat l).take m, 0)).2 = 12 := by
  induction l with
  | nil => intro _ m hm; simp [flat] at hm
  | cons x l ih =>
    intro hl m hm
    have hx := hl x (by simp)
    rw [flat_cons] at hm ⊢
    rw [runR_cons]
    by_cases h : m < (layB x.kd x.n x.t).length
    · rw [List.take_append_of_le_length (Nat.le_of_lt h), asR_cut _ _ _ hx.1 hx.2.1 hx.2.2 m h, runR_stop _ _ _ (by decide)]
    · rw [List.take_append, List.take_of_length_le (by omega), asR_right _ _ _ _ hx.1 hx.2.1 hx.2.2]
      rw [List.length_append] at hm
      exact ih (fun y hy => hl y (by simp [hy])) _ (by omega)

theorem rdUint_left (most : Nat) (l : List UInt8) (h : (rdUint most l).1 = 0) : (rdUint most l).2.2.length ≤ l.length := by
  rcases hr : rdUint most l with ⟨k, m, rest⟩
  rw [hr] at h
  simp only at h
  subst h
  exact hd_len (rdUint_ok hr).1
theorem rdInt_left (l : List UInt8) (h : (rdInt l).1 = 0) : (rdInt l).2.2.length ≤ l.length := by
  cases l with
  | nil => simp [rdInt] at h
  | cons c r =>
    rw [rdInt_cons] at h ⊢
    by_cases hc : c = 105
    · rw [if_pos hc] at h ⊢
      rcases hs : scan 59 [] (if r.head? = some 45 then r.tail else r) with ⟨k, n, rest⟩
      have hl := scan_len _ _ hs
      have h2 : (if r.head? = some 45 then r.tail else r).length ≤ r.length := by
        split
        · simp
        · exact Nat.le_refl _
      rw [hs] at h
      cases k with
      | zero =>
        simp only at h ⊢
        split
        · simp only [List.length_cons]; omega
        · simp
      | succ k => simp at h
    · rw [if_neg hc] at h; simp at h
theorem rdBool_left (l : List UInt8) (h : (rdBool l).1 = 0) : (rdBool l).2.2.length ≤ l.length := by
  cases l with
  | nil => simp [rdBool] at h
  | cons c r =>
    rw [rdBool_cons] at h ⊢
    split
    · simp
    · split
      · simp
      · simp
theorem rdBytes_left (letter : UInt8) (most : Int) (l : List UInt8) (h : (rdBytes letter most l).1 = 0) : (rdBytes letter most l).2.2.length ≤ l.length := by
  rcases hr : rdBytes letter most l with ⟨k, m, rest⟩
  rw [hr] at h
  simp only at h
  subst h
  obtain ⟨_, n, r, hh, _, _, _, rfl⟩ := rdBytes_ok hr
  have := hd_len hh
  simp only [List.length_drop]
  omega
theorem asR_left (k : Nat) (len : Int) (s : List UInt8 × Nat) : (asR k len s).1.length ≤ s.1.length := by
  obtain ⟨bs, e⟩ := s
  unfold asR rUint rInt rBool rBytes
  by_cases he : e = 0
  · subst he
    simp only [if_pos]
    split
    · split
      · rename_i h; exact rdUint_left _ _ h
      · exact Nat.le_refl _
    · split
      · split
        · rename_i h; exact rdInt_left _ h
        · exact Nat.le_refl _
      · split
        · split
          · rename_i h; exact rdBool_left _ h
          · exact Nat.le_refl _
        · split
          · split
            · rename_i h; exact rdBytes_left _ _ _ h
            · exact Nat.le_refl _
          · split
            · rename_i h; exact rdBytes_left _ _ _ h
            · exact Nat.le_refl _
  · simp only [if_neg he]
    split
    · exact Nat.le_refl _
    · split
      · exact Nat.le_refl _
      · split
        · exact Nat.le_refl _
        · split <;> exact Nat.le_refl _

theorem runR_left (l : List Th) (s : List UInt8 × Nat) : (runR l s).1.length ≤ s.1.length := by
  induction l generalizing s with
  | nil => exact Nat.le_refl _
  | cons x l ih => rw [runR_cons]; exact Nat.le_trans (ih _) (asR_left _ _ _)

theorem flat_len (l : List Th) (hl : ∀ x ∈ l, x.ok) : (flat l).length ≤ 23 * l.length + (l.map fun x => x.t.length).sum := by
  induction l with
  | nil => simp [flat]
  | cons x l ih =>
    have hx := hl x (by simp)
    have h1 := layB_len x.kd x.n x.t hx.1 hx.2.1 hx.2.2
    have h2 := ih fun y hy => hl y (by simp [hy])
    rw [flat_cons, List.length_append, List.length_cons, List.map_cons, List.sum_cons]
    omega

end Go.Proofs.YteblpfnmcbehmaaDoor.pk
