/-
  Plain mathematics of reading records, step by step.
-/
import Derived.Test.YthcikgbnenfjpaaDoorPureT
namespace Go.Proofs.YthcikgbnenfjpaaDoor.pk
open Go

/-- A number of bytes, the highest first. -/
def numL (l : List UInt8) : Nat := l.foldl (fun n c => n * 256 + c.toNat) 0
theorem numL_snoc (l : List UInt8) (c : UInt8) : numL (l ++ [c]) = numL l * 256 + c.toNat := by simp [numL]
theorem numL_four (a b c e : UInt8) : numL [a, b, c, e] = num4 a b c e := by
  simp only [numL, List.foldl_cons, List.foldl_nil, num4]
  omega

theorem readT_short {A : List UInt8} (h : A.length < 5) : readT A = some ([], 0) := parse_short _ A h
theorem five_of {A : List UInt8} (h : 5 ≤ A.length) : ∃ m a b c e r, A = m :: a :: b :: c :: e :: r := by
  rcases A with _ | ⟨m, _ | ⟨a, _ | ⟨b, _ | ⟨c, _ | ⟨e, r⟩⟩⟩⟩⟩ <;> first | (simp at h; done) | exact ⟨_, _, _, _, _, _, rfl⟩
theorem readT_zero {A : List UInt8} (h : 5 ≤ A.length) (h0 : A.getD 0 0 = 0) : readT A = some ([], 0) := by
  obtain ⟨m, a, b, c, e, r, rfl⟩ := five_of h
  have hm : m = 0 := h0
  unfold readT
  show parse (r.length + 4 + 1) _ = _
  unfold parse
  rw [if_pos hm]
theorem head_num {m a b c e : UInt8} {r : List UInt8} : numL (((m :: a :: b :: c :: e :: r).drop 1).take 4) = num4 a b c e := by
  show numL [a, b, c, e] = _
  exact numL_four a b c e
theorem readT_bad {A : List UInt8} (h : 5 ≤ A.length) (h0 : A.getD 0 0 ≠ 0) (h1 : ¬ (A.getD 0 0 = 1 ∧ numL ((A.drop 1).take 4) + 5 ≤ A.length)) : readT A = none := by
  obtain ⟨m, a, b, c, e, r, rfl⟩ := five_of h
  have hm : ¬ m = 0 := h0
  rw [head_num] at h1
  generalize hn : num4 a b c e = n at h1
  have h2 : ¬ (m = 1 ∧ num4 a b c e ≤ r.length) := fun hx => h1 ⟨hx.1, by rw [← hn]; have := hx.2; simp only [List.length_cons]; omega⟩
  unfold readT
  show parse (r.length + 4 + 1) _ = _
  unfold parse
  rw [if_neg hm, if_neg h2]
theorem readT_rec {A : List UInt8} {n : Nat} (h : 5 ≤ A.length) (h0 : A.getD 0 0 = 1) (hn : numL ((A.drop 1).take 4) = n) (h1 : n + 5 ≤ A.length) :
    readT A = (readT (A.drop (5 + n))).map fun x => ((A.drop 5).take n :: x.1, 5 + n + x.2) := by
  obtain ⟨m, a, b, c, e, r, rfl⟩ := five_of h
  have hm : m = 1 := h0
  rw [head_num] at hn
  simp only [List.length_cons] at h1
  have e1 : (m :: a :: b :: c :: e :: r).drop (5 + n) = r.drop n := by
    rw [Nat.add_comm]; rfl
  have e2 : (m :: a :: b :: c :: e :: r).drop 5 = r := rfl
  rw [e1, e2]
  unfold readT
  show parse (r.length + 4 + 1) _ = _
  rw [parse]
  rw [if_neg (by rw [hm]; decide), hn, if_pos ⟨hm, by omega⟩]
  rw [parse_fuel (r.length + 4) (r.drop n).length (r.drop n) (by rw [List.length_drop]; omega) (Nat.le_refl _)]

/-- What has been read so far, and what is still to be read. -/
def Sofar (A : List UInt8) (l : List (List UInt8)) (u : Nat) : Prop := u ≤ A.length ∧ readT A = (readT (A.drop u)).map fun x => (l ++ x.1, u + x.2)
theorem sofar_start (A : List UInt8) : Sofar A [] 0 := ⟨Nat.zero_le _, by
  rw [List.drop_zero]
  cases readT A with
  | none => rfl
  | some x => simp⟩
theorem drop_head (A : List UInt8) (u : Nat) : (A.drop u).getD 0 0 = A.getD u 0 := by simp [List.getD]
theorem sofar_short {A : List UInt8} {l : List (List UInt8)} {u : Nat} (h : Sofar A l u) (h5 : A.length - u < 5) : readT A = some (l, u) := by
  rw [h.2, readT_short (by rw [List.length_drop]; exact h5)]
  simp
theorem sofar_zero {A : List UInt8} {l : List (List UInt8)} {u : Nat} (h : Sofar A l u) (h5 : 5 ≤ A.length - u) (h0 : A.getD u 0 = 0) : readT A = some (l, u) := by
  rw [h.2, readT_zero (by rw [List.length_drop]; exact h5) (by rw [drop_head]; exact h0)]
  simp
theorem sofar_bad {A : List UInt8} {l : List (List UInt8)} {u : Nat} (h : Sofar A l u) (h5 : 5 ≤ A.length - u) (h0 : A.getD u 0 ≠ 0) (h1 : ¬ (A.getD u 0 = 1 ∧ numL ((A.drop (u + 1)).take 4) + 5 ≤ A.length - u)) : readT A = none := by
  rw [h.2, readT_bad (by rw [List.length_drop]; exact h5) (by rw [drop_head]; exact h0) (by rw [drop_head, List.drop_drop, List.length_drop]; exact h1)]
  rfl
theorem sofar_rec {A : List UInt8} {l : List (List UInt8)} {u n : Nat} (h : Sofar A l u) (h5 : 5 ≤ A.length - u) (h0 : A.getD u 0 = 1) (hn : numL ((A.drop (u + 1)).take 4) = n) (h1 : n + 5 ≤ A.length - u) :
    Sofar A (l ++ [(A.drop (u + 5)).take n]) (u + (5 + n)) := by
  refine ⟨by omega, ?_⟩
  rw [h.2, readT_rec (n := n) (by rw [List.length_drop]; exact h5) (by rw [drop_head]; exact h0) (by rw [List.drop_drop]; exact hn) (by rw [List.length_drop]; exact h1)]
  rw [List.drop_drop, List.drop_drop]
  cases readT (A.drop (u + (5 + n))) with
  | none => rfl
  | some x => simp [Nat.add_assoc]

end Go.Proofs.YthcikgbnenfjpaaDoor.pk
