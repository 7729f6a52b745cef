/-
  Members and majorities, as plain functions.
-/
import Derived.Test.YtgnonfnipifbiaaDoorInts
namespace Go.Proofs.YtgnonfnipifbiaaDoor.pk
open Go Go.RowKit

/-- May members stand at a place? -/
def okC (c : List Int) (j : Nat) : Prop := 1 ≤ c.getD j 0 ∧ c.getD j 0 ≤ 64 ∧ (0 < j → c.getD (j - 1) 0 < c.getD j 0)
def MayC (c : List Int) : Prop := (0 < c.length ∧ c.length < 8) ∧ ∀ j, j < c.length → okC c j
theorem okC_dec (c : List Int) (j : Nat) : Nonempty (Decidable (okC c j)) := ⟨by unfold okC; infer_instance⟩
def okB (c : List Int) (j : Nat) : Bool := decide (1 ≤ c.getD j 0) && decide (c.getD j 0 ≤ 64) && (decide (j = 0) || decide (c.getD (j - 1) 0 < c.getD j 0))
def mayC (c : List Int) : Bool := decide (0 < c.length) && decide (c.length < 8) && (List.range c.length).all (okB c)
theorem okB_iff (c : List Int) (j : Nat) : okB c j = true ↔ okC c j := by
  unfold okB okC
  simp only [Bool.and_eq_true, Bool.or_eq_true, decide_eq_true_eq]
  constructor
  · rintro ⟨⟨h1, h2⟩, h3⟩
    exact ⟨h1, h2, fun h => by rcases h3 with h3 | h3 <;> omega⟩
  · rintro ⟨h1, h2, h3⟩
    exact ⟨⟨h1, h2⟩, (Nat.eq_zero_or_pos j).elim Or.inl fun h => Or.inr (h3 h)⟩
theorem mayC_iff (c : List Int) : mayC c = true ↔ MayC c := by
  unfold mayC MayC
  simp only [Bool.and_eq_true, decide_eq_true_eq, List.all_eq_true, List.mem_range, okB_iff]

theorem getD_mem {c : List Int} {j : Nat} (h : j < c.length) : c.getD j 0 ∈ c := by simp [List.getD, List.getElem?_eq_getElem h]
theorem mem_getD {c : List Int} {n : Int} : n ∈ c ↔ ∃ j, j < c.length ∧ c.getD j 0 = n := by
  constructor
  · intro h
    obtain ⟨j, hj, e⟩ := List.getElem_of_mem h
    exact ⟨j, hj, by simp [List.getD, List.getElem?_eq_getElem hj, e]⟩
  · rintro ⟨j, hj, rfl⟩
    exact getD_mem hj
theorem take_next {α : Type} {c : List α} {k : Nat} (h : k < c.length) : c.take (k + 1) = c.take k ++ [c[k]] := by simp
theorem take_nextI {c : List Int} {k : Nat} (h : k < c.length) : c.take (k + 1) = c.take k ++ [c.getD k 0] := by
  rw [take_next h]; simp [List.getD, List.getElem?_eq_getElem h]

/-- How many of the members are among some. -/
def cntC (c s : List Int) : Nat := (c.filter fun x => decide (x ∈ s)).length
theorem cntC_next {c s : List Int} {k : Nat} (h : k < c.length) : cntC (c.take (k + 1)) s = cntC (c.take k) s + (if c.getD k 0 ∈ s then 1 else 0) := by
  unfold cntC
  rw [take_nextI h, List.filter_append, List.length_append]
  by_cases hm : c.getD k 0 ∈ s
  · rw [if_pos hm]; simp only [List.filter_cons, List.filter_nil, decide_eq_true hm, if_true, List.length_cons, List.length_nil]
  · rw [if_neg hm]; simp only [List.filter_cons, List.filter_nil, decide_eq_false hm]; rfl
theorem cntC_le (c s : List Int) : cntC c s ≤ c.length := List.length_filter_le ..
def quorumC (c s : List Int) : Bool := mayC c && decide (c.length < 2 * cntC c s)
/-- How many of one are not among the others. -/
def diffC (a b : List Int) : Nat := (a.filter fun x => !decide (x ∈ b)).length
theorem diffC_next {a b : List Int} {k : Nat} (h : k < a.length) : diffC (a.take (k + 1)) b = diffC (a.take k) b + (if a.getD k 0 ∈ b then 0 else 1) := by
  unfold diffC
  rw [take_nextI h, List.filter_append, List.length_append]
  by_cases hm : a.getD k 0 ∈ b
  · rw [if_pos hm]; simp only [List.filter_cons, List.filter_nil, decide_eq_true hm]; rfl
  · rw [if_neg hm]; simp only [List.filter_cons, List.filter_nil, decide_eq_false hm]; rfl
def nearC (a b : List Int) : Bool := mayC a && mayC b && decide (diffC a b + diffC b a < 2)
/-- One more, in its place. -/
def insC (who : Int) : List Int → List Int
  | [] => [who]
  | x :: r => if x < who then x :: insC who r else who :: x :: r
def addC (c : List Int) (who : Int) : List Int × Nat :=
  if mayC c = false ∨ who < 1 ∨ 64 < who then ([], 1) else if who ∈ c then ([], 9) else if 6 < c.length then ([], 10) else (insC who c, 0)
def remC (c : List Int) (who : Int) : List Int × Nat :=
  if mayC c = false then ([], 1) else if ¬ who ∈ c then ([], 8) else if c.length < 2 then ([], 1) else (c.filter (fun x => decide (x ≠ who)), 0)
/-- Who has so much at least. -/
def atLeast (l : List (Int × Int)) (n : Int) : List Int := (l.filter fun k => decide (n ≤ k.2)).map (·.1)
theorem atLeast_next {l : List (Int × Int)} {n : Int} {k : Nat} (h : k < l.length) : atLeast (l.take (k + 1)) n = atLeast (l.take k) n ++ (if n ≤ l[k].2 then [l[k].1] else []) := by
  unfold atLeast
  rw [take_next h, List.filter_append, List.map_append]
  by_cases hm : n ≤ l[k].2
  · rw [if_pos hm]; simp [hm]
  · rw [if_neg hm]; simp [hm]
theorem atLeast_len (l : List (Int × Int)) (n : Int) : (atLeast l n).length ≤ l.length := by
  unfold atLeast
  rw [List.length_map]
  exact List.length_filter_le ..
theorem atLeast_in {l : List (Int × Int)} (h : ∀ m ∈ l, inI m.1 ∧ inI m.2) (n : Int) : ∀ z ∈ atLeast l n, inI z := by
  intro z hz
  unfold atLeast at hz
  obtain ⟨m, hm, rfl⟩ := List.mem_map.1 hz
  exact (h m (List.mem_filter.1 hm).1).1
def stepC (c : List Int) (l : List (Int × Int)) (best : Int) (m : Int × Int) : Int := if best < m.2 ∧ quorumC c (atLeast l m.2) = true then m.2 else best
def agreedC (c : List Int) (l : List (Int × Int)) : Int := l.foldl (stepC c l) 0
def agreedK (c : List Int) (l : List (Int × Int)) (k : Nat) : Int := (l.take k).foldl (stepC c l) 0
theorem agreedK_next {c : List Int} {l : List (Int × Int)} {k : Nat} (h : k < l.length) : agreedK c l (k + 1) = stepC c l (agreedK c l k) l[k] := by
  unfold agreedK
  rw [take_next h, List.foldl_append]
  rfl
theorem agreedK_all {c : List Int} {l : List (Int × Int)} {k : Nat} (h : l.length ≤ k) : agreedK c l k = agreedC c l := by
  unfold agreedK agreedC
  rw [List.take_of_length_le h]
theorem agreed_not {c : List Int} {l : List (Int × Int)} (h : mayC c = false) : agreedC c l = 0 := by
  have : ∀ (r : List (Int × Int)), r.foldl (stepC c l) 0 = 0 := by
    intro r
    induction r with
    | nil => rfl
    | cons m r ih =>
      rw [List.foldl_cons]
      have : stepC c l 0 m = 0 := by unfold stepC quorumC; rw [h]; simp
      rw [this]
      exact ih
  exact this l

end Go.Proofs.YtgnonfnipifbiaaDoor.pk
