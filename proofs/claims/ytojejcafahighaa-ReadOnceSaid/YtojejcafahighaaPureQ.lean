/-
  Reads that wait, as plain functions.
-/
import Derived.Test.YtojejcafahighaaInts
namespace Go.Proofs.Ytojejcafahighaa.pk
open Go Go.RowKit

structure It where
  term : Int
  round : Int
  index : Int
  token : Int
def It.inI (x : It) : Prop := pk.inI x.term ∧ pk.inI x.round ∧ pk.inI x.index ∧ pk.inI x.token
def numB (z : Int) : Bool := decide (0 ≤ z) && decide (z ≤ 1099511627776)
def itB (x : It) : Bool := numB x.term && numB x.round && numB x.index && numB x.token
def mayQ (lim : Int) (l : List It) : Bool := decide (1 ≤ lim) && decide (lim ≤ 4096) && decide ((l.length : Int) ≤ lim) && l.all itB
theorem mayQ_len {lim : Int} {l : List It} (h : mayQ lim l = true) : (1 ≤ lim ∧ lim ≤ 4096) ∧ (l.length : Int) ≤ lim := by
  unfold mayQ at h
  simp only [Bool.and_eq_true, decide_eq_true_eq] at h
  exact h.1
theorem mayQ_all {lim : Int} {l : List It} (h : mayQ lim l = true) : ∀ x ∈ l, itB x = true := by
  unfold mayQ at h
  simp only [Bool.and_eq_true] at h
  exact List.all_eq_true.1 h.2
theorem numB_iff {z : Int} : numB z = true ↔ 0 ≤ z ∧ z ≤ 1099511627776 := by simp [numB]
/-- With one more. -/
def addQ (lim : Int) (l : List It) (x : It) : Int × List It × Nat :=
  if (mayQ lim l && itB x) = false then (0, [], 1) else if (l.length : Int) = lim then (0, [], 32) else (lim, l ++ [x], 0)
/-- Which are taken out. -/
def hitQ (term heard applied : Int) (other : Bool) (x : It) : Bool :=
  (other && decide (x.term ≠ term)) || (!other && (decide (x.term = term) && decide (x.round ≤ heard) && decide (x.index ≤ applied)))
def takeQ (lim : Int) (l : List It) (p : It → Bool) : Int × List It × List Int :=
  if mayQ lim l = false then (0, [], []) else (lim, l.filter (fun x => !p x), (l.filter p).map It.token)
/-- The rounds of a term. -/
def IsRounds (lim : Int) (l : List It) (term : Int) (r : List Int) : Prop :=
  (mayQ lim l = false → r = []) ∧ (mayQ lim l = true → r.Pairwise (· < ·) ∧ ∀ z, z ∈ r ↔ ∃ x ∈ l, x.term = term ∧ x.round = z)

theorem sorted_same : ∀ {a b : List Int}, a.Pairwise (· < ·) → b.Pairwise (· < ·) → (∀ z, z ∈ a ↔ z ∈ b) → a = b
  | [], [], _, _, _ => rfl
  | [], y :: b, _, _, h => absurd ((h y).2 List.mem_cons_self) (by simp)
  | x :: a, [], _, _, h => absurd ((h x).1 List.mem_cons_self) (by simp)
  | x :: a, y :: b, ha, hb, h => by
    obtain ⟨a1, a2⟩ := List.pairwise_cons.1 ha
    obtain ⟨b1, b2⟩ := List.pairwise_cons.1 hb
    have hxy : x = y := by
      rcases List.mem_cons.1 ((h x).1 List.mem_cons_self) with e | e
      · exact e
      · rcases List.mem_cons.1 ((h y).2 List.mem_cons_self) with e2 | e2
        · exact e2.symm
        · have := b1 x e; have := a1 y e2; omega
    subst hxy
    rw [sorted_same a2 b2 fun z => ?_]
    constructor
    · intro hz
      rcases List.mem_cons.1 ((h z).1 (List.mem_cons_of_mem _ hz)) with e | e
      · have := a1 z hz; omega
      · exact e
    · intro hz
      rcases List.mem_cons.1 ((h z).2 (List.mem_cons_of_mem _ hz)) with e | e
      · have := b1 z hz; omega
      · exact e
theorem rounds_same {lim : Int} {l : List It} {term : Int} {a b : List Int} (h : IsRounds lim l term a) (h' : IsRounds lim l term b) : a = b := by
  cases hm : mayQ lim l with
  | false => rw [h.1 hm, h'.1 hm]
  | true => exact sorted_same (h.2 hm).1 (h'.2 hm).1 fun z => ((h.2 hm).2 z).trans ((h'.2 hm).2 z).symm

end Go.Proofs.Ytojejcafahighaa.pk
