/-
  A slice of things in memory; what it gives of each.
-/
import Derived.Test.YteblpfnmcbehmaaDoorPure3
import Derived.Test.YteblpfnmcbehmaaDoorLay
namespace Go.Proofs.YteblpfnmcbehmaaDoor.pk
open Go Go.RowKit

/-- A slice value that reads as these things, in blocks below B. -/
def Ths (w : World) (B : Nat) (v : Value) (l : List Th) : Prop :=
  ∃ A c, v = .slice A l.length c ∧ l.length ≤ c ∧ c ≤ 9223372036854775807 ∧ (∀ x ∈ l, x.ok) ∧
    ∀ j (hj : j < l.length), ∃ b off A' c', A = some ⟨b, off, none⟩ ∧ b < B ∧ w.cell? ⟨b, off + j * 3, none⟩ = some (.int .i64 l[j].kd) ∧ w.cell? ⟨b, off + j * 3 + 1, none⟩ = some (.int .i64 l[j].n) ∧
      w.cell? ⟨b, off + j * 3 + 2, none⟩ = some (.slice A' l[j].t.length c') ∧ Sl w B (.slice A' l[j].t.length c') l[j].t

theorem Ths.below {w w' : World} {B : Nat} {v : Value} {l : List Th} (h : Ths w B v l) (hb : Below B w w') : Ths w' B v l := by
  obtain ⟨A, c, rfl, h1, h2, h3, h4⟩ := h
  refine ⟨A, c, rfl, h1, h2, h3, fun j hj => ?_⟩
  obtain ⟨b, off, A', c', rfl, hB, q0, q1, q2, hs⟩ := h4 j hj
  exact ⟨b, off, A', c', rfl, hB, (hb.cell (p := ⟨b, off + j * 3, none⟩) hB).trans q0, (hb.cell (p := ⟨b, off + j * 3 + 1, none⟩) hB).trans q1, (hb.cell (p := ⟨b, off + j * 3 + 2, none⟩) hB).trans q2, hs.below hb⟩

theorem Ths.at_ {w : World} {B n c : Nat} {A : Option Addr} {l : List Th} (h : Ths w B (.slice A n c) l) (j : Nat) (hj : j < l.length) :
    ∃ b off A' c', A = some ⟨b, off, none⟩ ∧ b < B ∧ w.cell? ⟨b, off + j * 3, none⟩ = some (.int .i64 l[j].kd) ∧ w.cell? ⟨b, off + j * 3 + 1, none⟩ = some (.int .i64 l[j].n) ∧
      w.cell? ⟨b, off + j * 3 + 2, none⟩ = some (.slice A' l[j].t.length c') ∧ Sl w B (.slice A' l[j].t.length c') l[j].t := by
  obtain ⟨A2, c2, hv, _, _, _, h4⟩ := h
  injection hv with e1 e2 e3
  subst e1
  exact h4 j hj

/-- How many bytes the first ones take. -/
def weight (l : List Th) : Nat := (l.map fun x => x.t.length).sum
theorem weight_take (l : List Th) (k : Nat) : weight (l.take k) ≤ weight l := by
  induction l generalizing k with
  | nil => simp [weight]
  | cons x l ih =>
    cases k with
    | zero => simp [weight]
    | succ k =>
      have := ih k
      simp only [weight, List.take_succ_cons, List.map_cons, List.sum_cons] at this ⊢
      omega
theorem flat_take (l : List Th) (hl : ∀ x ∈ l, x.ok) (k : Nat) : (flat (l.take k)).length ≤ 23 * k + weight l := by
  have h1 := flat_len (l.take k) (fun x hx => hl x (List.mem_of_mem_take hx))
  have h2 := weight_take l k
  have h3 : (l.take k).length ≤ k := by rw [List.length_take]; omega
  unfold weight at *
  omega
theorem flat_next (l : List Th) (hl : ∀ x ∈ l, x.ok) (k : Nat) (hk : k < l.length) : (flat (l.take k)).length + l[k].t.length ≤ 23 * k + weight l := by
  have h1 := flat_len (l.take k) (fun x hx => hl x (List.mem_of_mem_take hx))
  have h2 := weight_take l (k + 1)
  have h3 : (l.take k).length ≤ k := by rw [List.length_take]; omega
  rw [List.take_succ_eq_append_getElem hk] at h2
  unfold weight at *
  rw [List.map_append, List.sum_append] at h2
  simp only [List.map_cons, List.map_nil, List.sum_cons, List.sum_nil] at h2
  omega

end Go.Proofs.YteblpfnmcbehmaaDoor.pk
