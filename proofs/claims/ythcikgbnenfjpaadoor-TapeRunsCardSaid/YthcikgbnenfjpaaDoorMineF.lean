/-
  The program's own Clone: walked.
-/
import Derived.Test.YthcikgbnenfjpaaDoorMineD
namespace Go.Proofs.YthcikgbnenfjpaaDoor.pk
open Go Go.RowKit
set_option maxRecDepth 100000

theorem own_some {w : World} {b e k : Nat} {v : Value} {xs : List Value} (h : w.ownsRow b e 1 v k xs) (hk : 1 ≤ k) : ∃ g c, v = .slice (some ⟨g, 0, none⟩) k c ∧ b ≤ g := by
  rcases h.2 with ⟨_, h0⟩ | ⟨g, cap, cur, hv, hb, _⟩
  · omega
  · exact ⟨g, cap, hv, hb⟩
theorem own_base {w : World} {b b' e z k : Nat} {v : Value} {xs : List Value} (h : w.ownsRow b e z v k xs) (hb : b' ≤ b) : w.ownsRow b' e z v k xs := by
  refine ⟨h.1, ?_⟩
  rcases h.2 with hn | ⟨g, cap, cur, rfl, h1, rest⟩
  · exact Or.inl hn
  · exact Or.inr ⟨g, cap, cur, rfl, Nat.le_trans hb h1, rest⟩
theorem own_under {w w' : World} {b e z k B : Nat} {v : Value} {xs : List Value} (h : w.ownsRow b e z v k xs) (hb : Below B w w') (hl : ∀ g, v.ownBlock = some g → g < B) : w'.ownsRow b e z v k xs := own_block h fun g hg => hb.block g (hl g hg)
theorem own_set {w : World} {b e z k q j : Nat} {v u : Value} {xs : List Value} (h : w.ownsRow b e z v k xs) (hl : ∀ g, v.ownBlock = some g → g ≠ q) : (w.setCell ⟨q, j, none⟩ u).ownsRow b e z v k xs := own_block h fun g hg => by
  simp [World.setCell, Array.getElem?_modify, Ne.symm (hl g hg)]
theorem elems_one {w : World} {T : Nat → Prop} {L : List (Nat × List UInt8)} {cs : List Value} (h : Elems w T L cs) (hl : cs.length = L.length * 2) : ∀ u ∈ cs, u.oneCell' = true := by
  intro u hu
  obtain ⟨i, hi, rfl⟩ := List.mem_iff_getElem.1 hu
  obtain ⟨h1, x, h2, A, c, hv, _⟩ := h (i / 2) (by omega)
  by_cases he : i % 2 = 0
  · have e : 2 * (i / 2) = i := by omega
    rw [e, List.getElem?_eq_getElem hi] at h1
    injection h1 with h1
    rw [h1]; rfl
  · have e : 2 * (i / 2) + 1 = i := by omega
    rw [e, List.getElem?_eq_getElem hi, hv] at h2
    injection h2 with h2
    rw [h2]; rfl

theorem own_eq {g1 g a b : Nat} (e : (Value.slice (some ⟨g1, 0, none⟩) a b).ownBlock = some g) : g1 = g := by injection e


end Go.Proofs.YthcikgbnenfjpaaDoor.pk
