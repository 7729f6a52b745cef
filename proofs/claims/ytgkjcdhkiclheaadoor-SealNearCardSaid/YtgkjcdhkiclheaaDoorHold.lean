/-
  What the program's own functions of sums, of sealing and of opening promise, as the laws' walks ask it.
-/
import Derived.Test.YtgkjcdhkiclheaaDoorMineO
namespace Go.Proofs.YtgkjcdhkiclheaaDoor.pk
open Go Go.RowKit

/-- THE PROGRAM's FUNCTIONS ANSWER SO. -/
theorem con : Con where
  cSum A n c bs w B _ h := (Sum_any A n c bs w B h).mono fun _ _ ⟨he, hw⟩ => ⟨he, by rw [hw]; exact Below.refl _ _⟩
  cMore s A n c bs w B hs _ h := (More_any s hs A n c bs w B h).mono fun _ _ ⟨he, hw⟩ => ⟨he, by rw [hw]; exact Below.refl _ _⟩
  cSeal := Seal_any
  cOpen := Open_any

end Go.Proofs.YtgkjcdhkiclheaaDoor.pk
