/-
  A box, a piece, pieces that are read.
-/
import Derived.Test.YtfdccdjfbdmblaaDoorRead
import Derived.Test.YtfdccdjfbdmblaaDoorConK
namespace Go.Proofs.YtfdccdjfbdmblaaDoor.pk
open Go Go.RowKit Go.ChangeShapes Go.WideShapes Go.ChangeAt
set_option maxRecDepth 100000

theorem take_szK {sz : Nat} {cs : List Value} {i o : Nat} {u : Value} (h : ((((cs.drop (i * sz)).take sz).drop o).take 1) = [u]) : cs[i * sz + o]? = some u := by
  have h1 : ((((cs.drop (i * sz)).take sz).drop o).take 1)[0]? = some u := by rw [h]; rfl
  rw [List.getElem?_take, if_pos (by omega), List.getElem?_drop, List.getElem?_take] at h1
  split at h1
  · rw [List.getElem?_drop] at h1
    simpa using h1
  · cases h1


end Go.Proofs.YtfdccdjfbdmblaaDoor.pk
