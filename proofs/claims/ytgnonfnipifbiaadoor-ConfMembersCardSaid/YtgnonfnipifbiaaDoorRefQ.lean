/-
  The document's own Quorum and Near: walked.
-/
import Derived.Test.YtgnonfnipifbiaaDoorRefC
namespace Go.Proofs.YtgnonfnipifbiaaDoor.pk
open Go Go.RowKit
set_option maxRecDepth 100000


theorem near_end {a b : List Int} {k j n m : Nat} (hn : n = diffC (a.take k) b) (hm : m = diffC (b.take j) a) (hk : k = a.length ∨ k = 8) (hj : j = b.length ∨ j = 8) (ha : k ≤ a.length) (hb : j ≤ b.length) :
    nearC a b = (mayC a && mayC b && decide (n + m < 2)) := by
  unfold nearC
  cases h1 : mayC a with
  | false => rfl
  | true =>
    cases h2 : mayC b with
    | false => rfl
    | true =>
      have l1 := ((mayC_iff a).1 h1).1
      have l2 := ((mayC_iff b).1 h2).1
      rw [List.take_of_length_le (by omega)] at hn
      rw [List.take_of_length_le (by omega)] at hm
      rw [hn, hm]


end Go.Proofs.YtgnonfnipifbiaaDoor.pk
