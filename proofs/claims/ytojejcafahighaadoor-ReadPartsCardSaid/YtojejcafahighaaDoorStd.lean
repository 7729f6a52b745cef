/-
  An error as a value; what the package-level variable holds that errors.As reads.
-/
import Derived.Test.YtojejcafahighaaDoorSl
namespace Go.Proofs.YtojejcafahighaaDoor.pk
open Go Go.RowKit

/-- An error as a value: 0 is none. -/
def ev (k : Nat) : Value := if k = 0 then .nilIface else .iface 57 (.int .i64 (k : Int))

/-- What the package-level variable holds. -/
structure Std (w : World) : Prop where
  typ : w.cell? ⟨0, 0, none⟩ = some (.iface 84 (.agg #[.pointer (some ⟨1, 34, none⟩)]))
  size : 1 ≤ w.heap.size

theorem Std.below {w w' : World} {B : Nat} (h : Std w) (hB : 1 ≤ B) (hb : Below B w w') : Std w' :=
  ⟨(hb.cell (p := ⟨0, 0, none⟩) (by show 0 < B; omega)).trans h.typ, Nat.le_trans h.size hb.size⟩

end Go.Proofs.YtojejcafahighaaDoor.pk
