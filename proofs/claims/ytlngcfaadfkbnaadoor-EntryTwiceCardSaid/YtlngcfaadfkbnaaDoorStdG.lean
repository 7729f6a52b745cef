/-
  What the program's own numbers as bytes want of the memory.
-/
import Derived.Test.YtlngcfaadfkbnaaDoorEntM
import Derived.Lib.LaidTab
namespace Go.Proofs.YtlngcfaadfkbnaaDoor.pk
open Go Go.RowKit
set_option maxRecDepth 100000

structure StdG (w : World) : Prop where
  tab : Lib.TabIs Tryd.prog w "internal/strconv.uint64pow10" .u64 Lib.pow10Tab
  size : 4 ≤ w.heap.size
theorem gTabG : Tryd.prog.globalNamed "internal/strconv.uint64pow10" = some 1 := by kernel_rfl
theorem StdG.below {w w' : World} (h : StdG w) (hb : Below w.heap.size w w') : StdG w' :=
  ⟨var?_below hb gTabG (by have := h.size; omega) h.tab, Nat.le_trans h.size hb.size⟩

end Go.Proofs.YtlngcfaadfkbnaaDoor.pk
