/-
  What the program's own numbers as bytes want of the memory.
-/
import Derived.Test.YtlngcfaadfkbnaaEntM
namespace Go.Proofs.Ytlngcfaadfkbnaa.pk
open Go Go.RowKit
set_option maxRecDepth 100000

structure StdG (w : World) : Prop where
  size : 0 ≤ w.heap.size

end Go.Proofs.Ytlngcfaadfkbnaa.pk
