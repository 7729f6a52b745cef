import Derived.Test.YtncaefocijainaaGreatDoorG06
import Derived.Lib.LaidTab
import Derived.WalkSmall
namespace Go.Proofs.YtncaefocijainaaGreatDoor.pk
section
open Go Go.RowKit
structure StdP (w : World) : Prop where
 std : Std w
 tab : Lib.TabIs Tryz.prog w "internal/strconv.uint64pow10" .u64 Lib.pow10Tab
 syn : ∃ tp p, w.var? Tryz.prog "strconv.ErrSyntax" = some #[.iface tp p]
 rng : ∃ tp p, w.var? Tryz.prog "strconv.ErrRange" = some #[.iface tp p]
theorem gTab : Tryz.prog.globalNamed "internal/strconv.uint64pow10" = some 1 := by kernel_rfl
theorem gSyn : Tryz.prog.globalNamed "strconv.ErrSyntax" = some 4 := by kernel_rfl
theorem gRng : Tryz.prog.globalNamed "strconv.ErrRange" = some 5 := by kernel_rfl
theorem StdP.below {w w' : World} {B : Nat} (h : StdP w) (hB : 6 ≤ B) (hb : Below B w w') : StdP w' := by
 obtain ⟨h1, h2, ⟨tp, p, h3⟩, ⟨tq, q, h4⟩⟩ := h
 exact ⟨h1.below hB hb, var?_below hb gTab (by omega) h2, ⟨tp, p, var?_below hb gSyn (by omega) h3⟩, ⟨tq, q, var?_below hb gRng (by omega) h4⟩⟩
theorem StdP.more {w w' : World} (h : StdP w) (hb : Below w.heap.size w w') : StdP w' := h.below h.std.size hb
end
end Go.Proofs.YtncaefocijainaaGreatDoor.pk
