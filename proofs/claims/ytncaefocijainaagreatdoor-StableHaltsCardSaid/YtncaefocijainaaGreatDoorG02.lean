import Derived.Test.YtncaefocijainaaGreatDoorG01
import Derived.ProofKit
namespace Go.Proofs.YtncaefocijainaaGreatDoor.pk
open Go Go.RowKit
set_option maxRecDepth 100000
section
def more (s : Nat) (l : List UInt8) : Nat := 4294967295 ^^^ crc (4294967295 ^^^ s) l
end
end Go.Proofs.YtncaefocijainaaGreatDoor.pk
