/-
  The elder readers' words, over the later ones.
-/
import Derived.Test.YtfblgkcipnkhaaaGreatDoorPlain
import Derived.Test.YtfblgkcipnkhaaaGreatDoorJa
import Derived.Test.YtfblgkcipnkhaaaGreatDoorJb
namespace Go.Proofs.YtfblgkcipnkhaaaGreatDoor.pk
open Go Go.RowKit
end Go.Proofs.YtfblgkcipnkhaaaGreatDoor.pk
