/-
  What the program's own members promise, as the laws' walks ask it.
-/
import Derived.Test.YtgnonfnipifbiaaDoorHc6
namespace Go.Proofs.YtgnonfnipifbiaaDoor.pk
open Go Go.RowKit
set_option maxRecDepth 100000

/-- THE PROGRAM's MEMBERS. -/
theorem conC : ConC where
  cQuorum A m c zs A' m' c' ss w h h' _ _ r hr := Quorum_own A m c zs A' m' c' ss w h h' r hr
  cAgreed A m c zs A' m' c' l w h h' _ _ r hr := Agreed_own A m c zs A' m' c' l w h h' r hr
  cHas A m c zs who w h _ _ r hr := Has_own A m c zs who w h r hr
  cCheck A m c zs w h _ k hk := Check_own A m c zs w h k hk
  cAdd A m c zs who w h hw _ r hr := Add_own A m c zs who w h hw r hr
  cRemove A m c zs who w h _ _ r hr := Remove_own A m c zs who w h r hr

end Go.Proofs.YtgnonfnipifbiaaDoor.pk
