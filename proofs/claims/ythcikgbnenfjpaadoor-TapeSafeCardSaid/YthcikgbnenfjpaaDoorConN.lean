/-
  What the program's own calls promise of a nil disk.
-/
import Derived.Test.YthcikgbnenfjpaaDoorConD
namespace Go.Proofs.YthcikgbnenfjpaaDoor.pk
open Go Go.RowKit
set_option maxRecDepth 100000

structure ConN : Prop where
  nRead : ∀ (at_ n : Int) (w : World), Calls Tryd.prog 21 #[.pointer none, .int .i64 at_, .int .i64 n] w fun x w' => x = .returned (.tuple #[.slice none 0 0, er 1]) ∧ Below w.heap.size w w'
  nWrite : ∀ (at_ : Int) (A : Option Addr) (n c : Nat) (w : World), Calls Tryd.prog 9 #[.pointer none, .int .i64 at_, .slice A n c] w fun x w' => x = .returned (er 1) ∧ Below w.heap.size w w'
  nSync : ∀ (w : World), Calls Tryd.prog 10 #[.pointer none] w fun x w' => x = .returned (er 1) ∧ Below w.heap.size w w'
  nArm : ∀ (n : Int) (w : World), Calls Tryd.prog 22 #[.pointer none, .int .i64 n] w fun x w' => x = .returned (er 1) ∧ Below w.heap.size w w'
  nStart : ∀ (v : Value) (w : World), Calls Tryd.prog 24 #[.pointer none, v] w fun x w' => x = .returned (.tuple #[]) ∧ Below w.heap.size w w'
  nDown : ∀ (w : World), Calls Tryd.prog 23 #[.pointer none] w fun x w' => x = .returned (.bool false) ∧ Below w.heap.size w w'

end Go.Proofs.YthcikgbnenfjpaaDoor.pk
