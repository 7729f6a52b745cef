/-
  What the program's own functions of sums promise, as one structure; and what sealing and opening give one another.
-/
import Derived.Test.YtgkjcdhkiclheaaDoorPureS
import Derived.Test.YtgkjcdhkiclheaaDoorLit
namespace Go.Proofs.YtgkjcdhkiclheaaDoor.pk
open Go Go.RowKit
set_option maxRecDepth 100000

/-- An error as a value: 0 is none. -/
def er (k : Nat) : Value := if k = 0 then .nilIface else .iface 42 (.int .i64 (k : Int))

theorem er_zero : er 0 = .nilIface := rfl
theorem er_ne {k : Nat} (hk : k ≠ 0) : er k = .iface 42 (.int .i64 (k : Int)) := by unfold er; rw [if_neg hk]

/-- WHAT THE PROGRAM's FUNCTIONS ANSWER. -/
structure Con : Prop where
  cSum : ∀ (A : Option Addr) (n c : Nat) (bs : List UInt8) (w : World) (B : Nat), B ≤ w.heap.size → Sl w B (.slice A n c) bs →
    Calls Tryd.prog 12 #[.slice A n c] w fun x w' => x = .returned (.int .u32 (sum bs : Int)) ∧ Below w.heap.size w w'
  cMore : ∀ (s : Nat) (A : Option Addr) (n c : Nat) (bs : List UInt8) (w : World) (B : Nat), s < 4294967296 → B ≤ w.heap.size → Sl w B (.slice A n c) bs →
    Calls Tryd.prog 17 #[.int .u32 (s : Int), .slice A n c] w fun x w' => x = .returned (.int .u32 (more s bs : Int)) ∧ Below w.heap.size w w'
  cSeal : ∀ (kind : UInt8) (A : Option Addr) (n c : Nat) (b : List UInt8) (w : World) (B : Nat), B ≤ w.heap.size → Sl w B (.slice A n c) b →
    Calls Tryd.prog 7 #[.int .u8 (kind.toNat : Int), .slice A n c] w fun x w' => ∃ v, x = .returned (.tuple #[v, er (sealE kind b)]) ∧ w'.ownsRow w.heap.size 5 1 v (sealB kind b).length (Lib.byteCells (sealB kind b)) ∧ Below w.heap.size w w'
  cOpen : ∀ (A : Option Addr) (n c : Nat) (b : List UInt8) (w : World) (B : Nat), B ≤ w.heap.size → Sl w B (.slice A n c) b →
    Calls Tryd.prog 10 #[.slice A n c] w fun x w' => ∃ v, x = .returned (.tuple #[.int .u8 ((openK b).toNat : Int), v, er (openE b)]) ∧ Sl w' w'.heap.size v (openX b) ∧ Below w.heap.size w w'

end Go.Proofs.YtgkjcdhkiclheaaDoor.pk
