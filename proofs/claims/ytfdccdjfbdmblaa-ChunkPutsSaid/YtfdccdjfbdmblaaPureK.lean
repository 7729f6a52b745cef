/-
  A text piece by piece, as plain functions.
-/
import Derived.Test.YtfdccdjfbdmblaaBys
namespace Go.Proofs.Ytfdccdjfbdmblaa.pk
open Go Go.RowKit

def cutK (t : List UInt8) (off size : Int) : List UInt8 × Bool × Nat :=
  if size < 1 ∨ 1048576 < size then ([], false, 1)
  else if off < 0 ∨ (t.length : Int) < off ∨ (off = t.length ∧ 0 < t.length) then ([], false, 4)
  else if (t.length : Int) - off ≤ size then (t.drop off.toNat, true, 0) else ((t.drop off.toNat).take size.toNat, false, 0)
structure PutR where
  key : Int
  hav : List UInt8
  txt : List UInt8
  n : Int
  ok : Bool
def putK (key0 : Int) (h : List UInt8) (key off : Int) (p : List UInt8) (last : Bool) : PutR :=
  if off ≠ 0 ∧ (key ≠ key0 ∨ off ≠ h.length) then ⟨key0, h, [], if key ≠ key0 then 0 else h.length, false⟩
  else if 1048576 < (if off = 0 then 0 else h.length) + p.length then ⟨key0, h, [], if key ≠ key0 then 0 else h.length, false⟩
  else if last then ⟨key, [], (if off = 0 then [] else h) ++ p, (((if off = 0 then [] else h) ++ p).length : Nat), true⟩
  else ⟨key, (if off = 0 then [] else h) ++ p, [], (((if off = 0 then [] else h) ++ p).length : Nat), false⟩
def pcsK (t : List UInt8) (size : Int) : Int × Nat :=
  if size < 1 ∨ 1048576 < size then (0, 1) else (if t.length = 0 then 1 else ((t.length + size.toNat - 1) / size.toNat : Nat), 0)

end Go.Proofs.Ytfdccdjfbdmblaa.pk
