/-
  A slice written out: what it reads as.
-/
import Derived.Test.YtojejcafahighaaApp
import Derived.Deep.DeepCutAuto
import Derived.Deep.CutBlock
import Derived.ProofKit
import Derived.Laws.OwnMore
namespace Go.Proofs.Ytojejcafahighaa.pk
open Go Go.RowKit

/-- Bytes written out, as a slice. -/
theorem Sl.lit (w : World) (t : Nat) (bs : List UInt8) (B : Nat) (hB : w.heap.size < B) (hl : bs.length ≤ 9223372036854775807) (fz : Nat × Nat := (0, 0)) :
    Sl (w.alloc (.cells (bs.map fun b => Value.int .u8 (b.toNat : Int)).toArray t fz)) B (.slice (some ⟨w.heap.size, 0, none⟩) bs.length bs.length) bs := by
  refine ⟨some ⟨w.heap.size, 0, none⟩, bs.length, rfl, Nat.le_refl _, hl, Or.inr ⟨w.heap.size, 0, rfl, hB, fun j hj => ?_⟩⟩
  rw [cell_of_row _ w.heap.size _ _ _ fz (heap_alloc_new w _)]
  simp [List.getD, List.getElem?_eq_getElem hj]

theorem Sl.form {w : World} {B : Nat} {v : Value} {bs : List UInt8} (h : Sl w B v bs) : ∃ A n c, v = .slice A n c := by
  obtain ⟨A, c, rfl, _⟩ := h
  exact ⟨_, _, _, rfl⟩

theorem grown_below {w w' : World} (h : Below w.heap.size w w') (row : Option Nat) : w.grownBy w' row := ⟨h.os, h.tape, h.output, h.size, fun i hi _ => h.block i hi⟩
theorem grown_trans {a b c : World} {row : Option Nat} (h : a.grownBy b row) (k : b.grownBy c row) : a.grownBy c row :=
  ⟨k.os.trans h.os, k.tape.trans h.tape, k.output.trans h.output, Nat.le_trans h.size k.size, fun i hi hne => (k.block i (Nat.lt_of_lt_of_le hi h.size) hne).trans (h.block i hi hne)⟩
/-- What the call owns stays its own where nothing that was there has changed. -/
theorem own_below {w w' : World} {base e n : Nat} {v : Value} {xs : List Value} (h : w.ownsRow base e 1 v n xs) (hb : Below w.heap.size w w') : w'.ownsRow base e 1 v n xs := by
  refine h.kept (grown_below hb (some w.heap.size)) (Or.inr fun e => ?_)
  have := (h.lt _ e).2
  omega
/-- An own row as a slice, its number of bytes under a name. -/
theorem own_sl {w : World} {base e n : Nat} {v : Value} {bs : List UInt8} (h : w.ownsRow base e 1 v n (Lib.byteCells bs)) (hn : n = bs.length) : ∃ A c, v = .slice A n c ∧ Sl w w.heap.size (.slice A n c) bs := by
  subst hn
  obtain ⟨A, c, rfl, hx⟩ := Sl.of_own h w.heap.size fun g hg => (h.lt g hg).2
  exact ⟨A, c, rfl, A, c, rfl, hx⟩

theorem byteCells_set (l : List UInt8) (k : Nat) (c : UInt8) : (Lib.byteCells l).set k (.int .u8 (c.toNat : Int)) = Lib.byteCells (l.set k c) := by
  simp [Lib.byteCells, List.map_set]
/-- An own row that is not empty, written out. -/
theorem row_form {w : World} {base n e : Nat} {v : Value} {xs : List Value} (h : w.ownsRow base e 1 v n xs) (hn : 0 < n) :
    ∃ g cap, v = .slice (some ⟨g, 0, none⟩) n cap ∧ base ≤ g ∧ g < w.heap.size ∧ n ≤ cap ∧ cap ≤ 9223372036854775807 := by
  rcases h.2 with ⟨_, h0⟩ | ⟨g, cap, cur, rfl, hb, hg, hnc, hcm, _⟩
  · omega
  · refine ⟨g, cap, rfl, hb, (h.lt g rfl).2, hnc, by simp only [maxLen] at hcm; omega⟩

end Go.Proofs.Ytojejcafahighaa.pk
