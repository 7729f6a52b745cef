/-
  What the program's own disk promises besides: its size, its power, and what is armed.
-/
import Derived.Test.YthcikgbnenfjpaaDoorLive
namespace Go.Proofs.YthcikgbnenfjpaaDoor.pk
open Go Go.RowKit
set_option maxRecDepth 100000

structure ConE (C : ConD) : Prop where
  cDown : ∀ (w : World) (S : Nat → Prop) (p : Nat) (d : Dk), C.DK w S p d → Calls Tryd.prog 23 #[.pointer (some ⟨p, 0, none⟩)] w fun x w' => x = .returned (.bool d.off) ∧ Below w.heap.size w w'
  cArm : ∀ (w : World) (S : Nat → Prop) (p : Nat) (d : Dk) (n : Int), C.DK w S p d → inI n → Calls Tryd.prog 22 #[.pointer (some ⟨p, 0, none⟩), .int .i64 n] w fun r w' => ∃ S', r = .returned (er (armE n)) ∧ C.DK w' S' p (armD d n) ∧ Turn S S' w w'

variable {C : ConD} {w0 w w' : World} {S S' : Nat → Prop} {p : Nat} {d : Dk}

theorem live_arm (E : ConE C) (h : Live C w0 w S p d) (n : Int) (hn : inI n) : Calls Tryd.prog 22 #[.pointer (some ⟨p, 0, none⟩), .int .i64 n] w fun r w' => ∃ S', r = .returned (er (armE n)) ∧ Live C w0 w' S' p (armD d n) ∧ Turn S S' w w' :=
  (E.cArm w S p d n h.dk hn).mono fun _ _ ⟨S', hr, hd, ht⟩ => ⟨S', hr, h.turn hd ht, ht⟩
theorem live_down (E : ConE C) (h : Live C w0 w S p d) : Calls Tryd.prog 23 #[.pointer (some ⟨p, 0, none⟩)] w fun x w' => x = .returned (.bool d.off) ∧ Live C w0 w' S p d ∧ Below w.heap.size w w' :=
  (E.cDown w S p d h.dk).mono fun _ _ ⟨hr, hb⟩ => ⟨hr, h.more hb, hb⟩
end Go.Proofs.YthcikgbnenfjpaaDoor.pk
