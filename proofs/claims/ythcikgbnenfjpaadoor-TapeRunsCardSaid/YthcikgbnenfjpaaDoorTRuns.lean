/-
  The law TapeRuns' own walk: whole.
-/
import Derived.Test.YthcikgbnenfjpaaDoorTRunB
namespace Go.Proofs.YthcikgbnenfjpaaDoor.pk
open Go Go.RowKit
set_option maxRecDepth 100000

theorem runs_true {Q : ConD → Prop} (C : ConD) (B : ConB Q C) (A A' A'' : Option Addr) (m c m' c' m'' c'' : Nat) (b : List UInt8) (ls : List (List UInt8)) (rs : List Bool) (w : World) (hs : Std w) (h : Sl w w.heap.size (.slice A m c) b)
    (hl : ListsT w (fun k => k < w.heap.size) (.slice A' m' c') ls) (hr : BoolsT w (fun k => k < w.heap.size) (.slice A'' m'' c'') rs) :
    Calls Tryd.prog 4 #[.slice A m c, .slice A' m' c', .slice A'' m'' c''] w fun x w' => x = .returned (.bool true) ∧ Below w.heap.size w w' := by
  by_cases hlen : 7 ≤ m ∧ m ≤ 600
  · cases hpr : readT (areaT b 1 (m - 2)) with
    | none => exact runs_none C B A A' A'' m c m' c' m'' c'' b ls rs w hs h hl hr hlen.1 hlen.2 hpr
    | some x => exact runs_some C B A A' A'' m c m' c' m'' c'' b ls rs w hs h hl hr hlen.1 hlen.2 x.1 x.2 hpr
  · exact runs_short C B A A' A'' m c m' c' m'' c'' b ls rs w hs h hl hr hlen

end Go.Proofs.YthcikgbnenfjpaaDoor.pk
