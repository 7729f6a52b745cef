/-
  A region that draws its order: its begin walked under a condition on the world, the rest, whose operations only read, walked once.
-/
import Derived.Deep.RegionHeld3
import Derived.Lib.QuietBelow
import Derived.BigQuiet
namespace Go.Proofs.Ytojejcafahighaa.pk
open Go

theorem wpAnyH_of_quiet {P : Program} {md : Region.Mode} {ops : Array Oper} {C S : World → Prop} {Q : Act → Prop} {Q' : Exit → Act → World → Prop} (hQ : ∀ a w, C w → Q a → Q' .normal a w) (hCS : ∀ w, C w → S w) :
    ∀ (fuel : Nat) (listed : Array Bool) (a : Act) (w : World), C w → wpAnyQ P md ops C Q fuel listed a → wpAnyH P md ops Q' S fuel listed a w
  | 0, _, _, _, hw, h => ⟨h.1, hQ _ _ hw h.2⟩
  | fuel + 1, _, _, _, hw, h => ⟨fun h0 => hQ _ _ hw (h.1 h0), fun i hi => wpOp_of_qOp hw (fun a' w' hw' hK => ⟨hCS _ hw', wpAnyH_of_quiet hQ hCS fuel _ a' w' hw' hK⟩) (h.2 i hi)⟩

/-- The rest of a region, from its n-th operation on: each is quiet. -/
theorem wpAnyH_quiet_tail {P : Program} {Q : Exit → Act → World → Prop} {S C : World → Prop} {l : List Oper} {fuel : Nat} {listed : Array Bool} {a : Act} {w : World} (n : Nat) (hf : fuel = (l.drop n).length) (hC : C w) (hCS : ∀ w, C w → S w)
    (hs : Region.noSelect l.toArray = true) (hB : Region.lexFrom .any l.toArray (l.drop n).length n listed = true) (h : wpQuiet P l.toArray C (fun a' => ∀ w', C w' → Q .normal a' w') (l.drop n) a) :
    wpAnyH P .any l.toArray Q S fuel listed a w := by
  subst hf
  exact wpAnyH_of_quiet (Q := fun a' => ∀ w', C w' → Q .normal a' w') (fun _ w' hw' h => h w' hw') hCS _ _ _ _ hC (wpAnyQ_lex hs (l.drop n) n listed a (fun j => by simp [List.getElem?_drop]) hB h)

end Go.Proofs.Ytojejcafahighaa.pk
