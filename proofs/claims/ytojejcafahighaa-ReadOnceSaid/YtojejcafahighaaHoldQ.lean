/-
  The program's own queue keeps the contracts.
-/
import Derived.Test.YtojejcafahighaaHq3
import Derived.Test.YtojejcafahighaaHq4
namespace Go.Proofs.Ytojejcafahighaa.pk
open Go Go.RowKit

theorem its_of {w : World} {T : Nat → Prop} {v : Value} {l : List It} (h : ItsT w T v l) (ht : ∀ k, T k → k < w.heap.size) (hi : ∀ e ∈ l, e.inI) : Its w v l := ⟨h.move (fun _ _ _ => rfl) ht, hi⟩
theorem aft_of {w w' : World} {T : Nat → Prop} {v : Value} {l : List It} (h : FIts w w' v l) : ItsT w' (Aft T w w') v l ∧ ∀ e ∈ l, e.inI := ⟨h.1.move (fun _ _ _ => rfl) fun _ hk => Or.inr hk, h.2⟩

theorem conQ : ConQ where
  qAdd := fun lim l A n c x w T h ht hi _ hx hl r hr m hm => (Add_any lim l A n c x w (its_of h ht hi) hx hl r hr m hm).mono fun _ _ ⟨A1, c1, hy, h1, hb⟩ => ⟨A1, c1, hy, aft_of h1, hb⟩
  qTake := fun lim l A n c term heard applied w T h ht hi _ hl r hr m k hm hk => (Take_any lim l A n c term heard applied w (its_of h ht hi) hl r hr m k hm hk).mono fun _ _ ⟨A1, c1, A2, c2, hy, h1, h2, hb⟩ => ⟨A1, c1, A2, c2, hy, aft_of h1, h2, hb⟩
  qFail := fun lim l A n c term w T h ht hi _ hl r hr m k hm hk => (Fail_any lim l A n c term w (its_of h ht hi) hl r hr m k hm hk).mono fun _ _ ⟨A1, c1, A2, c2, hy, h1, h2, hb⟩ => ⟨A1, c1, A2, c2, hy, aft_of h1, h2, hb⟩
  qRounds := fun lim l A n c term w h _ hl => Rounds_any lim l A n c term w h hl

end Go.Proofs.Ytojejcafahighaa.pk
