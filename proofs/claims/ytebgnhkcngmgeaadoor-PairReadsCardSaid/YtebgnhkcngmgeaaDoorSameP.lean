/-
  The law's own 'same': whether an amount is the document's, and the error.
-/
import Derived.Test.YtebgnhkcngmgeaaDoorRefRd
import Derived.Test.YtebgnhkcngmgeaaDoorNum
namespace Go.Proofs.YtebgnhkcngmgeaaDoor.pk
open Go Go.RowKit Ieee
set_option maxRecDepth 100000

theorem ord_same {x : Nat} (h : x ≤ mostN) : FloatKind.f64.format.order (fB x) (fB x) = some .eq := by
  have h1 := Nat.lt_of_le_of_lt h mostN_lt
  have := fB_order h1 h1
  rw [cmp_eq] at this
  exact this
theorem ord_zero : FloatKind.f64.format.order 0 0 = some .eq := ord_same (x := 0) (Nat.zero_le _)
/-- An amount's parts are none too great. -/
def Few (p : Option (Nat × Nat)) : Prop := ∀ a, p = some a → a.1 ≤ mostN ∧ a.2 ≤ mostN
theorem few_readP (l : List UInt8) : Few (readP l) := fun a h => (readP_show (x := a.1) (y := a.2) h).2

set_option maxHeartbeats 1000000 in
theorem same_any (p : Option (Nat × Nat)) (hp : Few p) (k : Nat) (w : World) (hs : Std w) :
    Calls Tryd.prog 6 #[amtV p, ev (errK k p), amtV p, .int .i64 (errK k p : Nat)] w fun e w' => e = .returned (.bool true) ∧ Below w.heap.size w w' := by
  have CN := Lib.hid (num_any (errK k p) w hs)
  obtain ⟨a, b, hv, h1, h2⟩ : ∃ a b, amtV p = .complex .f64 a b ∧ FloatKind.f64.format.order a a = some .eq ∧ FloatKind.f64.format.order b b = some .eq := by
    cases p with
    | none => exact ⟨0, 0, rfl, ord_zero, ord_zero⟩
    | some x =>
      have := hp x rfl
      exact ⟨fB x.1, fB x.2, rfl, ord_same this.1, ord_same this.2⟩
  rw [hv]
  clear hv
  obtain ⟨n, hn⟩ : ∃ n, n = errK k p := ⟨_, rfl⟩
  rw [← hn] at CN ⊢
  clear hn hp
  obtain ⟨v, hv⟩ : ∃ v, v = ev n := ⟨_, rfl⟩
  rw [← hv] at CN ⊢
  clear hv
  go_enter Tryd.func6, Tryd.ntmps6
  go_wp2_with (go_at_call 12; refine CN.out.mono ?_; rintro y W ⟨rfl, hb⟩; have HB := Lib.hid hb; clear hb)
  go_ret
  exact ⟨by simp, HB.out⟩

end Go.Proofs.YtebgnhkcngmgeaaDoor.pk
