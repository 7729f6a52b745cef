/-
  The law TapeOpens' own walk: whole.
-/
import Derived.Test.YthcikgbnenfjpaaDoorTOpC
namespace Go.Proofs.YthcikgbnenfjpaaDoor.pk
open Go Go.RowKit
set_option maxRecDepth 100000

theorem opens_true {Q : ConD → Prop} (C : ConD) (B : ConB Q C) (A : Option Addr) (m c : Nat) (b : List UInt8) (at_ size : Int) (w : World) (hs : Std w) (h : Sl w w.heap.size (.slice A m c) b) (ha : inI at_) (hz : inI size) :
    Calls Tryd.prog 3 #[.slice A m c, .int .i64 at_, .int .i64 size] w fun x w' => x = .returned (.bool true) ∧ Below w.heap.size w w' := by
  by_cases hlen : 1 ≤ m ∧ m ≤ 3000
  · by_cases hbad : at_ < 0 ∨ size < 5 ∨ (m : Int) < at_ ∨ (m : Int) - at_ < size
    · exact opens_bad C B A m c b at_ size w hs h ha hz hlen.1 hlen.2 hbad
    · obtain ⟨a, rfl⟩ : ∃ a : Nat, at_ = (a : Int) := ⟨at_.toNat, by omega⟩
      obtain ⟨sz, rfl⟩ : ∃ sz : Nat, size = (sz : Int) := ⟨size.toNat, by omega⟩
      cases hpr : readT (areaT b a sz) with
      | none => exact opens_none C B A m c b a sz w hs h ha hz hlen.1 hlen.2 (by omega) (by omega) hpr
      | some x => exact opens_some C B A m c b a sz w hs h ha hz hlen.1 hlen.2 (by omega) (by omega) x.1 x.2 hpr
  · have hor : (m : Int) < 1 ∨ (¬ (m : Int) < 1 ∧ 3000 < (m : Int)) := by omega
    clear hlen hs h ha hz
    rcases hor with h1 | ⟨h1, h2⟩
    all_goals
      go_enter Tryd.func3, Tryd.ntmps3
      go_wp2_with (go_at_call 7; go_must (refine (sure_any B _).mono ?_; rintro y w8 ⟨rfl, hb8⟩; have HB8 := Lib.hid hb8; clear hb8))
      go_ret
      exact ⟨rfl, HB8.out⟩

end Go.Proofs.YthcikgbnenfjpaaDoor.pk
