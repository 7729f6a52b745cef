/-
  The letter that a reader stands at.
-/
import Derived.Test.YteblpfnmcbehmaaDoorRd2
namespace Go.Proofs.YteblpfnmcbehmaaDoor.pk
open Go Go.RowKit
set_option maxRecDepth 100000

/-- 'Kind()' where a letter is ahead. -/
theorem Kind_ok (p : Nat) (v : Value) (c : UInt8) (r : List UInt8) (w : World) (h : RD w p v (c :: r) 0) (hc : c = 110 ∨ c = 105 ∨ c = 121 ∨ c = 122 ∨ c = 116 ∨ c = 98) :
    Calls Tryd.prog 25 #[.pointer (some ⟨p, 0, none⟩)] w fun x w' => x = .returned (.int .u8 (c.toNat : Int)) ∧ w = w' := by
  have hc0 := h.c0
  have c1 := Lib.hid (stopped_no p v (c :: r) w h)
  have h2 := h.2
  obtain ⟨A, cc, rfl, hx⟩ := h.2
  have h2 : Sl w p (.slice A (c :: r).length cc) (c :: r) := ⟨A, cc, rfl, hx⟩
  obtain ⟨b, off, rfl, _, hn, hcc, hcm, hcell⟩ := h2.head
  rw [hn] at hc0
  have hz : (((r.length + 1 : Nat) : Int) == 0) = false := by simp; omega
  have hi : (0 : Int) < ((r.length + 1 : Nat) : Int) := by omega
  have hj : ((r.length + 1 : Nat) : Int) ≤ (cc : Int) := by omega
  clear h hx h2 hn hcc hcm
  generalize r.length + 1 = n at *
  rcases hc with rfl | rfl | rfl | rfl | rfl | rfl <;>
  · go_enter Tryd.func25, Tryd.ntmps25
    go_wp2_with (go_at_call 34; refine c1.out.mono ?_; rintro x w' ⟨rfl, rfl⟩)
    go_ret
    exact ⟨rfl, rfl⟩

end Go.Proofs.YteblpfnmcbehmaaDoor.pk
