/-
  How the program's own tape lies in memory, and its small functions: walked.
-/
import Derived.Test.YthcikgbnenfjpaaDoorLive
import Derived.Test.YthcikgbnenfjpaaDoorPureU
import Derived.Deep.QuietTactic
import Derived.BigQuiet
namespace Go.Proofs.YthcikgbnenfjpaaDoor.pk
open Go Go.RowKit
set_option maxRecDepth 100000

/-- How much fits behind, of so many that are left. -/
def roomZ (k : Int) : Int := if k < 5 then -1 else k - 5

theorem room_any (k : Int) (w : World) (h1 : -9223372036854775808 ≤ k) (h2 : k ≤ 9223372036854775807) :
    Calls Tryd.prog 32 #[.int .i64 k] w fun x w' => x = .returned (.int .i64 (roomZ k)) ∧ w = w' := by
  by_cases h : k < 5
  · rw [show roomZ k = -1 from if_pos h]
    go_enter Tryd.func32, Tryd.ntmps32
    go_wp2
    go_ret
    exact ⟨rfl, rfl⟩
  · rw [show roomZ k = k - 5 from if_neg h]
    go_enter Tryd.func32, Tryd.ntmps32
    go_wp2
    go_ret
    exact ⟨rfl, rfl⟩

theorem below_drewN (w : World) (n : Nat) : Below w.heap.size w (w.drewN n) := ⟨rfl, rfl, rfl, Nat.le_refl _, fun _ _ => rfl⟩

/-- The tape's own block. -/
def TBox (w : World) (q p : Nat) (t : Tm) : Prop :=
  w.heap[q]? = some (.cells #[.pointer (some ⟨p, 0, none⟩), .int .i64 (t.at_ : Int), .int .i64 (t.len : Int), .int .i64 (t.fin : Int), .int .i64 (t.n : Int), er t.dead] 70 (0, 0))

/-- A tape over a disk. -/
structure Tp (C : ConD) (w : World) (S : Nat → Prop) (q p : Nat) (d : Dk) (t : Tm) : Prop where
  dk : C.DK w S p d
  box : TBox w q p t
  out : ¬ S q
  dis : t.at_ + t.len ≤ d.B.length
  five : 5 ≤ t.len
  fin : t.fin ≤ t.len
  num : t.n ≤ t.fin

section
variable {C : ConD} {w w' : World} {S : Nat → Prop} {q p : Nat} {d : Dk} {t : Tm}

theorem TBox.cells (h : TBox w q p t) :
    w.cell? ⟨q, 0, none⟩ = some (.pointer (some ⟨p, 0, none⟩)) ∧ w.cell? ⟨q, 1, none⟩ = some (.int .i64 (t.at_ : Int)) ∧ w.cell? ⟨q, 2, none⟩ = some (.int .i64 (t.len : Int)) ∧ w.cell? ⟨q, 3, none⟩ = some (.int .i64 (t.fin : Int)) ∧
      w.cell? ⟨q, 4, none⟩ = some (.int .i64 (t.n : Int)) ∧ w.cell? ⟨q, 5, none⟩ = some (er t.dead) ∧ ∀ j, w.frozen? ⟨q, j, none⟩ = false := by
  refine ⟨?_, ?_, ?_, ?_, ?_, ?_, fun j => frozen_of_row w q j _ _ h⟩
  all_goals
    rw [cell_of_row w q _ _ _ (0, 0) h]
    rfl
theorem Tp.sizes (h : Tp C w S q p d t) : t.at_ + t.len ≤ 4194304 := by
  have := (C.ok h.dk).2.2
  have := h.dis
  omega
theorem TBox.lt (h : TBox w q p t) : q < w.heap.size := (Array.getElem?_eq_some_iff.1 h).1

theorem Len_any (h : TBox w q p t) :
    Calls Tryd.prog 15 #[.pointer (some ⟨q, 0, none⟩)] w fun x w' => x = .returned (.int .i64 (t.n : Int)) ∧ w = w' := by
  obtain ⟨-, -, -, -, c4, -, -⟩ := h.cells
  clear h
  go_enter Tryd.func15, Tryd.ntmps15
  go_wp2
  go_ret
  exact ⟨rfl, rfl⟩

theorem Room_any (h : TBox w q p t) (h1 : t.len ≤ 4194304) (h2 : t.fin ≤ 4194304) :
    Calls Tryd.prog 16 #[.pointer (some ⟨q, 0, none⟩)] w fun x w' => x = .returned (.int .i64 (roomZ ((t.len : Int) - t.fin))) ∧ Below w.heap.size w w' := by
  obtain ⟨-, -, c2, c3, -, -, -⟩ := h.cells
  obtain ⟨l, hl⟩ : ∃ l : Int, l = (t.len : Int) := ⟨_, rfl⟩
  obtain ⟨f, hf⟩ : ∃ f : Int, f = (t.fin : Int) := ⟨_, rfl⟩
  rw [← hl] at c2
  rw [← hf] at c3
  have g1 : 0 ≤ l := by omega
  have g2 : l ≤ 4194304 := by omega
  have g3 : 0 ≤ f := by omega
  have g4 : f ≤ 4194304 := by omega
  rw [← hl, ← hf]
  have iw : IntKind.i64.wrap (l - f) = l - f := IntWalk.i64_in _ (by omega)
  have cr := fun k => Calls.quiet_of_same ((room_any (l - f) (w.drewN k) (by omega) (by omega)).mono fun _ _ ⟨a, b⟩ => ⟨a, b.symm⟩)
  clear h h1 h2 hl hf
  go_enter Tryd.func16, Tryd.ntmps16
  go_wp2
  go_quiet ((go_at_call 32; exact cr _))
  go_wp2
  go_ret
  exact ⟨rfl, below_drewN _ _⟩
theorem LenNil_any (w : World) : Calls Tryd.prog 15 #[.pointer none] w fun x w' => x = .returned (.int .i64 0) ∧ w = w' := by
  go_enter Tryd.func15, Tryd.ntmps15
  go_wp2
  go_ret
  exact ⟨rfl, rfl⟩
theorem RoomNil_any (w : World) : Calls Tryd.prog 16 #[.pointer none] w fun x w' => x = .returned (.int .i64 (-1)) ∧ w = w' := by
  go_enter Tryd.func16, Tryd.ntmps16
  go_wp2
  go_ret
  exact ⟨rfl, rfl⟩
theorem AppendNil_any (v : Value) (w : World) : Calls Tryd.prog 18 #[.pointer none, v] w fun x w' => x = .returned (er 1) ∧ w = w' := by
  go_enter Tryd.func18, Tryd.ntmps18
  go_wp2
  go_ret
  exact ⟨rfl, rfl⟩
theorem ResetNil_any (w : World) : Calls Tryd.prog 19 #[.pointer none] w fun x w' => x = .returned (er 1) ∧ w = w' := by
  go_enter Tryd.func19, Tryd.ntmps19
  go_wp2
  go_ret
  exact ⟨rfl, rfl⟩
/-- A tape that is dead. -/
theorem AppendDead_any (h : TBox w q p t) (hd : t.dead ≠ 0) (v : Value) :
    Calls Tryd.prog 18 #[.pointer (some ⟨q, 0, none⟩), v] w fun x w' => x = .returned (er t.dead) ∧ w = w' := by
  obtain ⟨-, -, -, -, -, c5, -⟩ := h.cells
  rw [er_ne hd] at c5 ⊢
  clear h hd
  go_enter Tryd.func18, Tryd.ntmps18
  go_wp2
  go_ret
  exact ⟨rfl, rfl⟩
theorem ResetDead_any (h : TBox w q p t) (hd : t.dead ≠ 0) :
    Calls Tryd.prog 19 #[.pointer (some ⟨q, 0, none⟩)] w fun x w' => x = .returned (er t.dead) ∧ w = w' := by
  obtain ⟨-, -, -, -, -, c5, -⟩ := h.cells
  rw [er_ne hd] at c5 ⊢
  clear h hd
  go_enter Tryd.func19, Tryd.ntmps19
  go_wp2
  go_ret
  exact ⟨rfl, rfl⟩
end

end Go.Proofs.YthcikgbnenfjpaaDoor.pk
