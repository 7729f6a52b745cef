/-
  The law's own 'own': numbers of their own.
-/
import Derived.Test.YthcikgbnenfjpaaDoorAppR
import Derived.Test.YthcikgbnenfjpaaDoorLit
namespace Go.Proofs.YthcikgbnenfjpaaDoor.pk
open Go Go.RowKit
set_option maxRecDepth 100000

/-- An int's row of the table of types. -/
theorem info_int : (Tryd.prog.info? 3).map (fun i => (i.zero, i.size, i.bytes)) = some (some (.int .i64 0), 1, 8) := by kernel_rfl

theorem own_any (A : Option Addr) (n c : Nat) (zs : List Int) (w : World) (T : Nat → Prop) (h : IntsT w T (.slice A n c) zs) (hl : zs.length * 8 ≤ 140737488355328) :
    Calls Tryd.prog 25 #[.slice A n c] w fun x w' => ∃ A' c', x = .returned (.slice A' zs.length c') ∧ IntsT w' (fun k => w.heap.size ≤ k ∧ k < w'.heap.size) (.slice A' zs.length c') zs ∧ Below w.heap.size w w' := by
  obtain ⟨i0, hi, hz0, hz1, hz2⟩ := info_parts info_int
  obtain ⟨A1, c1, hv, _, _⟩ := h.form
  injection hv with e1 e2 e3
  subst e2
  have H := Lib.hid h
  have HL := Lib.hid hl
  clear h hl
  go_enter Tryd.func25, Tryd.ntmps25
  go_wp2_with (at_builtin; refine wpList_append_row rfl _ _ 51 rfl w.heap.size 3 i0 _ 1 8 Tryd.underlying51 hi hz0 hz1 hz2 rfl (by decide) (.slice none 0 0) 0 [] rfl (World.ownsRow_nil _ _ _ _) T A _ c (zs.map (Value.int .i64)) rfl H.out (by intro u hu; obtain ⟨z, _, rfl⟩ := List.mem_map.1 hu; rfl) (by have := HL.out; unfold maxLen; omega) (by have := HL.out; omega) (Nat.le_refl _) ?_; intro v1 w1 hown1 hg1; have HO1 := Lib.hid hown1; have HB1 := Lib.hid ((Below.refl w.heap.size w).grown hg1 (Nat.le_refl _) (fun k hk => by cases hk)); clear hown1 hg1)
  go_ret
  have ho := HO1.out
  rw [Nat.zero_add, List.nil_append] at ho
  have hr := RowT.of_own ho (fun k => w.heap.size ≤ k ∧ k < w1.heap.size) (fun g hg => ho.lt g hg)
  obtain ⟨A2, c2, rfl, _, _⟩ := hr.form
  exact ⟨_, _, rfl, hr, HB1.out⟩

end Go.Proofs.YthcikgbnenfjpaaDoor.pk
