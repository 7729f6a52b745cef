/-
  The program's own pieces: which sizes may be, what a box has under a key, a copy of bytes.
-/
import Derived.Test.YtfdccdjfbdmblaaConK
namespace Go.Proofs.Ytfdccdjfbdmblaa.pk
open Go Go.RowKit
set_option maxRecDepth 100000

theorem kret_bool {a b : Bool} (h : a = b) : Ending.returned (.bool a) = Ending.returned (.bool b) := by rw [h]
theorem kobj_lt {w : World} {b : Nat} {o : Obj} (h : w.heap[b]? = some o) : b < w.heap.size := by
  rcases Nat.lt_or_ge b w.heap.size with hlt | hge
  · exact hlt
  · rw [Array.getElem?_eq_none hge] at h; cases h
theorem kcells2 {w : World} {b t : Nat} {v0 v1 : Value} (h : w.heap[b]? = some (.cells #[v0, v1] t (0, 0))) : w.cell? ⟨b, 0, none⟩ = some v0 ∧ w.cell? ⟨b, 1, none⟩ = some v1 := by
  refine ⟨?_, ?_⟩
  all_goals
    rw [cell_of_row w b _ _ _ (0, 0) h]
    rfl
theorem kone_box (w : World) (a : Obj) : ∃ W g, W = w.alloc a ∧ g = w.heap.size ∧ Below w.heap.size w W ∧ W.heap[g]? = some a ∧ W.heap.size = g + 1 := ⟨_, _, rfl, rfl, below_alloc _ _, heap_alloc_new w _, World.size_alloc _ _⟩
theorem ktwo_box (w : World) (a b : Obj) : ∃ W g0 g1, W = (w.alloc a).alloc b ∧ g0 = w.heap.size ∧ g1 = g0 + 1 ∧ Below w.heap.size w W ∧ W.heap[g0]? = some a ∧ W.heap[g1]? = some b ∧ W.heap.size = g1 + 1 := by
  refine ⟨_, _, _, rfl, rfl, rfl, (below_alloc _ _).trans ((below_alloc _ _).mono (by rw [World.size_alloc]; omega)), (heap_alloc_old _ _ (by rw [World.size_alloc]; omega)).trans (heap_alloc_new w _), ?_, by simp only [World.size_alloc]⟩
  have := heap_alloc_new (w.alloc a) b
  rw [World.size_alloc] at this
  exact this

def szK (n : Int) : Bool := decide (1 ≤ n ∧ n ≤ 1048576)
theorem szK_true {n : Int} : szK n = true ↔ 1 ≤ n ∧ n ≤ 1048576 := by unfold szK; exact decide_eq_true_iff
theorem szK_false {n : Int} : szK n = false ↔ ¬ (1 ≤ n ∧ n ≤ 1048576) := by unfold szK; exact decide_eq_false_iff_not
theorem sizeMay_any (n : Int) (w : World) (b : Bool) (hb : b = szK n) : Calls Try.prog 15 #[.int .i64 n] w fun y w' => y = .returned (.bool b) ∧ w = w' := by
  have HB := Lib.hid hb
  clear hb
  have hc : ¬ 1 ≤ n ∨ (1 ≤ n ∧ ¬ n ≤ 1048576) ∨ (1 ≤ n ∧ n ≤ 1048576) := by omega
  rcases hc with h1 | ⟨h1, h2⟩ | ⟨h1, h2⟩
  all_goals
    go_enter Try.func15, Try.ntmps15
    go_wp2_with fail
    go_ret
    exact ⟨kret_bool (by rw [HB.out]; first | exact (szK_true.2 (by omega)).symm | exact (szK_false.2 (by omega)).symm), rfl⟩

theorem under_same (key : Int) (A : Option Addr) (m c : Nat) (w : World) :
    Calls Try.prog 12 #[.agg #[.int .i64 key, .slice A m c], .int .i64 key] w fun y w' => y = .returned (.slice A m c) ∧ Below w.heap.size w w' := by
  obtain ⟨W1, g, hW1, hg, hb1, hq, hsz⟩ := kone_box w (.cells #[.int .i64 key, .slice A m c] 25)
  have HW := Lib.hid (And.intro hW1 hg)
  have HE := Lib.hid (And.intro hb1 (And.intro hq hsz))
  obtain ⟨x0, x1⟩ := kcells2 hq
  clear hW1 hg hb1 hq hsz
  go_enter Try.func12, Try.ntmps12
  go_upto_region 1 with fail
  rw [← HW.out.1, ← HW.out.2]
  go_wp2_with fail
  go_ret
  exact ⟨rfl, HE.out.1⟩
theorem under_other (key0 key : Int) (A : Option Addr) (m c : Nat) (w : World) (h : ¬ key = key0) :
    Calls Try.prog 12 #[.agg #[.int .i64 key0, .slice A m c], .int .i64 key] w fun y w' => y = .returned (.slice none 0 0) ∧ Below w.heap.size w w' := by
  obtain ⟨W1, g, hW1, hg, hb1, hq, hsz⟩ := kone_box w (.cells #[.int .i64 key0, .slice A m c] 25)
  have HW := Lib.hid (And.intro hW1 hg)
  have HE := Lib.hid (And.intro hb1 (And.intro hq hsz))
  obtain ⟨x0, x1⟩ := kcells2 hq
  clear hW1 hg hb1 hq hsz
  go_enter Try.func12, Try.ntmps12
  go_upto_region 1 with fail
  rw [← HW.out.1, ← HW.out.2]
  go_wp2_with fail
  go_ret
  exact ⟨rfl, HE.out.1⟩

/-- bytes.Clone. -/
theorem CloneK (w : World) (A : Option Addr) (n c : Nat) (bs : List UInt8) (h : Bys w (.slice A n c) bs) (hb : n ≤ 1000000000) :
    Calls Try.prog 13 #[.slice A n c] w fun x w' => ∃ A1 c1, x = .returned (.slice A1 n c1) ∧ SlT w' (fun q => w.heap.size ≤ q ∧ q < w'.heap.size) (.slice A1 n c1) bs ∧ Below w.heap.size w w' := by
  obtain ⟨i0, hi, hz0, hz1, hz2⟩ := info_three info_byte
  have hn := h.len_
  have HN := Lib.hid (And.intro hn hb)
  rcases A with _ | a
  · have hb0 : bs = [] := by
      obtain ⟨A', c', hv, _, _, h3⟩ := h
      rcases h3 with h3 | ⟨b, off, hA, _⟩
      · exact h3
      · injection hv with e1 _ _; rw [hA] at e1; cases e1
    subst hb0
    simp at hn
    subst hn
    have hq := fun (w : World) (n' c' : Nat) => Lib.run_eql_slice_nil (P := Try.prog) w 23 5 none 0 c n' c' Try.underlying23
    clear h hi hz0 hz1 hz2
    go_enter Try.func13, Try.ntmps13
    go_wp2
    go_ret
    exact ⟨none, 0, rfl, SlT.nil_ _ _, Below.refl _ _⟩
  · have hq := fun (w : World) (n' c' : Nat) => Lib.run_eql_slice_nil (P := Try.prog) w 23 5 (some a) n c n' c' Try.underlying23
    have H := Lib.hid h
    clear h hn
    go_enter Try.func13, Try.ntmps13
    go_wp2_with (at_builtin; go_must (refine wpList_joinB (xs := []) (B := w.heap.size) (World.ownsRow_made w #[] 0 (Nat.le_refl _) (by simp [maxLen]) rfl) rfl _ _ rfl rfl (some a) n c rfl bs (H.out.below (below_alloc w _)) ?c1 ?c2 ?c3))
    case c1 => have := HN.out.2; simp; omega
    case c2 => rw [World.size_alloc]; omega
    case c3 =>
      intro v' w2 ho hg
      try rw [List.nil_append] at ho
      have hb2 := ((Below.refl w.heap.size w).alloc (Nat.le_refl _) (.cells #[] 5)).grown hg (by rw [World.size_alloc]; omega) (fun k hk => by injection hk with hk; rw [← hk]; exact Nat.le_refl _)
      have hI : SlT w2 (fun q => w.heap.size ≤ q ∧ q < w2.heap.size) v' bs := SlT.of_own ho _ fun q hq => ho.lt q hq
      obtain ⟨Ax, cx, hv, -, -⟩ := (Bys.of_own ho).form
      rw [← HN.out.1] at hv
      subst hv
      have HF := Lib.hid (And.intro hI hb2)
      clear ho hg hb2 hI
      go_wp2_with fail
      go_ret
      exact ⟨Ax, cx, rfl, HF.out.1, HF.out.2⟩

end Go.Proofs.Ytfdccdjfbdmblaa.pk
