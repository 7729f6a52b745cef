/-
  The document's own reader: a value of what is left and the first error; what its calls answer is what the plain functions on lists give.
-/
import Derived.Test.YteblpfnmcbehmaaDoorRef
import Derived.Laws.ResultCell
import Derived.Laws.Rows
import Derived.Laws.NewBlocks
import Derived.Laws.NewDeep
namespace Go.Proofs.YteblpfnmcbehmaaDoor.pk
open Go Go.RowKit
set_option maxRecDepth 100000

theorem fail_any (A : Option Addr) (n c k e : Nat) (w : World) :
    Calls Tryd.prog 40 #[.agg #[.slice A n c, .int .i64 (k : Int)], .int .i64 (e : Int)] w fun x w' => x = .returned (.agg #[.slice A n c, .int .i64 ((if k = 0 then e else k : Nat) : Int)]) ∧ Below w.heap.size w w' := by
  by_cases hk : k = 0
  · subst hk
    rw [if_pos rfl]
    go_enter Tryd.func40, Tryd.ntmps40
    go_wp2
    exact bodyPost_ret (v := .agg #[.slice A n c, .int .i64 (e : Int)]) (by simp [results, Tryd.results40, go_sem]) rfl ⟨rfl, ((Below.refl _ _).alloc (Nat.le_refl _) _).alloc (by simp) _⟩
  · have hz : ((k : Int) == 0) = false := by simp; omega
    rw [if_neg hk]
    go_enter Tryd.func40, Tryd.ntmps40
    go_wp2
    exact bodyPost_ret (v := .agg #[.slice A n c, .int .i64 (k : Int)]) (by simp [results, Tryd.results40, go_sem]) rfl ⟨rfl, ((Below.refl _ _).alloc (Nat.le_refl _) _).alloc (by simp) _⟩

/-- What comes next has a letter, or the error. -/
def headK (l : UInt8) (bs : List UInt8) : Nat := match bs with
  | [] => 12
  | c :: _ => if c = l then 0 else 3

/-- Two cells of a block of one's own behind a call. -/
theorem own2 {w0 w' : World} {g : Nat} {x y : Value} {t : TypeId} (hg : w0.heap[g]? = some (.cells #[x, y] t (0, 0))) (hb : Below w0.heap.size w0 w') :
    w'.cell? ⟨g, 0, none⟩ = some x ∧ w'.cell? ⟨g, 1, none⟩ = some y ∧ w'.frozen? ⟨g, 0, none⟩ = false ∧ w'.frozen? ⟨g, 1, none⟩ = false := by
  have hlt : g < w0.heap.size := by
    rcases Nat.lt_or_ge g w0.heap.size with h | h
    · exact h
    · rw [Array.getElem?_eq_none h] at hg; cases hg
  have h := (hb.block g hlt).trans hg
  exact ⟨by rw [cell_of_row w' g 0 _ _ _ h]; rfl, by rw [cell_of_row w' g 1 _ _ _ h]; rfl, frozen_of_row w' g 0 _ _ h, frozen_of_row w' g 1 _ _ h⟩

theorem head_ok (A : Option Addr) (n c : Nat) (l : UInt8) (r : List UInt8) (w : World) {B : Nat} (hB : B ≤ w.heap.size) (h : Sl w B (.slice A n c) (l :: r)) :
    Calls Tryd.prog 38 #[.agg #[.slice A n c, .int .i64 0], .int .u8 (l.toNat : Int)] w fun x w' => x = .returned (.agg #[.slice A n c, .int .i64 0]) ∧ Below w.heap.size w w' := by
  obtain ⟨b, off, rfl, hb, rfl, hn, hc, hcell⟩ := h.head
  have hb' : b < w.heap.size := by omega
  have i0 : ((r.length : Int) + 1 == 0) = false := by simp; omega
  have i1 : (1 : Int) ≤ (r.length : Int) + 1 := by omega
  clear h
  go_enter Tryd.func38, Tryd.ntmps38
  go_wp2
  exact bodyPost_ret (v := .agg #[.slice (some ⟨b, off, none⟩) (r.length + 1) c, .int .i64 0]) (by simp [results, Tryd.results38, go_sem]) rfl ⟨rfl, ((Below.refl _ _).alloc (Nat.le_refl _) _).alloc (by simp) _⟩
theorem head_form (A : Option Addr) (n c : Nat) (l d : UInt8) (r : List UInt8) (w : World) {B : Nat} (hB : B ≤ w.heap.size) (h : Sl w B (.slice A n c) (d :: r)) (hd : d ≠ l) :
    Calls Tryd.prog 38 #[.agg #[.slice A n c, .int .i64 0], .int .u8 (l.toNat : Int)] w fun x w' => x = .returned (.agg #[.slice A n c, .int .i64 3]) ∧ Below w.heap.size w w' := by
  obtain ⟨b, off, rfl, hb, rfl, hn, hc, hcell⟩ := h.head
  have hb' : b < w.heap.size := by omega
  have i0 : ((r.length : Int) + 1 == 0) = false := by simp; omega
  have i1 : (1 : Int) ≤ (r.length : Int) + 1 := by omega
  have hx : (d.toNat : Int) ≠ (l.toNat : Int) := fun e => hd (UInt8.toNat_inj.1 (by omega))
  have hy : ((d.toNat : Int) != (l.toNat : Int)) = true := by simpa using hx
  clear h hd
  obtain ⟨w0, hw0⟩ : ∃ w0, w0 = (w.alloc (Obj.cells #[Value.slice (some ⟨b, off, none⟩) (r.length + 1) c, Value.int IntKind.i64 0] 36)).alloc (Obj.cells #[Value.slice none 0 0, Value.int IntKind.i64 0] 36) := ⟨_, rfl⟩
  have hb0 : Below w.heap.size w w0 := by rw [hw0]; exact ((Below.refl _ _).alloc (Nat.le_refl _) _).alloc (by simp) _
  have hg0 : w0.heap[w.heap.size + 1]? = some (.cells #[.slice none 0 0, .int .i64 0] 36 (0, 0)) := by rw [hw0]; exact heap_alloc2_new _ _ _
  have HW := Lib.hid hw0
  go_enter Tryd.func38, Tryd.ntmps38
  go_wp2_with fail
  rw [← hw0]
  refine (fail_any _ _ _ 0 3 w0).mono ?_
  rintro x w1 ⟨rfl, hb1⟩
  obtain ⟨c0, c1, f0, f1⟩ := own2 hg0 hb1
  have HB1 := Lib.hid (hb0.trans (hb1.mono hb0.size))
  clear hw0 hb0 hg0 hb1
  go_wp2
  exact bodyPost_ret (v := .agg #[.slice (some ⟨b, off, none⟩) (r.length + 1) c, .int .i64 3]) (by simp [results, Tryd.results38, go_sem, c0, c1]) rfl ⟨rfl, (HB1.out.setCell (by simp) _).setCell (by simp) _⟩
theorem head_end (A : Option Addr) (c : Nat) (l : UInt8) (w : World) :
    Calls Tryd.prog 38 #[.agg #[.slice A 0 c, .int .i64 0], .int .u8 (l.toNat : Int)] w fun x w' => x = .returned (.agg #[.slice A 0 c, .int .i64 12]) ∧ Below w.heap.size w w' := by
  obtain ⟨w0, hw0⟩ : ∃ w0, w0 = (w.alloc (Obj.cells #[Value.slice A 0 c, Value.int IntKind.i64 0] 36)).alloc (Obj.cells #[Value.slice none 0 0, Value.int IntKind.i64 0] 36) := ⟨_, rfl⟩
  have hb0 : Below w.heap.size w w0 := by rw [hw0]; exact ((Below.refl _ _).alloc (Nat.le_refl _) _).alloc (by simp) _
  have hg0 : w0.heap[w.heap.size + 1]? = some (.cells #[.slice none 0 0, .int .i64 0] 36 (0, 0)) := by rw [hw0]; exact heap_alloc2_new _ _ _
  have HW := Lib.hid hw0
  go_enter Tryd.func38, Tryd.ntmps38
  go_wp2_with fail
  rw [← hw0]
  refine (fail_any _ _ _ 0 12 w0).mono ?_
  rintro x w1 ⟨rfl, hb1⟩
  obtain ⟨c0, c1, f0, f1⟩ := own2 hg0 hb1
  have HB1 := Lib.hid (hb0.trans (hb1.mono hb0.size))
  clear hw0 hb0 hg0 hb1
  go_wp2
  exact bodyPost_ret (v := .agg #[.slice A 0 c, .int .i64 12]) (by simp [results, Tryd.results38, go_sem, c0, c1]) rfl ⟨rfl, (HB1.out.setCell (by simp) _).setCell (by simp) _⟩
theorem head_stop (A : Option Addr) (n c k : Nat) (l : UInt8) (w : World) (hk : k ≠ 0) :
    Calls Tryd.prog 38 #[.agg #[.slice A n c, .int .i64 (k : Int)], .int .u8 (l.toNat : Int)] w fun x w' => x = .returned (.agg #[.slice A n c, .int .i64 (k : Int)]) ∧ Below w.heap.size w w' := by
  have hz : ((k : Int) != 0) = true := by simp; omega
  go_enter Tryd.func38, Tryd.ntmps38
  go_wp2
  exact bodyPost_ret (v := .agg #[.slice A n c, .int .i64 (k : Int)]) (by simp [results, Tryd.results38, go_sem]) rfl ⟨rfl, ((Below.refl _ _).alloc (Nat.le_refl _) _).alloc (by simp) _⟩

theorem head_any (A : Option Addr) (n c k : Nat) (l : UInt8) (bs : List UInt8) (w : World) {B : Nat} (hB : B ≤ w.heap.size) (h : Sl w B (.slice A n c) bs) :
    Calls Tryd.prog 38 #[.agg #[.slice A n c, .int .i64 (k : Int)], .int .u8 (l.toNat : Int)] w fun x w' => x = .returned (.agg #[.slice A n c, .int .i64 ((if k = 0 then headK l bs else k : Nat) : Int)]) ∧ Below w.heap.size w w' := by
  by_cases hk : k = 0
  · subst hk
    rw [if_pos rfl]
    cases bs with
    | nil =>
      obtain ⟨rfl, _⟩ := h.len
      exact head_end A c l w
    | cons d r =>
      by_cases hd : d = l
      · subst hd
        have := head_ok A n c d r w hB h
        simpa [headK] using this
      · have := head_form A n c l d r w hB h hd
        simpa [headK, hd] using this
  · rw [if_neg hk]
    exact head_stop A n c k l w hk

theorem RefDone_any (A : Option Addr) (n c k : Nat) (w : World) :
    Calls Tryd.prog 21 #[.agg #[.slice A n c, .int .i64 (k : Int)]] w fun x w' => x = .returned (.int .i64 ((if k = 0 then (if n = 0 then 0 else 3) else k : Nat) : Int)) ∧ Below w.heap.size w w' := by
  by_cases hk : k = 0
  · subst hk
    rw [if_pos rfl]
    by_cases hn : n = 0
    · subst hn
      go_enter Tryd.func21, Tryd.ntmps21
      go_wp2
      go_ret
      exact ⟨rfl, (Below.refl _ _).alloc (Nat.le_refl _) _⟩
    · rw [if_neg hn]
      have hn' : (0 : Int) < (n : Int) := by omega
      go_enter Tryd.func21, Tryd.ntmps21
      go_wp2
      go_ret
      exact ⟨rfl, (Below.refl _ _).alloc (Nat.le_refl _) _⟩
  · rw [if_neg hk]
    have hz : ((k : Int) == 0) = false := by simp; omega
    go_enter Tryd.func21, Tryd.ntmps21
    go_wp2
    go_ret
    exact ⟨rfl, (Below.refl _ _).alloc (Nat.le_refl _) _⟩

end Go.Proofs.YteblpfnmcbehmaaDoor.pk
