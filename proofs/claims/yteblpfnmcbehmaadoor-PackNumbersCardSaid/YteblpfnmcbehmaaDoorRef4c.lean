/-
  The document's own reader: taking an int off.
-/
import Derived.Test.YteblpfnmcbehmaaDoorRef4
namespace Go.Proofs.YteblpfnmcbehmaaDoor.pk
open Go Go.RowKit
set_option maxRecDepth 100000

set_option maxHeartbeats 2000000 in
theorem ReadInt_minus_err (A : Option Addr) (n c : Nat) (r : List UInt8) (k m : Nat) (rest : List UInt8) (w : World) {B : Nat} (hB : B ≤ w.heap.size) (h : Sl w B (.slice A n c) (105 :: 45 :: r))
    (hr : scan 59 [] r = (k, m, rest)) (k2 : Nat) (hk : (k ≠ 0 ∧ k2 = k) ∨ (k = 0 ∧ 9223372036854775808 < m ∧ k2 = 4) ∨ (k = 0 ∧ m = 0 ∧ k2 = 3)) :
    Calls Tryd.prog 17 #[.agg #[.slice A n c, .int .i64 0]] w fun x w' => x = .returned (.tuple #[.agg #[.slice A n c, .int .i64 (k2 : Int)], .int .i64 0]) ∧ Below w.heap.size w w' := by
  obtain ⟨w0, hw0⟩ : ∃ w0, w0 = (w.alloc (Obj.cells #[Value.slice A n c, Value.int IntKind.i64 0] 36)).alloc (Obj.cells #[Value.slice none 0 0, Value.int IntKind.i64 0] 36) := ⟨_, rfl⟩
  have hb0 : Below w.heap.size w w0 := by rw [hw0]; exact ((Below.refl _ _).alloc (Nat.le_refl _) _).alloc (by simp) _
  have hX : RB w0 w.heap.size (.slice A n c) (.int .i64 0) := by rw [hw0]; exact heap_alloc2_old _ _ _
  have hY : RB w0 (w.heap.size + 1) (.slice none 0 0) (.int .i64 0) := by rw [hw0]; exact heap_alloc2_new _ _ _
  have H := Lib.hid (head_any A n c 0 105 (105 :: 45 :: r) w0 (Nat.le_trans hB hb0.size) (h.below (hb0.mono hB)))
  rw [if_pos rfl, show headK 105 (105 :: 45 :: r) = 0 from rfl] at H
  have HS := Lib.hid h
  clear h
  go_enter Tryd.func17, Tryd.ntmps17
  go_wp2_with fail
  rw [← hw0]
  refine H.out.mono ?_
  rintro x w1 ⟨rfl, hb1⟩
  have hX1 := hX.below hb1
  have hY1 := hY.below hb1
  obtain ⟨x0, x1, xf0, xf1⟩ := hX1.facts
  have hB1 : Below w.heap.size w w1 := hb0.trans (hb1.mono hb0.size)
  have hY2 := Lib.hid (hY1.other (k := w.heap.size) (by omega) (.slice A n c) (.int .i64 0))
  have HB2 := Lib.hid (((hB1.setCell (p := ⟨w.heap.size, 0, none⟩) (Nat.le_refl _) (.slice A n c)).setCell (p := ⟨w.heap.size, 1, none⟩) (Nat.le_refl _) (.int .i64 0)))
  have HS2 := Lib.hid (HS.out.below (HB2.out.mono hB))
  have HS1 := Lib.hid (HS.out.below (hB1.mono hB))
  have HR := Lib.hid hr
  obtain ⟨hl1, hl2, hl3⟩ := HS.out.len
  have HL := Lib.hid hl1
  have i2 : (n : Int) ≤ (c : Int) := by omega
  clear hw0 hb0 hX hY hb1 hX1 hY1 hB1 hr H
  obtain ⟨b, off, rfl, hbB, hl, hc2, hcell⟩ := HS1.out.second
  replace hcell : w1.cell? ⟨b, off + 1, none⟩ = some (.int .u8 45) := hcell
  have hbw : b < w.heap.size := by omega
  have i3 : (2 : Int) ≤ (n : Int) := by omega
  clear hl1 hl hc2
  rcases hk with ⟨hk, rfl⟩ | ⟨rfl, hm, rfl⟩ | ⟨rfl, rfl, rfl⟩
  · have hz : ((k2 : Int) != 0) = true := by simp; omega
    have hz' : ((k2 : Int) == 0) = false := by simp; omega
    have HK := Lib.hid hk
    clear hk
    go_wp2_with (first
      | (go_at_call 39; refine (digits_any (some ⟨b, off, none⟩) n c 2 59 (105 :: 45 :: r) _ HS2.out (by simp) (by decide) k2 m rest (by exact HR.out)).mono ?_; rintro x w2 ⟨en, rfl, hen, rfl⟩; clear hen)
      | (go_at_call 40; refine (fail_any _ _ _ 0 k2 _).mono ?_; rw [if_pos rfl]; rintro x w3 ⟨rfl, hb3⟩; obtain ⟨y0, y1, yf0, yf1⟩ := (hY2.out.below hb3).facts; have HB3 := Lib.hid (HB2.out.trans (hb3.mono HB2.out.size)); clear hb3))
    exact bodyPost_ret (v := .tuple #[.agg #[.slice (some ⟨b, off, none⟩) n c, .int .i64 (k2 : Int)], .int .i64 0]) (by simp [results, Tryd.results17, go_sem, y0, y1]) rfl ⟨rfl, (HB3.out.setCell (by simp) _).setCell (by simp) _⟩
  · have hi : (9223372036854775808 : Int) < (m : Int) := by omega
    have hm0 : ((m : Int) == 0) = false := by simp; omega
    clear hm
    go_wp2_with (first
      | (go_at_call 39; refine (digits_any (some ⟨b, off, none⟩) n c 2 59 (105 :: 45 :: r) _ HS2.out (by simp) (by decide) 0 m rest (by exact HR.out)).mono ?_; rintro x w2 ⟨en, rfl, hen, rfl⟩; clear hen)
      | (go_at_call 40; refine (fail_any _ _ _ 0 4 _).mono ?_; rw [if_pos rfl]; rintro x w3 ⟨rfl, hb3⟩; obtain ⟨y0, y1, yf0, yf1⟩ := (hY2.out.below hb3).facts; have HB3 := Lib.hid (HB2.out.trans (hb3.mono HB2.out.size)); clear hb3))
    exact bodyPost_ret (v := .tuple #[.agg #[.slice (some ⟨b, off, none⟩) n c, .int .i64 4], .int .i64 0]) (by simp [results, Tryd.results17, go_sem, y0, y1]) rfl ⟨rfl, (HB3.out.setCell (by simp) _).setCell (by simp) _⟩
  · go_wp2_with (first
      | (go_at_call 39; refine (digits_any (some ⟨b, off, none⟩) n c 2 59 (105 :: 45 :: r) _ HS2.out (by simp) (by decide) 0 0 rest (by exact HR.out)).mono ?_; rintro x w2 ⟨en, rfl, hen, rfl⟩; clear hen)
      | (go_at_call 40; refine (fail_any _ _ _ 0 3 _).mono ?_; rw [if_pos rfl]; rintro x w3 ⟨rfl, hb3⟩; obtain ⟨y0, y1, yf0, yf1⟩ := (hY2.out.below hb3).facts; have HB3 := Lib.hid (HB2.out.trans (hb3.mono HB2.out.size)); clear hb3))
    exact bodyPost_ret (v := .tuple #[.agg #[.slice (some ⟨b, off, none⟩) n c, .int .i64 3], .int .i64 0]) (by simp [results, Tryd.results17, go_sem, y0, y1]) rfl ⟨rfl, (HB3.out.setCell (by simp) _).setCell (by simp) _⟩

end Go.Proofs.YteblpfnmcbehmaaDoor.pk
