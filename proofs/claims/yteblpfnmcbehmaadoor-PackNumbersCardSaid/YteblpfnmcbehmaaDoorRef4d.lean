/-
  The document's own reader: taking an int off.
-/
import Derived.Test.YteblpfnmcbehmaaDoorRef4
namespace Go.Proofs.YteblpfnmcbehmaaDoor.pk
open Go Go.RowKit
set_option maxRecDepth 100000

set_option maxHeartbeats 2000000 in
theorem ReadInt_minus_ok (A : Option Addr) (n c : Nat) (r : List UInt8) (m : Nat) (rest : List UInt8) (w : World) {B : Nat} (hB : B ≤ w.heap.size) (h : Sl w B (.slice A n c) (105 :: 45 :: r))
    (hr : scan 59 [] r = (0, m, rest)) (hm0 : 1 ≤ m) (hm : m ≤ 9223372036854775808) :
    Calls Tryd.prog 17 #[.agg #[.slice A n c, .int .i64 0]] w fun x w' => ∃ A' c', x = .returned (.tuple #[.agg #[.slice A' rest.length c', .int .i64 0], .int .i64 (-(m : Int))]) ∧ Sl w' B (.slice A' rest.length c') rest ∧ Below w.heap.size w w' := by
  obtain ⟨w0, hw0⟩ : ∃ w0, w0 = (w.alloc (Obj.cells #[Value.slice A n c, Value.int IntKind.i64 0] 36)).alloc (Obj.cells #[Value.slice none 0 0, Value.int IntKind.i64 0] 36) := ⟨_, rfl⟩
  have hb0 : Below w.heap.size w w0 := by rw [hw0]; exact ((Below.refl _ _).alloc (Nat.le_refl _) _).alloc (by simp) _
  have hX : RB w0 w.heap.size (.slice A n c) (.int .i64 0) := by rw [hw0]; exact heap_alloc2_old _ _ _
  have hY : RB w0 (w.heap.size + 1) (.slice none 0 0) (.int .i64 0) := by rw [hw0]; exact heap_alloc2_new _ _ _
  have H := Lib.hid (head_any A n c 0 105 (105 :: 45 :: r) w0 (Nat.le_trans hB hb0.size) (h.below (hb0.mono hB)))
  rw [if_pos rfl, show headK 105 (105 :: 45 :: r) = 0 from rfl] at H
  have HS := Lib.hid h
  clear h
  go_enter Tryd.func17, Tryd.ntmps17
  go_wp2_with fail
  rw [← hw0]
  refine H.out.mono ?_
  rintro x w1 ⟨rfl, hb1⟩
  have hX1 := hX.below hb1
  have hY1 := hY.below hb1
  obtain ⟨x0, x1, xf0, xf1⟩ := hX1.facts
  obtain ⟨y0, y1, yf0, yf1⟩ := hY1.facts
  have hB1 : Below w.heap.size w w1 := hb0.trans (hb1.mono hb0.size)
  have hY2 := Lib.hid (hY1.other (k := w.heap.size) (by omega) (.slice A n c) (.int .i64 0))
  have HB2 := Lib.hid (((hB1.setCell (p := ⟨w.heap.size, 0, none⟩) (Nat.le_refl _) (.slice A n c)).setCell (p := ⟨w.heap.size, 1, none⟩) (Nat.le_refl _) (.int .i64 0)))
  have HS2 := Lib.hid (HS.out.below (HB2.out.mono hB))
  have HS1 := Lib.hid (HS.out.below (hB1.mono hB))
  have HR := Lib.hid hr
  obtain ⟨hl1, hl2, hl3⟩ := HS.out.len
  have HL := Lib.hid hl1
  have i2 : (n : Int) ≤ (c : Int) := by omega
  clear hw0 hb0 hX hY hb1 hX1 hY1 hB1 hr H
  obtain ⟨b, off, rfl, hbB, hl, hc2, hcell⟩ := HS1.out.second
  replace hcell : w1.cell? ⟨b, off + 1, none⟩ = some (.int .u8 45) := hcell
  have hbw : b < w.heap.size := by omega
  have i3 : (2 : Int) ≤ (n : Int) := by omega
  clear hl1 hl hc2
  have hi : (m : Int) ≤ 9223372036854775808 := by omega
  have hi1 : (1 : Int) ≤ (m : Int) := by omega
  have hz : ((m : Int) == 0) = false := by simp; omega
  have hval : -((m : Int) - 1) - 1 = -(m : Int) := by omega
  clear hm hm0
  go_wp2_with (first
      | (go_at_call 39; refine (digits_any (some ⟨b, off, none⟩) n c 2 59 (105 :: 45 :: r) _ HS2.out (by simp) (by decide) 0 m rest (by exact HR.out)).mono ?_; rintro x w2 ⟨en, rfl, hen, rfl⟩; have hen1 := (hen rfl).1; have HEN := Lib.hid (hen rfl).2; have i1 : (en : Int) ≤ (n : Int) := (by have h0 := HL.out; omega); clear hen))
  all_goals first
    | (have hne : ¬ c = en := by omega
       obtain ⟨hS, hl⟩ := cut_more HS.out hen1 HEN.out hne
       have e0 : (some (⟨b, off, none⟩ : Addr)).map (fun x => x.add en) = some ⟨b, off + en, none⟩ := by simp [Addr.add]
       rw [e0] at hS
       rw [hl]
       have hBf := Lib.hid (((HB2.out.setCell (p := ⟨w.heap.size, 0, none⟩) (Nat.le_refl _) (.slice (some ⟨b, off + en, none⟩) rest.length (c - en))).setCell (p := ⟨w.heap.size + 1, 0, none⟩) (by simp) (.slice (some ⟨b, off + en, none⟩) rest.length (c - en))).setCell (p := ⟨w.heap.size + 1, 1, none⟩) (by simp) (.int .i64 0))
       exact bodyPost_ret (v := .tuple #[.agg #[.slice (some ⟨b, off + en, none⟩) rest.length (c - en), .int .i64 0], .int .i64 (-(m : Int))]) (by simp [results, Tryd.results17, go_sem, y0, y1]) rfl ⟨_, _, rfl, Sl.below hS (hBf.out.mono hB), hBf.out⟩)
    | (have hce : c = en := by omega
       subst hce
       obtain ⟨hS, hl⟩ := cut_all HS.out hen1 HEN.out
       rw [hl]
       have hBf := Lib.hid (((HB2.out.setCell (p := ⟨w.heap.size, 0, none⟩) (Nat.le_refl _) (.slice (some ⟨b, off, none⟩) rest.length 0)).setCell (p := ⟨w.heap.size + 1, 0, none⟩) (by simp) (.slice (some ⟨b, off, none⟩) rest.length 0)).setCell (p := ⟨w.heap.size + 1, 1, none⟩) (by simp) (.int .i64 0))
       exact bodyPost_ret (v := .tuple #[.agg #[.slice (some ⟨b, off, none⟩) rest.length 0, .int .i64 0], .int .i64 (-(m : Int))]) (by simp [results, Tryd.results17, go_sem, y0, y1]) rfl ⟨_, _, rfl, Sl.below hS (hBf.out.mono hB), hBf.out⟩)

end Go.Proofs.YteblpfnmcbehmaaDoor.pk
