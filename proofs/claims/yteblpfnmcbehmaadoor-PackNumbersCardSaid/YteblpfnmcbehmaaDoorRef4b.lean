/-
  The document's own reader: taking an int off.
-/
import Derived.Test.YteblpfnmcbehmaaDoorRef4
namespace Go.Proofs.YteblpfnmcbehmaaDoor.pk
open Go Go.RowKit
set_option maxRecDepth 100000

set_option maxHeartbeats 2000000 in
theorem ReadInt_plus_ok (A : Option Addr) (n c : Nat) (r : List UInt8) (m : Nat) (rest : List UInt8) (w : World) {B : Nat} (hB : B ≤ w.heap.size) (h : Sl w B (.slice A n c) (105 :: r)) (hplus : ¬ r.head? = some 45)
    (hr : scan 59 [] r = (0, m, rest)) (hm : m ≤ 9223372036854775807) :
    Calls Tryd.prog 17 #[.agg #[.slice A n c, .int .i64 0]] w fun x w' => ∃ A' c', x = .returned (.tuple #[.agg #[.slice A' rest.length c', .int .i64 0], .int .i64 (m : Int)]) ∧ Sl w' B (.slice A' rest.length c') rest ∧ Below w.heap.size w w' := by
  obtain ⟨w0, hw0⟩ : ∃ w0, w0 = (w.alloc (Obj.cells #[Value.slice A n c, Value.int IntKind.i64 0] 36)).alloc (Obj.cells #[Value.slice none 0 0, Value.int IntKind.i64 0] 36) := ⟨_, rfl⟩
  have hb0 : Below w.heap.size w w0 := by rw [hw0]; exact ((Below.refl _ _).alloc (Nat.le_refl _) _).alloc (by simp) _
  have hX : RB w0 w.heap.size (.slice A n c) (.int .i64 0) := by rw [hw0]; exact heap_alloc2_old _ _ _
  have hY : RB w0 (w.heap.size + 1) (.slice none 0 0) (.int .i64 0) := by rw [hw0]; exact heap_alloc2_new _ _ _
  have H := Lib.hid (head_any A n c 0 105 (105 :: r) w0 (Nat.le_trans hB hb0.size) (h.below (hb0.mono hB)))
  rw [if_pos rfl, show headK 105 (105 :: r) = 0 from rfl] at H
  have HS := Lib.hid h
  clear h
  go_enter Tryd.func17, Tryd.ntmps17
  go_wp2_with fail
  rw [← hw0]
  refine H.out.mono ?_
  rintro x w1 ⟨rfl, hb1⟩
  have hX1 := hX.below hb1
  have hY1 := hY.below hb1
  obtain ⟨x0, x1, xf0, xf1⟩ := hX1.facts
  obtain ⟨y0, y1, yf0, yf1⟩ := hY1.facts
  have hB1 : Below w.heap.size w w1 := hb0.trans (hb1.mono hb0.size)
  have hY2 := Lib.hid (hY1.other (k := w.heap.size) (by omega) (.slice A n c) (.int .i64 0))
  have HB2 := Lib.hid (((hB1.setCell (p := ⟨w.heap.size, 0, none⟩) (Nat.le_refl _) (.slice A n c)).setCell (p := ⟨w.heap.size, 1, none⟩) (Nat.le_refl _) (.int .i64 0)))
  have HS2 := Lib.hid (HS.out.below (HB2.out.mono hB))
  have HS1 := Lib.hid (HS.out.below (hB1.mono hB))
  have HR := Lib.hid hr
  obtain ⟨hl1, hl2, hl3⟩ := HS.out.len
  have HL := Lib.hid hl1
  have i2 : (n : Int) ≤ (c : Int) := by omega
  clear hw0 hb0 hX hY hb1 hX1 hY1 hB1 hr H
  have hi : (m : Int) ≤ 9223372036854775807 := by omega
  clear hm
  rcases r with _ | ⟨d, r'⟩
  · have i3 : (n : Int) ≤ 1 := by have h0 := hl1; simp only [List.length_cons, List.length_nil] at h0; omega
    clear hl1
    go_wp2_with (first
        | (go_at_call 39; refine (digits_any A n c 1 59 [105] _ HS2.out (by simp) (by decide) 0 m rest (by rw [List.drop_one]; exact HR.out)).mono ?_; rintro x w2 ⟨en, rfl, hen, rfl⟩; have hen1 := (hen rfl).1; have HEN := Lib.hid (hen rfl).2; have i1 : (en : Int) ≤ (n : Int) := (by have h0 := HL.out; omega); clear hen))
    all_goals first
      | (have hne : ¬ c = en := by omega
         obtain ⟨hS, hl⟩ := cut_more HS.out hen1 HEN.out hne
         rw [hl]
         have hBf := Lib.hid (((HB2.out.setCell (p := ⟨w.heap.size, 0, none⟩) (Nat.le_refl _) (.slice (A.map (fun x => x.add en)) rest.length (c - en))).setCell (p := ⟨w.heap.size + 1, 0, none⟩) (by simp) (.slice (A.map (fun x => x.add en)) rest.length (c - en))).setCell (p := ⟨w.heap.size + 1, 1, none⟩) (by simp) (.int .i64 0))
         exact bodyPost_ret (v := .tuple #[.agg #[.slice (A.map (fun x => x.add en)) rest.length (c - en), .int .i64 0], .int .i64 (m : Int)]) (by simp [results, Tryd.results17, go_sem, y0, y1]) rfl ⟨_, _, rfl, Sl.below hS (hBf.out.mono hB), hBf.out⟩)
      | (have hce : c = en := by omega
         subst hce
         obtain ⟨hS, hl⟩ := cut_all HS.out hen1 HEN.out
         rw [hl]
         have hBf := Lib.hid (((HB2.out.setCell (p := ⟨w.heap.size, 0, none⟩) (Nat.le_refl _) (.slice A rest.length 0)).setCell (p := ⟨w.heap.size + 1, 0, none⟩) (by simp) (.slice A rest.length 0)).setCell (p := ⟨w.heap.size + 1, 1, none⟩) (by simp) (.int .i64 0))
         exact bodyPost_ret (v := .tuple #[.agg #[.slice A rest.length 0, .int .i64 0], .int .i64 (m : Int)]) (by simp [results, Tryd.results17, go_sem, y0, y1]) rfl ⟨_, _, rfl, Sl.below hS (hBf.out.mono hB), hBf.out⟩)
  · obtain ⟨b, off, rfl, hbB, hl, hc2, hcell⟩ := HS1.out.second
    have hbw : b < w.heap.size := by omega
    have hd : d ≠ 45 := fun e => hplus (by rw [e]; rfl)
    have hx : (d.toNat : Int) ≠ 45 := fun e => hd (UInt8.toNat_inj.1 (by show d.toNat = 45; omega))
    have hy : ((d.toNat : Int) == 45) = false := by simpa using hx
    have i3 : (2 : Int) ≤ (n : Int) := by omega
    clear hd hx hplus hl1 hl hc2
    go_wp2_with (first
        | (go_at_call 39; refine (digits_any (some ⟨b, off, none⟩) n c 1 59 (105 :: d :: r') _ HS2.out (by simp) (by decide) 0 m rest (by rw [List.drop_one]; exact HR.out)).mono ?_; rintro x w2 ⟨en, rfl, hen, rfl⟩; have hen1 := (hen rfl).1; have HEN := Lib.hid (hen rfl).2; have i1 : (en : Int) ≤ (n : Int) := (by have h0 := HL.out; omega); clear hen))
    all_goals first
      | (have hne : ¬ c = en := by omega
         obtain ⟨hS, hl⟩ := cut_more HS.out hen1 HEN.out hne
         have e0 : (some (⟨b, off, none⟩ : Addr)).map (fun x => x.add en) = some ⟨b, off + en, none⟩ := by simp [Addr.add]
         rw [e0] at hS
         rw [hl]
         have hBf := Lib.hid (((HB2.out.setCell (p := ⟨w.heap.size, 0, none⟩) (Nat.le_refl _) (.slice (some ⟨b, off + en, none⟩) rest.length (c - en))).setCell (p := ⟨w.heap.size + 1, 0, none⟩) (by simp) (.slice (some ⟨b, off + en, none⟩) rest.length (c - en))).setCell (p := ⟨w.heap.size + 1, 1, none⟩) (by simp) (.int .i64 0))
         exact bodyPost_ret (v := .tuple #[.agg #[.slice (some ⟨b, off + en, none⟩) rest.length (c - en), .int .i64 0], .int .i64 (m : Int)]) (by simp [results, Tryd.results17, go_sem, y0, y1]) rfl ⟨_, _, rfl, Sl.below hS (hBf.out.mono hB), hBf.out⟩)
      | (have hce : c = en := by omega
         subst hce
         obtain ⟨hS, hl⟩ := cut_all HS.out hen1 HEN.out
         rw [hl]
         have hBf := Lib.hid (((HB2.out.setCell (p := ⟨w.heap.size, 0, none⟩) (Nat.le_refl _) (.slice (some ⟨b, off, none⟩) rest.length 0)).setCell (p := ⟨w.heap.size + 1, 0, none⟩) (by simp) (.slice (some ⟨b, off, none⟩) rest.length 0)).setCell (p := ⟨w.heap.size + 1, 1, none⟩) (by simp) (.int .i64 0))
         exact bodyPost_ret (v := .tuple #[.agg #[.slice (some ⟨b, off, none⟩) rest.length 0, .int .i64 0], .int .i64 (m : Int)]) (by simp [results, Tryd.results17, go_sem, y0, y1]) rfl ⟨_, _, rfl, Sl.below hS (hBf.out.mono hB), hBf.out⟩)

end Go.Proofs.YteblpfnmcbehmaaDoor.pk
