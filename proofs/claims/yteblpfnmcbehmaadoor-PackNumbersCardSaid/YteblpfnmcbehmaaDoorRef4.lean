/-
  The document's own reader: taking an int off.
-/
import Derived.Test.YteblpfnmcbehmaaDoorRef3
namespace Go.Proofs.YteblpfnmcbehmaaDoor.pk
open Go Go.RowKit
set_option maxRecDepth 100000

/-- The second byte's cell. -/
theorem Sl.second {w : World} {B : Nat} {A : Option Addr} {c n : Nat} {d e : UInt8} {r : List UInt8} (h : Sl w B (.slice A n c) (d :: e :: r)) :
    ∃ b off, A = some ⟨b, off, none⟩ ∧ b < B ∧ n = r.length + 2 ∧ r.length + 2 ≤ c ∧ w.cell? ⟨b, off + 1, none⟩ = some (.int .u8 (e.toNat : Int)) := by
  obtain ⟨A', c', hv, h1, h2, h3⟩ := h
  injection hv with e1 e2 e3
  subst e1; subst e2; subst e3
  rcases h3 with h3 | ⟨b, off, rfl, hb, hc⟩
  · cases h3
  · exact ⟨b, off, rfl, hb, rfl, h1, hc 1 (by simp)⟩

theorem ReadInt_err (A : Option Addr) (n c k : Nat) (bs : List UInt8) (k1 : Nat) (w : World) {B : Nat} (hB : B ≤ w.heap.size) (h : Sl w B (.slice A n c) bs)
    (hk : (if k = 0 then headK 105 bs else k) = k1) (hk1 : k1 ≠ 0) :
    Calls Tryd.prog 17 #[.agg #[.slice A n c, .int .i64 (k : Int)]] w fun x w' => x = .returned (.tuple #[.agg #[.slice A n c, .int .i64 (k1 : Int)], .int .i64 0]) ∧ Below w.heap.size w w' := by
  have hz : ((k1 : Int) != 0) = true := by simp; omega
  obtain ⟨w0, hw0⟩ : ∃ w0, w0 = (w.alloc (Obj.cells #[Value.slice A n c, Value.int IntKind.i64 (k : Int)] 36)).alloc (Obj.cells #[Value.slice none 0 0, Value.int IntKind.i64 0] 36) := ⟨_, rfl⟩
  have hb0 : Below w.heap.size w w0 := by rw [hw0]; exact ((Below.refl _ _).alloc (Nat.le_refl _) _).alloc (by simp) _
  have hX : RB w0 w.heap.size (.slice A n c) (.int .i64 (k : Int)) := by rw [hw0]; exact heap_alloc2_old _ _ _
  have hY : RB w0 (w.heap.size + 1) (.slice none 0 0) (.int .i64 0) := by rw [hw0]; exact heap_alloc2_new _ _ _
  have H := Lib.hid (head_any A n c k 105 bs w0 (Nat.le_trans hB hb0.size) (h.below (hb0.mono hB)))
  rw [hk] at H
  clear h
  go_enter Tryd.func17, Tryd.ntmps17
  go_wp2_with fail
  rw [← hw0]
  refine H.out.mono ?_
  rintro x w1 ⟨rfl, hb1⟩
  obtain ⟨x0, x1, xf0, xf1⟩ := (hX.below hb1).facts
  obtain ⟨y0, y1, yf0, yf1⟩ := (hY.below hb1).facts
  have HB1 := Lib.hid (hb0.trans (hb1.mono hb0.size))
  clear hw0 hb0 hX hY hb1 hk hk1
  go_wp2
  exact bodyPost_ret (v := .tuple #[.agg #[.slice A n c, .int .i64 (k1 : Int)], .int .i64 0]) (by simp [results, Tryd.results17, go_sem, y0, y1]) rfl ⟨rfl, (((HB1.out.setCell (by simp) _).setCell (by simp) _).setCell (by simp) _).setCell (by simp) _⟩

set_option maxHeartbeats 2000000 in
theorem ReadInt_plus_err (A : Option Addr) (n c : Nat) (r : List UInt8) (k m : Nat) (rest : List UInt8) (w : World) {B : Nat} (hB : B ≤ w.heap.size) (h : Sl w B (.slice A n c) (105 :: r)) (hplus : ¬ r.head? = some 45)
    (hr : scan 59 [] r = (k, m, rest)) (k2 : Nat) (hk : (k ≠ 0 ∧ k2 = k) ∨ (k = 0 ∧ 9223372036854775807 < m ∧ k2 = 4)) :
    Calls Tryd.prog 17 #[.agg #[.slice A n c, .int .i64 0]] w fun x w' => x = .returned (.tuple #[.agg #[.slice A n c, .int .i64 (k2 : Int)], .int .i64 0]) ∧ Below w.heap.size w w' := by
  obtain ⟨w0, hw0⟩ : ∃ w0, w0 = (w.alloc (Obj.cells #[Value.slice A n c, Value.int IntKind.i64 0] 36)).alloc (Obj.cells #[Value.slice none 0 0, Value.int IntKind.i64 0] 36) := ⟨_, rfl⟩
  have hb0 : Below w.heap.size w w0 := by rw [hw0]; exact ((Below.refl _ _).alloc (Nat.le_refl _) _).alloc (by simp) _
  have hX : RB w0 w.heap.size (.slice A n c) (.int .i64 0) := by rw [hw0]; exact heap_alloc2_old _ _ _
  have hY : RB w0 (w.heap.size + 1) (.slice none 0 0) (.int .i64 0) := by rw [hw0]; exact heap_alloc2_new _ _ _
  have H := Lib.hid (head_any A n c 0 105 (105 :: r) w0 (Nat.le_trans hB hb0.size) (h.below (hb0.mono hB)))
  rw [if_pos rfl, show headK 105 (105 :: r) = 0 from rfl] at H
  have HS := Lib.hid h
  clear h
  go_enter Tryd.func17, Tryd.ntmps17
  go_wp2_with fail
  rw [← hw0]
  refine H.out.mono ?_
  rintro x w1 ⟨rfl, hb1⟩
  have hX1 := hX.below hb1
  have hY1 := hY.below hb1
  obtain ⟨x0, x1, xf0, xf1⟩ := hX1.facts
  have hB1 : Below w.heap.size w w1 := hb0.trans (hb1.mono hb0.size)
  have hY2 := Lib.hid (hY1.other (k := w.heap.size) (by omega) (.slice A n c) (.int .i64 0))
  have HB2 := Lib.hid (((hB1.setCell (p := ⟨w.heap.size, 0, none⟩) (Nat.le_refl _) (.slice A n c)).setCell (p := ⟨w.heap.size, 1, none⟩) (Nat.le_refl _) (.int .i64 0)))
  have HS2 := Lib.hid (HS.out.below (HB2.out.mono hB))
  have HS1 := Lib.hid (HS.out.below (hB1.mono hB))
  have HR := Lib.hid hr
  obtain ⟨hl1, hl2, hl3⟩ := HS.out.len
  have HL := Lib.hid hl1
  have i2 : (n : Int) ≤ (c : Int) := by omega
  clear hw0 hb0 hX hY hb1 hX1 hY1 hB1 hr H
  rcases r with _ | ⟨d, r'⟩
  · have i3 : (n : Int) ≤ 1 := by have h0 := hl1; simp only [List.length_cons, List.length_nil] at h0; omega
    clear hl1
    rcases hk with ⟨hk, rfl⟩ | ⟨rfl, hm, rfl⟩
    · have hz : ((k2 : Int) != 0) = true := by simp; omega
      have hz' : ((k2 : Int) == 0) = false := by simp; omega
      have HK := Lib.hid hk
      clear hk
      go_wp2_with (first
        | (go_at_call 39; refine (digits_any A n c 1 59 [105] _ HS2.out (by simp) (by decide) k2 m rest (by rw [List.drop_one]; exact HR.out)).mono ?_; rintro x w2 ⟨en, rfl, hen, rfl⟩; clear hen)
        | (go_at_call 40; refine (fail_any _ _ _ 0 k2 _).mono ?_; rw [if_pos rfl]; rintro x w3 ⟨rfl, hb3⟩; obtain ⟨y0, y1, yf0, yf1⟩ := (hY2.out.below hb3).facts; have HB3 := Lib.hid (HB2.out.trans (hb3.mono HB2.out.size)); clear hb3))
      exact bodyPost_ret (v := .tuple #[.agg #[.slice A n c, .int .i64 (k2 : Int)], .int .i64 0]) (by simp [results, Tryd.results17, go_sem, y0, y1]) rfl ⟨rfl, (HB3.out.setCell (by simp) _).setCell (by simp) _⟩
    · have hi : (9223372036854775807 : Int) < (m : Int) := by omega
      clear hm
      go_wp2_with (first
        | (go_at_call 39; refine (digits_any A n c 1 59 [105] _ HS2.out (by simp) (by decide) 0 m rest (by rw [List.drop_one]; exact HR.out)).mono ?_; rintro x w2 ⟨en, rfl, hen, rfl⟩; clear hen)
        | (go_at_call 40; refine (fail_any _ _ _ 0 4 _).mono ?_; rw [if_pos rfl]; rintro x w3 ⟨rfl, hb3⟩; obtain ⟨y0, y1, yf0, yf1⟩ := (hY2.out.below hb3).facts; have HB3 := Lib.hid (HB2.out.trans (hb3.mono HB2.out.size)); clear hb3))
      exact bodyPost_ret (v := .tuple #[.agg #[.slice A n c, .int .i64 4], .int .i64 0]) (by simp [results, Tryd.results17, go_sem, y0, y1]) rfl ⟨rfl, (HB3.out.setCell (by simp) _).setCell (by simp) _⟩
  · obtain ⟨b, off, rfl, hbB, hl, hc2, hcell⟩ := HS1.out.second
    have hbw : b < w.heap.size := by omega
    have hd : d ≠ 45 := fun e => hplus (by rw [e]; rfl)
    have hx : (d.toNat : Int) ≠ 45 := fun e => hd (UInt8.toNat_inj.1 (by show d.toNat = 45; omega))
    have hy : ((d.toNat : Int) == 45) = false := by simpa using hx
    have i3 : (2 : Int) ≤ (n : Int) := by omega
    clear hd hx hplus hl1 hl hc2
    rcases hk with ⟨hk, rfl⟩ | ⟨rfl, hm, rfl⟩
    · have hz : ((k2 : Int) != 0) = true := by simp; omega
      have hz' : ((k2 : Int) == 0) = false := by simp; omega
      have HK := Lib.hid hk
      clear hk
      go_wp2_with (first
        | (go_at_call 39; refine (digits_any (some ⟨b, off, none⟩) n c 1 59 (105 :: d :: r') _ HS2.out (by simp) (by decide) k2 m rest (by rw [List.drop_one]; exact HR.out)).mono ?_; rintro x w2 ⟨en, rfl, hen, rfl⟩; clear hen)
        | (go_at_call 40; refine (fail_any _ _ _ 0 k2 _).mono ?_; rw [if_pos rfl]; rintro x w3 ⟨rfl, hb3⟩; obtain ⟨y0, y1, yf0, yf1⟩ := (hY2.out.below hb3).facts; have HB3 := Lib.hid (HB2.out.trans (hb3.mono HB2.out.size)); clear hb3))
      exact bodyPost_ret (v := .tuple #[.agg #[.slice (some ⟨b, off, none⟩) n c, .int .i64 (k2 : Int)], .int .i64 0]) (by simp [results, Tryd.results17, go_sem, y0, y1]) rfl ⟨rfl, (HB3.out.setCell (by simp) _).setCell (by simp) _⟩
    · have hi : (9223372036854775807 : Int) < (m : Int) := by omega
      clear hm
      go_wp2_with (first
        | (go_at_call 39; refine (digits_any (some ⟨b, off, none⟩) n c 1 59 (105 :: d :: r') _ HS2.out (by simp) (by decide) 0 m rest (by rw [List.drop_one]; exact HR.out)).mono ?_; rintro x w2 ⟨en, rfl, hen, rfl⟩; clear hen)
        | (go_at_call 40; refine (fail_any _ _ _ 0 4 _).mono ?_; rw [if_pos rfl]; rintro x w3 ⟨rfl, hb3⟩; obtain ⟨y0, y1, yf0, yf1⟩ := (hY2.out.below hb3).facts; have HB3 := Lib.hid (HB2.out.trans (hb3.mono HB2.out.size)); clear hb3))
      exact bodyPost_ret (v := .tuple #[.agg #[.slice (some ⟨b, off, none⟩) n c, .int .i64 4], .int .i64 0]) (by simp [results, Tryd.results17, go_sem, y0, y1]) rfl ⟨rfl, (HB3.out.setCell (by simp) _).setCell (by simp) _⟩

end Go.Proofs.YteblpfnmcbehmaaDoor.pk
