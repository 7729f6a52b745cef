import Derived.Test.YtncaefocijainaaGreatDoorG24
import Derived.Laws.ResultCell
import Derived.Laws.Rows
import Derived.Laws.NewBlocks
import Derived.Laws.NewDeep
import Derived.Test.YtncaefocijainaaGreatDoorG04
namespace Go.Proofs.YtncaefocijainaaGreatDoor.pk
open Go Go.RowKit
set_option maxRecDepth 100000
section
theorem fail_any (A : Option Addr) (n c k e : Nat) (w : World) :
   Calls Tryz.prog 96 #[.agg #[.slice A n c, .int .i64 (k : Int)], .int .i64 (e : Int)] w fun x w' => x = .returned (.agg #[.slice A n c, .int .i64 ((if k = 0 then e else k : Nat) : Int)]) ∧ Below w.heap.size w w' := by
 by_cases hk : k = 0
 · subst hk
   rw [if_pos rfl]
   go_enter Tryz.func96, Tryz.ntmps96
   go_wp2
   exact bodyPost_ret (v := .agg #[.slice A n c, .int .i64 (e : Int)]) (by simp [results, Tryz.results96, go_sem]) rfl ⟨rfl, ((Below.refl _ _).alloc (Nat.le_refl _) _).alloc (by simp) _⟩
 · have hz : ((k : Int) == 0) = false := by simp; omega
   rw [if_neg hk]
   go_enter Tryz.func96, Tryz.ntmps96
   go_wp2
   exact bodyPost_ret (v := .agg #[.slice A n c, .int .i64 (k : Int)]) (by simp [results, Tryz.results96, go_sem]) rfl ⟨rfl, ((Below.refl _ _).alloc (Nat.le_refl _) _).alloc (by simp) _⟩
def headK (l : UInt8) (bs : List UInt8) : Nat := match bs with
 | [] => 12
 | c :: _ => if c = l then 0 else 3
theorem own2 {w0 w' : World} {g : Nat} {x y : Value} {t : TypeId} (hg : w0.heap[g]? = some (.cells #[x, y] t (0, 0))) (hb : Below w0.heap.size w0 w') :
   w'.cell? ⟨g, 0, none⟩ = some x ∧ w'.cell? ⟨g, 1, none⟩ = some y ∧ w'.frozen? ⟨g, 0, none⟩ = false ∧ w'.frozen? ⟨g, 1, none⟩ = false := by
 have hlt : g < w0.heap.size := by
   rcases Nat.lt_or_ge g w0.heap.size with h | h
   · exact h
   · rw [Array.getElem?_eq_none h] at hg; cases hg
 have h := (hb.block g hlt).trans hg
 exact ⟨by rw [cell_of_row w' g 0 _ _ _ h]; rfl, by rw [cell_of_row w' g 1 _ _ _ h]; rfl, frozen_of_row w' g 0 _ _ h, frozen_of_row w' g 1 _ _ h⟩
theorem head_ok (A : Option Addr) (n c : Nat) (l : UInt8) (r : List UInt8) (w : World) {B : Nat} (hB : B ≤ w.heap.size) (h : Sl w B (.slice A n c) (l :: r)) :
   Calls Tryz.prog 94 #[.agg #[.slice A n c, .int .i64 0], .int .u8 (l.toNat : Int)] w fun x w' => x = .returned (.agg #[.slice A n c, .int .i64 0]) ∧ Below w.heap.size w w' := by
 obtain ⟨b, off, rfl, hb, rfl, hn, hc, hcell⟩ := h.head
 have hb' : b < w.heap.size := by omega
 have i0 : ((r.length : Int) + 1 == 0) = false := by simp; omega
 have i1 : (1 : Int) ≤ (r.length : Int) + 1 := by omega
 clear h
 go_enter Tryz.func94, Tryz.ntmps94
 go_wp2
 exact bodyPost_ret (v := .agg #[.slice (some ⟨b, off, none⟩) (r.length + 1) c, .int .i64 0]) (by simp [results, Tryz.results94, go_sem]) rfl ⟨rfl, ((Below.refl _ _).alloc (Nat.le_refl _) _).alloc (by simp) _⟩
theorem head_form (A : Option Addr) (n c : Nat) (l d : UInt8) (r : List UInt8) (w : World) {B : Nat} (hB : B ≤ w.heap.size) (h : Sl w B (.slice A n c) (d :: r)) (hd : d ≠ l) :
   Calls Tryz.prog 94 #[.agg #[.slice A n c, .int .i64 0], .int .u8 (l.toNat : Int)] w fun x w' => x = .returned (.agg #[.slice A n c, .int .i64 3]) ∧ Below w.heap.size w w' := by
 obtain ⟨b, off, rfl, hb, rfl, hn, hc, hcell⟩ := h.head
 have hb' : b < w.heap.size := by omega
 have i0 : ((r.length : Int) + 1 == 0) = false := by simp; omega
 have i1 : (1 : Int) ≤ (r.length : Int) + 1 := by omega
 have hx : (d.toNat : Int) ≠ (l.toNat : Int) := fun e => hd (UInt8.toNat_inj.1 (by omega))
 have hy : ((d.toNat : Int) != (l.toNat : Int)) = true := by simpa using hx
 clear h hd
 obtain ⟨w0, hw0⟩ : ∃ w0, w0 = (w.alloc (Obj.cells #[Value.slice (some ⟨b, off, none⟩) (r.length + 1) c, Value.int IntKind.i64 0] 121)).alloc (Obj.cells #[Value.slice none 0 0, Value.int IntKind.i64 0] 121) := ⟨_, rfl⟩
 have hb0 : Below w.heap.size w w0 := by rw [hw0]; exact ((Below.refl _ _).alloc (Nat.le_refl _) _).alloc (by simp) _
 have hg0 : w0.heap[w.heap.size + 1]? = some (.cells #[.slice none 0 0, .int .i64 0] 121 (0, 0)) := by rw [hw0]; exact heap_alloc2_new _ _ _
 have HW := jI hw0
 go_enter Tryz.func94, Tryz.ntmps94
 go_wp2_with fail
 rw [← hw0]
 refine (fail_any _ _ _ 0 3 w0).mono ?_
 rintro x w1 ⟨rfl, hb1⟩
 obtain ⟨c0, c1, f0, f1⟩ := own2 hg0 hb1
 have HB1 := jI (hb0.trans (hb1.mono hb0.size))
 clear hw0 hb0 hg0 hb1
 go_wp2
 exact bodyPost_ret (v := .agg #[.slice (some ⟨b, off, none⟩) (r.length + 1) c, .int .i64 3]) (by simp [results, Tryz.results94, go_sem, c0, c1]) rfl ⟨rfl, (HB1.out.setCell (by simp) _).setCell (by simp) _⟩
theorem head_end (A : Option Addr) (c : Nat) (l : UInt8) (w : World) :
   Calls Tryz.prog 94 #[.agg #[.slice A 0 c, .int .i64 0], .int .u8 (l.toNat : Int)] w fun x w' => x = .returned (.agg #[.slice A 0 c, .int .i64 12]) ∧ Below w.heap.size w w' := by
 obtain ⟨w0, hw0⟩ : ∃ w0, w0 = (w.alloc (Obj.cells #[Value.slice A 0 c, Value.int IntKind.i64 0] 121)).alloc (Obj.cells #[Value.slice none 0 0, Value.int IntKind.i64 0] 121) := ⟨_, rfl⟩
 have hb0 : Below w.heap.size w w0 := by rw [hw0]; exact ((Below.refl _ _).alloc (Nat.le_refl _) _).alloc (by simp) _
 have hg0 : w0.heap[w.heap.size + 1]? = some (.cells #[.slice none 0 0, .int .i64 0] 121 (0, 0)) := by rw [hw0]; exact heap_alloc2_new _ _ _
 have HW := jI hw0
 go_enter Tryz.func94, Tryz.ntmps94
 go_wp2_with fail
 rw [← hw0]
 refine (fail_any _ _ _ 0 12 w0).mono ?_
 rintro x w1 ⟨rfl, hb1⟩
 obtain ⟨c0, c1, f0, f1⟩ := own2 hg0 hb1
 have HB1 := jI (hb0.trans (hb1.mono hb0.size))
 clear hw0 hb0 hg0 hb1
 go_wp2
 exact bodyPost_ret (v := .agg #[.slice A 0 c, .int .i64 12]) (by simp [results, Tryz.results94, go_sem, c0, c1]) rfl ⟨rfl, (HB1.out.setCell (by simp) _).setCell (by simp) _⟩
theorem head_stop (A : Option Addr) (n c k : Nat) (l : UInt8) (w : World) (hk : k ≠ 0) :
   Calls Tryz.prog 94 #[.agg #[.slice A n c, .int .i64 (k : Int)], .int .u8 (l.toNat : Int)] w fun x w' => x = .returned (.agg #[.slice A n c, .int .i64 (k : Int)]) ∧ Below w.heap.size w w' := by
 have hz : ((k : Int) != 0) = true := by simp; omega
 go_enter Tryz.func94, Tryz.ntmps94
 go_wp2
 exact bodyPost_ret (v := .agg #[.slice A n c, .int .i64 (k : Int)]) (by simp [results, Tryz.results94, go_sem]) rfl ⟨rfl, ((Below.refl _ _).alloc (Nat.le_refl _) _).alloc (by simp) _⟩
theorem head_any (A : Option Addr) (n c k : Nat) (l : UInt8) (bs : List UInt8) (w : World) {B : Nat} (hB : B ≤ w.heap.size) (h : Sl w B (.slice A n c) bs) :
   Calls Tryz.prog 94 #[.agg #[.slice A n c, .int .i64 (k : Int)], .int .u8 (l.toNat : Int)] w fun x w' => x = .returned (.agg #[.slice A n c, .int .i64 ((if k = 0 then headK l bs else k : Nat) : Int)]) ∧ Below w.heap.size w w' := by
 by_cases hk : k = 0
 · subst hk
   rw [if_pos rfl]
   cases bs with
   | nil =>
     obtain ⟨rfl, _⟩ := h.len
     exact head_end A c l w
   | cons d r =>
     by_cases hd : d = l
     · subst hd
       have := head_ok A n c d r w hB h
       simpa [headK] using this
     · have := head_form A n c l d r w hB h hd
       simpa [headK, hd] using this
 · rw [if_neg hk]
   exact head_stop A n c k l w hk
theorem RefDone_any (A : Option Addr) (n c k : Nat) (w : World) :
   Calls Tryz.prog 59 #[.agg #[.slice A n c, .int .i64 (k : Int)]] w fun x w' => x = .returned (.int .i64 ((if k = 0 then (if n = 0 then 0 else 3) else k : Nat) : Int)) ∧ Below w.heap.size w w' := by
 by_cases hk : k = 0
 · subst hk
   rw [if_pos rfl]
   by_cases hn : n = 0
   · subst hn
     go_enter Tryz.func59, Tryz.ntmps59
     go_wp2
     go_ret
     exact ⟨rfl, (Below.refl _ _).alloc (Nat.le_refl _) _⟩
   · rw [if_neg hn]
     have hn' : (0 : Int) < (n : Int) := by omega
     go_enter Tryz.func59, Tryz.ntmps59
     go_wp2
     go_ret
     exact ⟨rfl, (Below.refl _ _).alloc (Nat.le_refl _) _⟩
 · rw [if_neg hk]
   have hz : ((k : Int) == 0) = false := by simp; omega
   go_enter Tryz.func59, Tryz.ntmps59
   go_wp2
   go_ret
   exact ⟨rfl, (Below.refl _ _).alloc (Nat.le_refl _) _⟩
end
section
theorem cut_more {w : World} {B : Nat} {A : Option Addr} {n c en : Nat} {bs rest : List UInt8} (h : Sl w B (.slice A n c) bs) (hen : en ≤ bs.length) (hr : rest = bs.drop en) (hne : ¬ c = en) :
   Sl w B (.slice (A.map (fun x => x.add en)) rest.length (c - en)) rest ∧ n - en = rest.length := by
 have h1 := h.cut hen
 rw [if_neg hne, ← hr] at h1
 obtain ⟨hn, _, _⟩ := h.len
 have hl : n - en = rest.length := by rw [hr, List.length_drop, hn]
 rw [hl] at h1
 exact ⟨h1, hl⟩
theorem cut_all {w : World} {B : Nat} {A : Option Addr} {n en : Nat} {bs rest : List UInt8} (h : Sl w B (.slice A n en) bs) (hen : en ≤ bs.length) (hr : rest = bs.drop en) :
   Sl w B (.slice A rest.length 0) rest ∧ n - en = rest.length := by
 have h1 := h.cut hen
 rw [if_pos rfl, ← hr, Nat.sub_self] at h1
 obtain ⟨hn, _, _⟩ := h.len
 have hl : n - en = rest.length := by rw [hr, List.length_drop, hn]
 rw [hl] at h1
 exact ⟨h1, hl⟩
def RB (w : World) (g : Nat) (x y : Value) : Prop := w.heap[g]? = some (.cells #[x, y] 121 (0, 0))
theorem RB.lt {w : World} {g : Nat} {x y : Value} (h : RB w g x y) : g < w.heap.size := by
 rcases Nat.lt_or_ge g w.heap.size with hlt | hge
 · exact hlt
 · unfold RB at h; rw [Array.getElem?_eq_none hge] at h; cases h
theorem RB.below {w w' : World} {g : Nat} {x y : Value} (h : RB w g x y) (hb : Below w.heap.size w w') : RB w' g x y := (hb.block g h.lt).trans h
theorem RB.set {w : World} {g : Nat} {x y : Value} (h : RB w g x y) (a b : Value) : RB ((w.setCell ⟨g, 0, none⟩ a).setCell ⟨g, 1, none⟩ b) g a b := by
 unfold RB at *
 simp [World.setCell, Array.getElem?_modify, h]
theorem RB.other {w : World} {g k : Nat} {x y : Value} (h : RB w g x y) (hne : g ≠ k) (a b : Value) : RB ((w.setCell ⟨k, 0, none⟩ a).setCell ⟨k, 1, none⟩ b) g x y := by
 unfold RB at *
 rw [heap_setCell_other _ _ _ _ hne, heap_setCell_other _ _ _ _ hne]; exact h
theorem RB.facts {w : World} {g : Nat} {x y : Value} (h : RB w g x y) : w.cell? ⟨g, 0, none⟩ = some x ∧ w.cell? ⟨g, 1, none⟩ = some y ∧ w.frozen? ⟨g, 0, none⟩ = false ∧ w.frozen? ⟨g, 1, none⟩ = false :=
 ⟨by rw [cell_of_row w g 0 _ _ _ h]; rfl, by rw [cell_of_row w g 1 _ _ _ h]; rfl, frozen_of_row w g 0 _ _ h, frozen_of_row w g 1 _ _ h⟩
theorem ReadUint_err (A : Option Addr) (n c k : Nat) (most : Nat) (bs : List UInt8) (k1 : Nat) (w : World) {B : Nat} (hB : B ≤ w.heap.size) (h : Sl w B (.slice A n c) bs)
   (hk : (if k = 0 then headK 110 bs else k) = k1) (hk1 : k1 ≠ 0) :
   Calls Tryz.prog 54 #[.agg #[.slice A n c, .int .i64 (k : Int)], .int .u64 (most : Int)] w fun x w' => x = .returned (.tuple #[.agg #[.slice A n c, .int .i64 (k1 : Int)], .int .u64 0]) ∧ Below w.heap.size w w' := by
 have hz : ((k1 : Int) != 0) = true := by simp; omega
 obtain ⟨w0, hw0⟩ : ∃ w0, w0 = (w.alloc (Obj.cells #[Value.slice A n c, Value.int IntKind.i64 (k : Int)] 121)).alloc (Obj.cells #[Value.slice none 0 0, Value.int IntKind.i64 0] 121) := ⟨_, rfl⟩
 have hb0 : Below w.heap.size w w0 := by rw [hw0]; exact ((Below.refl _ _).alloc (Nat.le_refl _) _).alloc (by simp) _
 have hX : RB w0 w.heap.size (.slice A n c) (.int .i64 (k : Int)) := by rw [hw0]; exact heap_alloc2_old _ _ _
 have hY : RB w0 (w.heap.size + 1) (.slice none 0 0) (.int .i64 0) := by rw [hw0]; exact heap_alloc2_new _ _ _
 have H := jI (head_any A n c k 110 bs w0 (Nat.le_trans hB hb0.size) (h.below (hb0.mono hB)))
 rw [hk] at H
 clear h
 go_enter Tryz.func54, Tryz.ntmps54
 go_wp2_with fail
 rw [← hw0]
 refine H.out.mono ?_
 rintro x w1 ⟨rfl, hb1⟩
 obtain ⟨x0, x1, xf0, xf1⟩ := (hX.below hb1).facts
 obtain ⟨y0, y1, yf0, yf1⟩ := (hY.below hb1).facts
 have HB1 := jI (hb0.trans (hb1.mono hb0.size))
 clear hw0 hb0 hX hY hb1 hk hk1
 go_wp2
 exact bodyPost_ret (v := .tuple #[.agg #[.slice A n c, .int .i64 (k1 : Int)], .int .u64 0]) (by simp [results, Tryz.results54, go_sem, y0, y1]) rfl ⟨rfl, (((HB1.out.setCell (by simp) _).setCell (by simp) _).setCell (by simp) _).setCell (by simp) _⟩
theorem ReadUint_dig (A : Option Addr) (n c : Nat) (most : Nat) (r : List UInt8) (k m : Nat) (rest : List UInt8) (w : World) {B : Nat} (hB : B ≤ w.heap.size) (h : Sl w B (.slice A n c) (110 :: r))
   (hr : scan 59 [] r = (k, m, rest)) (k2 : Nat) (hk : (k ≠ 0 ∧ k2 = k) ∨ (k = 0 ∧ most < m ∧ k2 = 4)) :
   Calls Tryz.prog 54 #[.agg #[.slice A n c, .int .i64 0], .int .u64 (most : Int)] w fun x w' => x = .returned (.tuple #[.agg #[.slice A n c, .int .i64 (k2 : Int)], .int .u64 0]) ∧ Below w.heap.size w w' := by
 obtain ⟨w0, hw0⟩ : ∃ w0, w0 = (w.alloc (Obj.cells #[Value.slice A n c, Value.int IntKind.i64 0] 121)).alloc (Obj.cells #[Value.slice none 0 0, Value.int IntKind.i64 0] 121) := ⟨_, rfl⟩
 have hb0 : Below w.heap.size w w0 := by rw [hw0]; exact ((Below.refl _ _).alloc (Nat.le_refl _) _).alloc (by simp) _
 have hX : RB w0 w.heap.size (.slice A n c) (.int .i64 0) := by rw [hw0]; exact heap_alloc2_old _ _ _
 have hY : RB w0 (w.heap.size + 1) (.slice none 0 0) (.int .i64 0) := by rw [hw0]; exact heap_alloc2_new _ _ _
 have H := jI (head_any A n c 0 110 (110 :: r) w0 (Nat.le_trans hB hb0.size) (h.below (hb0.mono hB)))
 rw [if_pos rfl, show headK 110 (110 :: r) = 0 from rfl] at H
 have HS := jI h
 clear h
 go_enter Tryz.func54, Tryz.ntmps54
 go_wp2_with fail
 rw [← hw0]
 refine H.out.mono ?_
 rintro x w1 ⟨rfl, hb1⟩
 have hX1 := hX.below hb1
 have hY1 := hY.below hb1
 obtain ⟨x0, x1, xf0, xf1⟩ := hX1.facts
 have hB1 : Below w.heap.size w w1 := hb0.trans (hb1.mono hb0.size)
 have hY2 := jI (hY1.other (k := w.heap.size) (by omega) (.slice A n c) (.int .i64 0))
 have HB2 := jI (((hB1.setCell (p := ⟨w.heap.size, 0, none⟩) (Nat.le_refl _) (.slice A n c)).setCell (p := ⟨w.heap.size, 1, none⟩) (Nat.le_refl _) (.int .i64 0)))
 have HS2 := jI (HS.out.below (HB2.out.mono hB))
 have HR := jI hr
 clear hw0 hb0 hX hY hb1 hX1 hY1 hB1 hr
 rcases hk with ⟨hk, rfl⟩ | ⟨rfl, hm, rfl⟩
 · have hz : ((k2 : Int) != 0) = true := by simp; omega
   have hz' : ((k2 : Int) == 0) = false := by simp; omega
   have HK := jI hk
   clear hk
   go_wp2_with (first
     | (go_at_call 95; refine (digits_any A n c 1 59 (110 :: r) _ HS2.out (by simp) (by decide) k2 m rest (by rw [List.drop_one]; exact HR.out)).mono ?_; rintro x w2 ⟨en, rfl, hen, rfl⟩; clear hen)
     | (go_at_call 96; refine (fail_any _ _ _ 0 k2 _).mono ?_; rw [if_pos rfl]; rintro x w3 ⟨rfl, hb3⟩; obtain ⟨y0, y1, yf0, yf1⟩ := (hY2.out.below hb3).facts; have HB3 := jI (HB2.out.trans (hb3.mono HB2.out.size)); clear hb3))
   exact bodyPost_ret (v := .tuple #[.agg #[.slice A n c, .int .i64 (k2 : Int)], .int .u64 0]) (by simp [results, Tryz.results54, go_sem, y0, y1]) rfl ⟨rfl, (HB3.out.setCell (by simp) _).setCell (by simp) _⟩
 · have hi : (most : Int) < (m : Int) := by omega
   go_wp2_with (first
     | (go_at_call 95; refine (digits_any A n c 1 59 (110 :: r) _ HS2.out (by simp) (by decide) 0 m rest (by rw [List.drop_one]; exact HR.out)).mono ?_; rintro x w2 ⟨en, rfl, hen, rfl⟩; clear hen)
     | (go_at_call 96; refine (fail_any _ _ _ 0 4 _).mono ?_; rw [if_pos rfl]; rintro x w3 ⟨rfl, hb3⟩; obtain ⟨y0, y1, yf0, yf1⟩ := (hY2.out.below hb3).facts; have HB3 := jI (HB2.out.trans (hb3.mono HB2.out.size)); clear hb3))
   exact bodyPost_ret (v := .tuple #[.agg #[.slice A n c, .int .i64 4], .int .u64 0]) (by simp [results, Tryz.results54, go_sem, y0, y1]) rfl ⟨rfl, (HB3.out.setCell (by simp) _).setCell (by simp) _⟩
theorem ReadUint_ok (A : Option Addr) (n c : Nat) (most : Nat) (r : List UInt8) (m : Nat) (rest : List UInt8) (w : World) {B : Nat} (hB : B ≤ w.heap.size) (h : Sl w B (.slice A n c) (110 :: r))
   (hr : scan 59 [] r = (0, m, rest)) (hm : m ≤ most) :
   Calls Tryz.prog 54 #[.agg #[.slice A n c, .int .i64 0], .int .u64 (most : Int)] w fun x w' => ∃ A' c', x = .returned (.tuple #[.agg #[.slice A' rest.length c', .int .i64 0], .int .u64 (m : Int)]) ∧ Sl w' B (.slice A' rest.length c') rest ∧ Below w.heap.size w w' := by
 obtain ⟨w0, hw0⟩ : ∃ w0, w0 = (w.alloc (Obj.cells #[Value.slice A n c, Value.int IntKind.i64 0] 121)).alloc (Obj.cells #[Value.slice none 0 0, Value.int IntKind.i64 0] 121) := ⟨_, rfl⟩
 have hb0 : Below w.heap.size w w0 := by rw [hw0]; exact ((Below.refl _ _).alloc (Nat.le_refl _) _).alloc (by simp) _
 have hX : RB w0 w.heap.size (.slice A n c) (.int .i64 0) := by rw [hw0]; exact heap_alloc2_old _ _ _
 have hY : RB w0 (w.heap.size + 1) (.slice none 0 0) (.int .i64 0) := by rw [hw0]; exact heap_alloc2_new _ _ _
 have H := jI (head_any A n c 0 110 (110 :: r) w0 (Nat.le_trans hB hb0.size) (h.below (hb0.mono hB)))
 rw [if_pos rfl, show headK 110 (110 :: r) = 0 from rfl] at H
 have HS := jI h
 clear h
 go_enter Tryz.func54, Tryz.ntmps54
 go_wp2_with fail
 rw [← hw0]
 refine H.out.mono ?_
 rintro x w1 ⟨rfl, hb1⟩
 have hX1 := hX.below hb1
 have hY1 := hY.below hb1
 obtain ⟨x0, x1, xf0, xf1⟩ := hX1.facts
 obtain ⟨y0, y1, yf0, yf1⟩ := hY1.facts
 have hB1 : Below w.heap.size w w1 := hb0.trans (hb1.mono hb0.size)
 have HB2 := jI (((hB1.setCell (p := ⟨w.heap.size, 0, none⟩) (Nat.le_refl _) (.slice A n c)).setCell (p := ⟨w.heap.size, 1, none⟩) (Nat.le_refl _) (.int .i64 0)))
 have HS2 := jI (HS.out.below (HB2.out.mono hB))
 have HR := jI hr
 obtain ⟨hl1, hl2, hl3⟩ := HS.out.len
 have HL := jI hl1
 have i2 : (n : Int) ≤ (c : Int) := by omega
 have hi : (m : Int) ≤ (most : Int) := by omega
 clear hw0 hb0 hX hY hb1 hX1 hY1 hB1 hr hl1
 go_wp2_with (first
     | (go_at_call 95; (refine (digits_any A n c 1 59 (110 :: r) _ HS2.out (by simp) (by decide) 0 m rest (by rw [List.drop_one]; exact HR.out)).mono ?_; rintro x w2 ⟨en, rfl, hen, rfl⟩; have hen1 := (hen rfl).1; have HEN := jI (hen rfl).2; have i1 : (en : Int) ≤ (n : Int) := (by have h0 := HL.out; omega); clear hen)))
 all_goals first
   | (have hne : ¬ c = en := by omega
      obtain ⟨hS, hl⟩ := cut_more HS.out hen1 HEN.out hne
      rw [hl]
      have hBf := jI (((HB2.out.setCell (p := ⟨w.heap.size, 0, none⟩) (Nat.le_refl _) (.slice (A.map (fun x => x.add en)) rest.length (c - en))).setCell (p := ⟨w.heap.size + 1, 0, none⟩) (by simp) (.slice (A.map (fun x => x.add en)) rest.length (c - en))).setCell (p := ⟨w.heap.size + 1, 1, none⟩) (by simp) (.int .i64 0))
      exact bodyPost_ret (v := .tuple #[.agg #[.slice (A.map (fun x => x.add en)) rest.length (c - en), .int .i64 0], .int .u64 (m : Int)]) (by simp [results, Tryz.results54, go_sem, y0, y1]) rfl ⟨_, _, rfl, Sl.below hS (hBf.out.mono hB), hBf.out⟩)
   | (have hce : c = en := by omega
      subst hce
      obtain ⟨hS, hl⟩ := cut_all HS.out hen1 HEN.out
      rw [hl]
      have hBf := jI (((HB2.out.setCell (p := ⟨w.heap.size, 0, none⟩) (Nat.le_refl _) (.slice A rest.length 0)).setCell (p := ⟨w.heap.size + 1, 0, none⟩) (by simp) (.slice A rest.length 0)).setCell (p := ⟨w.heap.size + 1, 1, none⟩) (by simp) (.int .i64 0))
      exact bodyPost_ret (v := .tuple #[.agg #[.slice A rest.length 0, .int .i64 0], .int .u64 (m : Int)]) (by simp [results, Tryz.results54, go_sem, y0, y1]) rfl ⟨_, _, rfl, Sl.below hS (hBf.out.mono hB), hBf.out⟩)
end
end Go.Proofs.YtncaefocijainaaGreatDoor.pk
