/-
  The package pack's writer: truths, texts, bytes; all that was laid.
-/
import Derived.Test.YteblpfnmcbehmaaDoorWr
namespace Go.Proofs.YteblpfnmcbehmaaDoor.pk
open Go Go.RowKit
set_option maxRecDepth 100000

/-- 'append(w.b, s...)' of a text, at a writer's row. -/
theorem wpList_wrS {w : World} {B p : Nat} {v : Value} {bs : List UInt8} {ops : Array Oper} {rest : List Oper} {o : Oper} {a : Act} {Q : Exit → Act → World → Prop} (hgd : o.guard = none) (s x : Operand)
    (ho : o.op = .call { callee := .builtin .append, args := #[s, x], argTypes := #[24, 9] }) (h : WR w B p v bs) (t : ByteArray) (h0 : 0 < bs.length) (hl : bs.length + t.size ≤ 140737488355328)
    (hs : a.eval s = v) (hx : a.eval x = .string t)
    (hK : ∀ g n cap w1, w1.cell? ⟨p, 0, none⟩ = some v → w1.frozen? ⟨p, 0, none⟩ = false →
      WR (w1.setCell ⟨p, 0, none⟩ (.slice (some ⟨g, 0, none⟩) n cap)) B p (.slice (some ⟨g, 0, none⟩) n cap) (bs ++ t.data.toList) → KP B p w (w1.setCell ⟨p, 0, none⟩ (.slice (some ⟨g, 0, none⟩) n cap)) →
      wpList Tryd.prog ops Q rest (a.put o.dst (.slice (some ⟨g, 0, none⟩) n cap)) w1) :
    wpList Tryd.prog ops Q (o :: rest) a w := by
  obtain ⟨i0, hi, hz0, hz1, hz2⟩ := info_parts info_u8
  have hB := h.hB
  have hts : t.size = t.data.toList.length := Lib.size_eq t
  refine Lib.wpList_append_own_string _ hgd s x 24 9 ho B 5 i0 Tryd.underlying24 Tryd.underlying9 hi hz0 hz1 hz2 v bs.length (Lib.byteCells bs) hs h.own t hx (by simp only [maxLen]; omega) hl hB ?_
  intro v' w1 hown hgrow _
  obtain ⟨g, cap, rfl, _, _⟩ := hown.form (by omega)
  have hb : Below B w w1 := (Below.refl B w).grown hgrow hB (fun k hk => (h.own.lt k hk).1)
  have hk : Lib.OthersKept 5 none w w1 := (Lib.OthersKept.refl _ _ w).grown hgrow (Lib.ownsRow_kind h.own)
  have hp := h.blk_kept hk
  obtain ⟨h1, h2⟩ := h.put (m := t.data.toList) hb hk (by rw [← hts]; exact hown)
  exact hK g _ cap w1 (by rw [cell_of_row w1 p 0 _ _ (0, 0) hp]; rfl) (by simp [World.frozen?, hp]) h1 h2

/-- 'append(w.b, b...)' of bytes, at a writer's row. -/
theorem wpList_wrB {w : World} {B p : Nat} {v : Value} {bs : List UInt8} {ops : Array Oper} {rest : List Oper} {o : Oper} {a : Act} {Q : Exit → Act → World → Prop} (hgd : o.guard = none) (s x : Operand)
    (ho : o.op = .call { callee := .builtin .append, args := #[s, x], argTypes := #[24, 24] }) (h : WR w B p v bs) (B1 : Nat) (A : Option Addr) (m c : Nat) (t : List UInt8) (ht : Sl w B1 (.slice A m c) t) (h0 : 0 < bs.length) (hl : bs.length + t.length ≤ 140737488355328)
    (hs : a.eval s = v) (hx : a.eval x = .slice A m c)
    (hK : ∀ g n cap w1, w1.cell? ⟨p, 0, none⟩ = some v → w1.frozen? ⟨p, 0, none⟩ = false →
      WR (w1.setCell ⟨p, 0, none⟩ (.slice (some ⟨g, 0, none⟩) n cap)) B p (.slice (some ⟨g, 0, none⟩) n cap) (bs ++ t) → KP B p w (w1.setCell ⟨p, 0, none⟩ (.slice (some ⟨g, 0, none⟩) n cap)) →
      wpList Tryd.prog ops Q rest (a.put o.dst (.slice (some ⟨g, 0, none⟩) n cap)) w1) :
    wpList Tryd.prog ops Q (o :: rest) a w := by
  obtain ⟨i0, hi, hz0, hz1, hz2⟩ := info_parts info_u8
  have hB := h.hB
  refine wpList_append_sl hgd s x 24 ho B 5 i0 _ Tryd.underlying24 hi hz0 hz1 hz2 rfl v bs.length (Lib.byteCells bs) hs h.own B1 A m c t hx ht hl hB ?_
  intro v' w1 hown hgrow
  obtain ⟨g, cap, rfl, _, _⟩ := hown.form (by omega)
  have hb : Below B w w1 := (Below.refl B w).grown hgrow hB (fun k hk => (h.own.lt k hk).1)
  have hk : Lib.OthersKept 5 none w w1 := (Lib.OthersKept.refl _ _ w).grown hgrow (Lib.ownsRow_kind h.own)
  have hp := h.blk_kept hk
  obtain ⟨h1, h2⟩ := h.put (m := t) hb hk hown
  exact hK g _ cap w1 (by rw [cell_of_row w1 p 0 _ _ (0, 0) hp]; rfl) (by simp [World.frozen?, hp]) h1 h2

theorem Writer_Bool (B p : Nat) (b : Bool) (v : Value) (bs : List UInt8) (w : World) (h : WR w B p v bs) (hl : bs.length + 1 ≤ 140737488355328) :
    Calls Tryd.prog 42 #[.pointer (some ⟨p, 0, none⟩), .bool b] w fun x w' => ∃ v', x = .returned (.pointer (some ⟨p, 0, none⟩)) ∧ WR w' B p v' (bs ++ lBool b) ∧ KP B p w w' := by
  have hc0 := h.cell
  have H := Lib.hid h
  clear h
  cases b
  · go_enter Tryd.func42, Tryd.ntmps42
    go_wp2_with (at_builtin; go_must (refine wpList_wr1 rfl _ _ rfl H.out 122 (by omega) (by rfl) _ rfl (by rfl) ?_; intro g n1 cap w1 hc hf hw hk; have HW := Lib.hid hw; have HK1 := Lib.hid hk; clear hw hk))
    go_ret
    exact ⟨_, rfl, HW.out, HK1.out⟩
  · go_enter Tryd.func42, Tryd.ntmps42
    go_wp2_with (at_builtin; go_must (refine wpList_wr1 rfl _ _ rfl H.out 121 (by omega) (by rfl) _ rfl (by rfl) ?_; intro g n1 cap w1 hc hf hw hk; have HW := Lib.hid hw; have HK1 := Lib.hid hk; clear hw hk))
    go_ret
    exact ⟨_, rfl, HW.out, HK1.out⟩

theorem lHead_len (letter : UInt8) (n : Nat) (hn : n < 18446744073709551616) : 0 < (lHead letter n).length ∧ (lHead letter n).length ≤ 22 := by
  have := digits_le n hn
  simp [lHead]
  omega

theorem Writer_Text (B p : Nat) (t : ByteArray) (ht : t.size ≤ 9223372036854775807) (v : Value) (bs : List UInt8) (w : World) (hs : Std w) (hB6 : 6 ≤ B) (h : WR w B p v bs) (hl : bs.length + 23 + t.size ≤ 140737488355328) :
    Calls Tryd.prog 43 #[.pointer (some ⟨p, 0, none⟩), .string t] w fun x w' => ∃ v', x = .returned (.pointer (some ⟨p, 0, none⟩)) ∧ WR w' B p v' (bs ++ lText t.data.toList) ∧ KP B p w w' := by
  have c1 := Lib.hid (Writer_head B p t.size 116 ht v bs w hs hB6 h (by omega))
  have hz := lHead_len 116 t.size (by omega)
  have hts := Lib.hid (Lib.size_eq t)
  have HZ := Lib.hid hz
  clear h hz
  go_enter Tryd.func43, Tryd.ntmps43
  go_wp2_with fail
  refine c1.out.mono ?_
  rintro x w1 ⟨v1, rfl, h1, hk1⟩
  have hc1 := h1.cell
  have hl1 : 0 < (bs ++ lHead 116 t.size).length := by rw [List.length_append]; have := HZ.out; omega
  have hl2 : (bs ++ lHead 116 t.size).length + t.size ≤ 140737488355328 := by rw [List.length_append]; have := HZ.out; omega
  have H1 := Lib.hid h1
  have HK1 := Lib.hid hk1
  have HL1 := Lib.hid hl1
  have HL2 := Lib.hid hl2
  clear h1 hk1 hl1 hl2
  go_wp2_with (at_builtin; go_must (refine wpList_wrS rfl _ _ rfl H1.out t HL1.out HL2.out (by rfl) (by rfl) ?_; intro g n1 cap w2 hc hf hw hk; have HW := Lib.hid hw; have HK2 := Lib.hid hk; clear hw hk))
  go_ret
  have hfin := HW.out
  rw [hts.out, List.append_assoc] at hfin
  exact ⟨_, rfl, hfin, HK1.out.trans HK2.out⟩

theorem Writer_Bytes (B p : Nat) (A : Option Addr) (n c : Nat) (t : List UInt8) (B1 : Nat) (hB1 : B1 ≤ B) (v : Value) (bs : List UInt8) (w : World) (hs : Std w) (hB6 : 6 ≤ B) (h : WR w B p v bs) (ht : Sl w B1 (.slice A n c) t) (hl : bs.length + 23 + t.length ≤ 140737488355328) :
    Calls Tryd.prog 44 #[.pointer (some ⟨p, 0, none⟩), .slice A n c] w fun x w' => ∃ v', x = .returned (.pointer (some ⟨p, 0, none⟩)) ∧ WR w' B p v' (bs ++ lBytes t) ∧ KP B p w w' := by
  obtain ⟨hn, _, _⟩ := ht.len
  have c1 := Lib.hid (Writer_head B p n 98 (by omega) v bs w hs hB6 h (by omega))
  have hz := lHead_len 98 n (by omega)
  have hts := Lib.hid hn
  have HZ := Lib.hid hz
  have HT := Lib.hid ht
  have hln : bs.length + 23 + n ≤ 140737488355328 := by omega
  clear h hz hn ht hl
  go_enter Tryd.func44, Tryd.ntmps44
  go_wp2_with fail
  refine c1.out.mono ?_
  rintro x w1 ⟨v1, rfl, h1, hk1⟩
  have hc1 := h1.cell
  have hl1 : 0 < (bs ++ lHead 98 n).length := by rw [List.length_append]; have := HZ.out; omega
  have hl2 : (bs ++ lHead 98 n).length + t.length ≤ 140737488355328 := by rw [List.length_append]; have := HZ.out; have := hts.out; omega
  have H1 := Lib.hid h1
  have HK1 := Lib.hid hk1
  have HL1 := Lib.hid hl1
  have HL2 := Lib.hid hl2
  have HS := Lib.hid (HT.out.below (hk1.below.mono hB1))
  clear h1 hk1 hl1 hl2
  go_wp2_with (at_builtin; go_must (refine wpList_wrB rfl _ _ rfl H1.out B1 A n c t HS.out HL1.out HL2.out (by rfl) (by rfl) ?_; intro g n1 cap w2 hc hf hw hk; have HW := Lib.hid hw; have HK2 := Lib.hid hk; clear hw hk))
  go_ret
  have hfin := HW.out
  rw [hts.out, List.append_assoc] at hfin
  exact ⟨_, rfl, hfin, HK1.out.trans HK2.out⟩

theorem Writer_Done (B p : Nat) (v : Value) (bs : List UInt8) (w : World) (h : WR w B p v bs) (hl : bs.length ≤ 140737488355328) :
    Calls Tryd.prog 18 #[.pointer (some ⟨p, 0, none⟩)] w fun x w' => ∃ u, x = .returned u ∧ w'.ownsRow w.heap.size 5 1 u bs.length (Lib.byteCells bs) ∧ Below w.heap.size w w' := by
  have hc0 := h.cell
  have hS : Sl w w.heap.size v bs := Sl.of_own h.own _ fun g hg => (h.own.lt g hg).2
  clear h
  obtain ⟨A, c, rfl, hx⟩ := hS
  have c1 := Lib.hid (copied_any A bs.length c bs w w.heap.size ⟨A, c, rfl, hx⟩ hl)
  clear hx
  go_enter Tryd.func18, Tryd.ntmps18
  go_wp2_with (go_at_call 33; refine c1.out.mono ?_; rintro x w' ⟨u, rfl, hown, hb⟩; have HO := Lib.hid hown; have HB := Lib.hid hb; clear hown hb)
  go_ret
  exact ⟨u, rfl, HO.out, HB.out⟩

end Go.Proofs.YteblpfnmcbehmaaDoor.pk
