import Derived.Test.YtncaefocijainaaGreatDoorG30
import Derived.Test.YtncaefocijainaaGreatDoorG13
import Derived.Test.YtncaefocijainaaGreatDoorShelf
import Derived.Deep.AppendLies
import Derived.Lib.BufferKept
import Derived.Lib.OwnKind
import Derived.Test.YtncaefocijainaaGreatDoorG27
import Derived.Test.YtncaefocijainaaGreatDoorG22
namespace Go.Proofs.YtncaefocijainaaGreatDoor.pk
open Go Go.RowKit
set_option maxRecDepth 100000
section
theorem StdG.low {w w' : World} {B : Nat} (h : StdG w) (hB : 6 ≤ B) (hb : Below B w w') : StdG w' := ⟨var?_below hb gTabG (by omega) h.tab, Nat.le_trans h.size hb.size⟩
theorem StdG.tabBelow {w : World} {B : Nat} (h : StdG w) (hB : 6 ≤ B) : Lib.TabBelow Tryz.prog B w "internal/strconv.uint64pow10" .u64 Lib.pow10Tab := fun _ hb => (h.low hB hb).tab
theorem grown_set {w : World} {p i : Nat} (u : Value) : w.grownBy (w.setCell ⟨p, i, none⟩ u) (some p) :=
 ⟨rfl, rfl, rfl, by simp [World.setCell], fun k _ hne => Below.heap_setCell w _ u k (fun e => hne (by rw [e]))⟩
structure WR (w : World) (B p : Nat) (v : Value) (bs : List UInt8) : Prop where
 low : B ≤ p
 blk : w.heap[p]? = some (.cells #[v] 208 (0, 0))
 own : w.ownsRow B 5 1 v bs.length (Lib.byteCells bs)
structure KP (B p : Nat) (w w' : World) : Prop where
 below : Below B w w'
 others : Lib.OthersKept 5 (some p) w w'
theorem KP.trans {B p : Nat} {a b c : World} (h : KP B p a b) (k : KP B p b c) : KP B p a c := ⟨h.below.trans k.below, h.others.trans k.others⟩
theorem WR.lt {w : World} {B p : Nat} {v : Value} {bs : List UInt8} (h : WR w B p v bs) : p < w.heap.size := by
 rcases Nat.lt_or_ge p w.heap.size with hlt | hge
 · exact hlt
 · have := h.blk; rw [Array.getElem?_eq_none hge] at this; cases this
theorem WR.hB {w : World} {B p : Nat} {v : Value} {bs : List UInt8} (h : WR w B p v bs) : B ≤ w.heap.size := Nat.le_trans h.low (Nat.le_of_lt h.lt)
theorem WR.cell {w : World} {B p : Nat} {v : Value} {bs : List UInt8} (h : WR w B p v bs) : w.cell? ⟨p, 0, none⟩ = some v := by
 rw [cell_of_row w p 0 _ _ (0, 0) h.blk]; rfl
theorem WR.blk_kept {w w1 : World} {B p : Nat} {v : Value} {bs : List UInt8} (h : WR w B p v bs) (hk : Lib.OthersKept 5 none w w1) : w1.heap[p]? = some (.cells #[v] 208 (0, 0)) :=
 hk p _ h.blk (by simp) (fun c fz e => by injection e with _ e2; cases e2)
theorem WR.put {w w1 : World} {B p : Nat} {v v' : Value} {bs m : List UInt8} (h : WR w B p v bs) (hb : Below B w w1) (hk : Lib.OthersKept 5 none w w1)
   (hown : w1.ownsRow B 5 1 v' (bs.length + m.length) (Lib.byteCells bs ++ Lib.byteCells m)) :
   WR (w1.setCell ⟨p, 0, none⟩ v') B p v' (bs ++ m) ∧ KP B p w (w1.setCell ⟨p, 0, none⟩ v') := by
 have hp := h.blk_kept hk
 have hne : v'.ownBlock = none ∨ v'.ownBlock ≠ some p := by
   right
   intro e
   obtain ⟨c, fz, hc⟩ := Lib.ownsRow_kind hown p e
   rw [hp] at hc
   injection hc with hc
   injection hc with _ e2
   cases e2
 refine ⟨⟨h.low, ?_, ?_⟩, ⟨hb.setCell h.low v', ?_⟩⟩
 · simp [World.setCell, Array.getElem?_modify, hp]
 · have := hown.kept (grown_set (p := p) (i := 0) v') hne
   rw [List.length_append]
   simpa [Lib.byteCells] using this
 · have h1 : Lib.OthersKept 5 (some p) w w1 := fun k o ho _ hx => hk k o ho (by simp) hx
   exact h1.setCell _ rfl v'
theorem WR.grown1 {w w1 : World} {B p : Nat} {v : Value} {bs : List UInt8} {o : Obj} (h : WR w B p v bs) (hg : (w.alloc o).grownBy w1 v.ownBlock) : Below B w w1 ∧ Lib.OthersKept 5 none w w1 := by
 have hB := h.hB
 refine ⟨((Below.refl B w).alloc hB o).grown hg (by simp; omega) (fun k hk => (h.own.lt k hk).1), ?_⟩
 exact ((Lib.OthersKept.refl _ _ w).alloc o).grown hg (Lib.ownsRow_kind (h.own.alloc o))
theorem New_any (w : World) : Calls Tryz.prog 70 #[] w fun x w' => x = .returned (.pointer (some ⟨w.heap.size, 0, none⟩)) ∧ WR w' w.heap.size w.heap.size (.slice none 0 0) [] ∧ Below w.heap.size w w' := by
 go_enter Tryz.func70, Tryz.ntmps70
 go_wp2
 go_ret
 exact ⟨rfl, ⟨Nat.le_refl _, heap_alloc_new w _, World.ownsRow_nil _ _ _ _⟩, (Below.refl _ _).alloc (Nat.le_refl _) _⟩
theorem AppendUint_any (B n u : Nat) (hu64 : u < 18446744073709551616) (sv : Value) (xs : List Value) (w : World) (hs : StdG w) (hown : w.ownsRow B 5 1 sv n xs) (hBw : B ≤ w.heap.size) (hlim : n + 20 ≤ 140737488355328) :
   Calls Tryz.prog 105 #[sv, .int .u64 (u : Int), .int .i64 10] w fun e w' => ∃ v', e = .returned v' ∧ w'.ownsRow B 5 1 v' (n + (Lib.decDigits u).length) (xs ++ Lib.byteCells (Lib.decDigits u)) ∧ Below B w w' ∧ Lib.OthersKept 5 none w w' := by
 have c1 := jI (Tryz.internal_strconv_AppendUint_10 B n u hu64 sv xs w hown hBw hlim hs.tab)
 clear hown hlim hu64
 go_enter Tryz.func105, Tryz.ntmps105
 go_wp2_with (go_at_call 121; refine c1.out.mono ?_; rintro e w' ⟨v', rfl, h1, h2, h3⟩; have H1 := jI h1; have H2 := jI h2; have H3 := jI h3; clear h1 h2 h3)
 go_ret
 exact ⟨v', rfl, H1.out, H2.out, H3.out⟩
theorem wpList_wr1 {w : World} {B p : Nat} {v : Value} {bs : List UInt8} {ops : Array Oper} {rest : List Oper} {o : Oper} {a : Act} {Q : Exit → Act → World → Prop} (hgd : o.guard = none) (s x : Operand)
   (ho : o.op = .call { callee := .builtin .append, args := #[s, x], argTypes := #[33, 33] }) (h : WR w B p v bs) (c : UInt8) (hl : bs.length + 1 ≤ 140737488355328)
   (hs : a.eval s = v) (H : Nat) (hH : w.heap.size = H) (hx : a.eval x = .slice (some ⟨H, 0, none⟩) 1 1)
   (hK : ∀ g n cap w1, w1.cell? ⟨p, 0, none⟩ = some v → w1.frozen? ⟨p, 0, none⟩ = false →
     WR (w1.setCell ⟨p, 0, none⟩ (.slice (some ⟨g, 0, none⟩) n cap)) B p (.slice (some ⟨g, 0, none⟩) n cap) (bs ++ [c]) → KP B p w (w1.setCell ⟨p, 0, none⟩ (.slice (some ⟨g, 0, none⟩) n cap)) →
     wpList Tryz.prog ops Q rest (a.put o.dst (.slice (some ⟨g, 0, none⟩) n cap)) w1) :
   wpList Tryz.prog ops Q (o :: rest) a (w.alloc (.cells #[.int .u8 (c.toNat : Int)] 5)) := by
 obtain ⟨i0, hi, hz0, hz1, hz2⟩ := info_parts info_u8
 have hB := h.hB
 subst hH
 refine wpList_append_lies _ hgd s x 33 ho B 5 i0 _ 1 1 Tryz.underlying33 hi hz0 hz1 hz2 rfl (by omega) v bs.length (Lib.byteCells bs) hs (h.own.alloc _) ⟨w.heap.size, 0, none⟩ 1 1 [.int .u8 (c.toNat : Int)] hx rfl (cell_one_new _ _ _)
   (by intro u hu; simp at hu; subst hu; rfl) (by omega) (by simp only [maxLen]; omega) (by omega) (by simp; omega) _ rfl ?_
 intro g cap w1 hown hgrow _ _
 obtain ⟨hb, hk⟩ := h.grown1 hgrow
 have hp := h.blk_kept hk
 obtain ⟨h1, h2⟩ := h.put (m := [c]) hb hk hown
 exact hK g _ cap w1 (by rw [cell_of_row w1 p 0 _ _ (0, 0) hp]; rfl) (by simp [World.frozen?, hp]) h1 h2
theorem AppendInt_any (B n : Nat) (k : Int) (h0 : -9223372036854775808 ≤ k) (h1 : k ≤ 9223372036854775807) (hB6 : 6 ≤ B) (sv : Value) (xs : List Value) (w : World) (hs : StdG w) (hown : w.ownsRow B 5 1 sv n xs) (hBw : B ≤ w.heap.size) (hlim : n + 21 ≤ 140737488355328) :
   Calls Tryz.prog 122 #[sv, .int .i64 k, .int .i64 10] w fun e w' => ∃ v', e = .returned v' ∧ w'.ownsRow B 5 1 v' (n + (Lib.itoa k).length) (xs ++ Lib.byteCells (Lib.itoa k)) ∧ Below B w w' ∧ Lib.OthersKept 5 none w w' :=
 Tryz.strconv_AppendInt_10 B n k h0 h1 sv xs w hown hBw hlim (hs.tabBelow hB6)
theorem digits_pos (u : Nat) : 0 < (Lib.decDigits u).length := by
 rw [Lib.decDigits_length]; exact Lib.nDigits_pos u
theorem itoa_pos (k : Int) : 0 < (Lib.itoa k).length := by
 unfold Lib.itoa
 split
 · simp
 · exact digits_pos _
theorem digits_le (u : Nat) (hu : u < 18446744073709551616) : (Lib.decDigits u).length ≤ 20 := by
 rw [Lib.decDigits_length]; exact Lib.nDigits_le20 u hu
theorem WR.next {w w2 : World} {B p : Nat} {v v2 : Value} {bs m : List UInt8} (h : WR w B p v bs) (hb : Below B w w2) (hk : Lib.OthersKept 5 none w w2) (hm : 0 < m.length)
   (hown : w2.ownsRow B 5 1 v2 (bs.length + m.length) (Lib.byteCells bs ++ Lib.byteCells m)) :
   ∃ g n c, v2 = .slice (some ⟨g, 0, none⟩) n c ∧ w2.cell? ⟨p, 0, none⟩ = some v ∧ w2.frozen? ⟨p, 0, none⟩ = false ∧
     WR (w2.setCell ⟨p, 0, none⟩ (.slice (some ⟨g, 0, none⟩) n c)) B p (.slice (some ⟨g, 0, none⟩) n c) (bs ++ m) ∧ KP B p w (w2.setCell ⟨p, 0, none⟩ (.slice (some ⟨g, 0, none⟩) n c)) := by
 obtain ⟨g, c, rfl, _, _⟩ := hown.form (by omega)
 have hp := h.blk_kept hk
 obtain ⟨h1, h2⟩ := h.put (m := m) hb hk hown
 exact ⟨g, _, c, rfl, by rw [cell_of_row w2 p 0 _ _ (0, 0) hp]; rfl, by simp [World.frozen?, hp], h1, h2⟩
theorem Writer_Uint (B p u : Nat) (hu : u < 18446744073709551616) (v : Value) (bs : List UInt8) (w : World) (hs : StdG w) (hB6 : 6 ≤ B) (h : WR w B p v bs) (hl : bs.length + 22 ≤ 140737488355328) :
   Calls Tryz.prog 71 #[.pointer (some ⟨p, 0, none⟩), .int .u64 (u : Int)] w fun x w' => ∃ v', x = .returned (.pointer (some ⟨p, 0, none⟩)) ∧ WR w' B p v' (bs ++ lUint u) ∧ KP B p w w' := by
 have hc0 := h.cell
 have H := jI h
 have hlt := h.lt
 clear h
 go_enter Tryz.func71, Tryz.ntmps71
 go_wp2_with (at_builtin; go_must (refine wpList_wr1 rfl _ _ rfl H.out 110 (by omega) (by rfl) _ rfl (by rfl) ?_; intro g n1 cap w1 hc hf hw hk; have HW := jI hw; have HK1 := jI hk; clear hw hk))
 generalize World.setCell w1 ⟨p, 0, none⟩ (Value.slice (some ⟨g, 0, none⟩) n1 cap) = W1 at HW HK1 ⊢
 have HD := jI (digits_le u hu)
 go_at_call 105
 refine (AppendUint_any B (bs ++ [110]).length u hu _ _ W1 (hs.low hB6 HK1.out.below) HW.out.own HW.out.hB (by simp; omega)).mono ?_
 rintro e w2 ⟨v2, rfl, hown2, hb2, hk2⟩
 obtain ⟨g2, n2, c2, rfl, hc2, hf2, hw2, hk3⟩ := HW.out.next hb2 hk2 (digits_pos u) hown2
 have HW2 := jI hw2
 have HK2 := jI hk3
 clear hown2 hb2 hk2 hw2 hk3 hc hf hc0
 have hl1 := jI (show (bs ++ [110]).length = bs.length + 1 by simp)
 go_wp2_with (at_builtin; go_must (refine wpList_wr1 rfl _ _ rfl HW2.out 59 (by rw [List.length_append, hl1.out]; have := HD.out; omega) (by rfl) w2.heap.size (by simp [World.setCell]) (by rfl) ?_; intro g3 n3 cap3 w3 hc3 hf3 hw4 hk4; have HW3 := jI hw4; have HK4 := jI hk4; clear hw4 hk4))
 go_ret
 exact ⟨_, rfl, by simpa [lUint] using HW3.out, (HK1.out.trans HK2.out).trans HK4.out⟩
theorem itoa_le (k : Int) (h0 : -9223372036854775808 ≤ k) (h1 : k ≤ 9223372036854775807) : (Lib.itoa k).length ≤ 21 := Lib.itoa_length_le k h0 h1
theorem Writer_head (B p n : Nat) (letter : UInt8) (hn : n ≤ 9223372036854775807) (v : Value) (bs : List UInt8) (w : World) (hs : StdG w) (hB6 : 6 ≤ B) (h : WR w B p v bs) (hl : bs.length + 23 ≤ 140737488355328) :
   Calls Tryz.prog 106 #[.pointer (some ⟨p, 0, none⟩), .int .u8 (letter.toNat : Int), .int .i64 (n : Int)] w fun x w' => ∃ v', x = .returned (.tuple #[]) ∧ WR w' B p v' (bs ++ lHead letter n) ∧ KP B p w w' := by
 have hit := jI (Lib.itoa_nonneg n)
 have hc0 := h.cell
 have H := jI h
 have hlt := h.lt
 clear h
 go_enter Tryz.func106, Tryz.ntmps106
 go_wp2_with (at_builtin; go_must (refine wpList_wr1 rfl _ _ rfl H.out letter (by omega) (by rfl) _ rfl (by rfl) ?_; intro g n1 cap w1 hc hf hw hk; have HW := jI hw; have HK1 := jI hk; clear hw hk))
 generalize World.setCell w1 ⟨p, 0, none⟩ (Value.slice (some ⟨g, 0, none⟩) n1 cap) = W1 at HW HK1 ⊢
 have HD := jI (itoa_le n (by omega) (by omega))
 go_at_call 122
 refine (AppendInt_any B (bs ++ [letter]).length n (by omega) (by omega) hB6 _ _ W1 (hs.low hB6 HK1.out.below) HW.out.own HW.out.hB (by simp; omega)).mono ?_
 rintro e w2 ⟨v2, rfl, hown2, hb2, hk2⟩
 obtain ⟨g2, n2, c2, rfl, hc2, hf2, hw2, hk3⟩ := HW.out.next hb2 hk2 (itoa_pos n) hown2
 have HW2 := jI hw2
 have HK2 := jI hk3
 clear hown2 hb2 hk2 hw2 hk3 hc hf hc0
 have hl1 := jI (show (bs ++ [letter]).length = bs.length + 1 by simp)
 go_wp2_with (at_builtin; go_must (refine wpList_wr1 rfl _ _ rfl HW2.out 58 (by rw [List.length_append, hl1.out]; have := HD.out; omega) (by rfl) w2.heap.size (by simp [World.setCell]) (by rfl) ?_; intro g3 n3 cap3 w3 hc3 hf3 hw4 hk4; have HW3 := jI hw4; have HK4 := jI hk4; clear hw4 hk4))
 go_end0
 exact ⟨_, rfl, by have := HW3.out; rw [hit.out] at this; simpa [lHead] using this, (HK1.out.trans HK2.out).trans HK4.out⟩
theorem wpList_wrB {w : World} {B p : Nat} {v : Value} {bs : List UInt8} {ops : Array Oper} {rest : List Oper} {o : Oper} {a : Act} {Q : Exit → Act → World → Prop} (hgd : o.guard = none) (s x : Operand)
   (ho : o.op = .call { callee := .builtin .append, args := #[s, x], argTypes := #[33, 33] }) (h : WR w B p v bs) (B1 : Nat) (A : Option Addr) (m c : Nat) (t : List UInt8) (ht : Sl w B1 (.slice A m c) t) (h0 : 0 < bs.length) (hl : bs.length + t.length ≤ 140737488355328)
   (hs : a.eval s = v) (hx : a.eval x = .slice A m c)
   (hK : ∀ g n cap w1, w1.cell? ⟨p, 0, none⟩ = some v → w1.frozen? ⟨p, 0, none⟩ = false →
     WR (w1.setCell ⟨p, 0, none⟩ (.slice (some ⟨g, 0, none⟩) n cap)) B p (.slice (some ⟨g, 0, none⟩) n cap) (bs ++ t) → KP B p w (w1.setCell ⟨p, 0, none⟩ (.slice (some ⟨g, 0, none⟩) n cap)) →
     wpList Tryz.prog ops Q rest (a.put o.dst (.slice (some ⟨g, 0, none⟩) n cap)) w1) :
   wpList Tryz.prog ops Q (o :: rest) a w := by
 obtain ⟨i0, hi, hz0, hz1, hz2⟩ := info_parts info_u8
 have hB := h.hB
 refine wpList_append_sl hgd s x 33 ho B 5 i0 _ Tryz.underlying33 hi hz0 hz1 hz2 rfl v bs.length (Lib.byteCells bs) hs h.own B1 A m c t hx ht hl hB ?_
 intro v' w1 hown hgrow
 obtain ⟨g, cap, rfl, _, _⟩ := hown.form (by omega)
 have hb : Below B w w1 := (Below.refl B w).grown hgrow hB (fun k hk => (h.own.lt k hk).1)
 have hk : Lib.OthersKept 5 none w w1 := (Lib.OthersKept.refl _ _ w).grown hgrow (Lib.ownsRow_kind h.own)
 have hp := h.blk_kept hk
 obtain ⟨h1, h2⟩ := h.put (m := t) hb hk hown
 exact hK g _ cap w1 (by rw [cell_of_row w1 p 0 _ _ (0, 0) hp]; rfl) (by simp [World.frozen?, hp]) h1 h2
theorem lHead_len (letter : UInt8) (n : Nat) (hn : n < 18446744073709551616) : 0 < (lHead letter n).length ∧ (lHead letter n).length ≤ 22 := by
 have := digits_le n hn
 simp [lHead]
 omega
theorem Writer_Bytes (B p : Nat) (A : Option Addr) (n c : Nat) (t : List UInt8) (B1 : Nat) (hB1 : B1 ≤ B) (v : Value) (bs : List UInt8) (w : World) (hs : StdG w) (hB6 : 6 ≤ B) (h : WR w B p v bs) (ht : Sl w B1 (.slice A n c) t) (hl : bs.length + 23 + t.length ≤ 140737488355328) :
   Calls Tryz.prog 72 #[.pointer (some ⟨p, 0, none⟩), .slice A n c] w fun x w' => ∃ v', x = .returned (.pointer (some ⟨p, 0, none⟩)) ∧ WR w' B p v' (bs ++ lBytes t) ∧ KP B p w w' := by
 obtain ⟨hn, _, _⟩ := ht.len
 have c1 := jI (Writer_head B p n 98 (by omega) v bs w hs hB6 h (by omega))
 have hz := lHead_len 98 n (by omega)
 have hts := jI hn
 have HZ := jI hz
 have HT := jI ht
 have hln : bs.length + 23 + n ≤ 140737488355328 := by omega
 clear h hz hn ht hl
 go_enter Tryz.func72, Tryz.ntmps72
 go_wp2_with fail
 refine c1.out.mono ?_
 rintro x w1 ⟨v1, rfl, h1, hk1⟩
 have hc1 := h1.cell
 have hl1 : 0 < (bs ++ lHead 98 n).length := by rw [List.length_append]; have := HZ.out; omega
 have hl2 : (bs ++ lHead 98 n).length + t.length ≤ 140737488355328 := by rw [List.length_append]; have := HZ.out; have := hts.out; omega
 have H1 := jI h1
 have HK1 := jI hk1
 have HL1 := jI hl1
 have HL2 := jI hl2
 have HS := jI (HT.out.below (hk1.below.mono hB1))
 clear h1 hk1 hl1 hl2
 go_wp2_with (at_builtin; go_must (refine wpList_wrB rfl _ _ rfl H1.out B1 A n c t HS.out HL1.out HL2.out (by rfl) (by rfl) ?_; intro g n1 cap w2 hc hf hw hk; have HW := jI hw; have HK2 := jI hk; clear hw hk))
 go_ret
 have hfin := HW.out
 rw [hts.out, List.append_assoc] at hfin
 exact ⟨_, rfl, hfin, HK1.out.trans HK2.out⟩
theorem copied_any (A : Option Addr) (n c : Nat) (bs : List UInt8) (w : World) (B : Nat) (h : Sl w B (.slice A n c) bs) (hl : bs.length ≤ 140737488355328) :
   Calls Tryz.prog 107 #[.slice A n c] w fun x w' => ∃ v, x = .returned v ∧ w'.ownsRow w.heap.size 5 1 v bs.length (Lib.byteCells bs) ∧ Below w.heap.size w w' := by
 obtain ⟨i0, hi, hz0, hz1, hz2⟩ := info_parts info_u8
 have H := jI h
 clear h
 go_enter Tryz.func107, Tryz.ntmps107
 go_wp2_with (at_builtin; go_must (refine wpList_append_sl rfl _ _ 33 rfl w.heap.size 5 i0 _ Tryz.underlying33 hi hz0 hz1 hz2 rfl (.slice none 0 0) 0 [] rfl (World.ownsRow_nil _ _ _ _) B A n c bs rfl H.out (by omega) (Nat.le_refl _) ?_; intro v' w1 hown hgrow))
 go_ret
 refine ⟨v', rfl, by simpa using hown, (Below.refl _ _).grown hgrow (Nat.le_refl _) (by simp [Value.ownBlock])⟩
theorem Writer_Done (B p : Nat) (v : Value) (bs : List UInt8) (w : World) (h : WR w B p v bs) (hl : bs.length ≤ 140737488355328) :
   Calls Tryz.prog 75 #[.pointer (some ⟨p, 0, none⟩)] w fun x w' => ∃ u, x = .returned u ∧ w'.ownsRow w.heap.size 5 1 u bs.length (Lib.byteCells bs) ∧ Below w.heap.size w w' := by
 have hc0 := h.cell
 have hS : Sl w w.heap.size v bs := Sl.of_own h.own _ fun g hg => (h.own.lt g hg).2
 clear h
 obtain ⟨A, c, rfl, hx⟩ := hS
 have c1 := jI (copied_any A bs.length c bs w w.heap.size ⟨A, c, rfl, hx⟩ hl)
 clear hx
 go_enter Tryz.func75, Tryz.ntmps75
 go_wp2_with (go_at_call 107; refine c1.out.mono ?_; rintro x w' ⟨u, rfl, hown, hb⟩; have HO := jI hown; have HB := jI hb; clear hown hb)
 go_ret
 exact ⟨u, rfl, HO.out, HB.out⟩
end
section
set_option maxHeartbeats 4000000 in
theorem EEncT_any (e : En) (A : Option Addr) (n c : Nat) (w : World) (hs : StdG w) (h : Bys w (.slice A n c) e.data) (hn : n ≤ 100000) (m : Nat) (hm : m = (encE e).length) :
   Calls Tryz.prog 74 #[.agg #[.int .i64 e.index, .int .i64 e.term, .int .i64 e.kind, .slice A n c]] w fun x w' => ∃ A1 c1, x = .returned (.slice A1 m c1) ∧ SlT w' (fun q => w.heap.size ≤ q ∧ q < w'.heap.size) (.slice A1 m c1) (encE e) ∧ Below w.heap.size w w' := by
 obtain ⟨W1, g, hW1, hg, hb1, hq, hsz⟩ := one_box w (.cells #[.int .i64 e.index, .int .i64 e.term, .int .i64 e.kind, .slice A n c] 151)
 have hln := h.len_
 have HW := jI (jA hW1 hg)
 have HE := jI (jA hb1 hq)
 obtain ⟨u0, hu0⟩ : ∃ u, u = u64 e.index := ⟨_, rfl⟩
 obtain ⟨u1, hu1⟩ : ∃ u, u = u64 e.term := ⟨_, rfl⟩
 obtain ⟨u2, hu2⟩ : ∃ u, u = u64 e.kind := ⟨_, rfl⟩
 have k0 := wrap_u64 e.index
 have k1 := wrap_u64 e.term
 have k2 := wrap_u64 e.kind
 rw [← hu0] at k0
 rw [← hu1] at k1
 rw [← hu2] at k2
 have hl0 : u0 < 18446744073709551616 := by rw [hu0]; exact u64_lt _
 have hl1 : u1 < 18446744073709551616 := by rw [hu1]; exact u64_lt _
 have hl2 : u2 < 18446744073709551616 := by rw [hu2]; exact u64_lt _
 have hlen : ∀ u, u < 18446744073709551616 → (lUint u).length ≤ 22 := fun u hu => by have := decDigits_le u hu; unfold lUint; simp; omega
 obtain ⟨b1, hb1'⟩ : ∃ b, b = [] ++ lUint u0 := ⟨_, rfl⟩
 obtain ⟨b2, hb2'⟩ : ∃ b, b = b1 ++ lUint u1 := ⟨_, rfl⟩
 obtain ⟨b3, hb3'⟩ : ∃ b, b = b2 ++ lUint u2 := ⟨_, rfl⟩
 have hfin : encE e = b3 ++ lBytes e.data := by unfold encE; rw [hb3', hb2', hb1', ← hu0, ← hu1, ← hu2, List.nil_append]
 have hz1 : b1.length ≤ 22 := by rw [hb1', List.nil_append]; exact hlen _ hl0
 have hz2 : b2.length ≤ 44 := by rw [hb2', List.length_append]; have := hlen _ hl1; omega
 have hz3 : b3.length ≤ 66 := by rw [hb3', List.length_append]; have := hlen _ hl2; omega
 have hz4 : (encE e).length ≤ 140737488355328 := by have := encE_len (e := e) (by omega); omega
 have hd0 : Below W1.heap.size W1 W1.drew := (Below.refl _ _).drew
 have hs0 : StdG W1.drew := hs.below (hb1.trans (hd0.mono hb1.size))
 obtain ⟨B, hB⟩ : ∃ B, B = W1.drew.heap.size := ⟨_, rfl⟩
 have hGB : 6 ≤ B := by rw [hB]; exact hs0.size
 have hBW : W1.heap.size = B := by rw [hB]; rfl
 have C0 := jI (New_any W1.drew)
 rw [← hB] at C0
 have C1 := jI fun v W hsW hw => Writer_Uint B B u0 hl0 v [] W hsW hGB hw (by simp)
 have C2 := jI fun v W hsW hw => Writer_Uint B B u1 hl1 v b1 W hsW hGB hw (by omega)
 have C3 := jI fun v W hsW hw => Writer_Uint B B u2 hl2 v b2 W hsW hGB hw (by omega)
 have C4 := jI fun v W hsW hw ht => Writer_Bytes B B A n c e.data B (Nat.le_refl _) v b3 W hsW hGB hw ht (by omega)
 have C5 := jI fun v W hw => Writer_Done B B v (encE e) W hw hz4
 rw [← hb1'] at C1
 rw [← hb2'] at C2
 rw [← hb3'] at C3
 rw [← hfin] at C4
 have HN := jI (jA h (jA hs (jA hm hBW)))
 have HS := jI fun W (hW : Below B W1 W) => hs.below (hb1.trans (hW.mono (by rw [← hBW]; exact hb1.size)))
 clear h hs hn hm hW1 hg hb1 hq hsz hu0 hu1 hu2 hl0 hl1 hl2 hlen hfin hz1 hz2 hz3 hz4 hb1' hb2' hb3' hs0 hB hGB hln
 rw [hBW] at hd0
 go_enter Tryz.func74, Tryz.ntmps74
 go_upto_region 1 with fail
 rw [← HW.out.1, ← HW.out.2]
 refine wp_region_held_drew (S := fun W => Below B W1 W) (by kernel_rfl) hd0 (fun hHeld => ?_)
 have HCL := jI fun W (hW : Below B W1 W) => cells4 ((hW.block g (by rw [← hBW]; exact obj_lt HE.out.2)).trans HE.out.2)
 clear hBW
 refine wpAnyH_take (i := 1) (oi := { dst := Option.some 4, op := Op.fieldAddr 151 (Operand.tmp 1) 0, type := 0, pos := "bytes.go:10", after := #[], guard := Option.none }) (v := .pointer (some ⟨g, 0, none⟩)) rfl (by kernel_rfl) (by kernel_rfl) (by kernel_rfl) (fun _ _ _ h => h) (Or.inl ⟨by rfl, ?_⟩) hHeld ?_
 · intro W hSw
   obtain ⟨z0, z1, z2, z3⟩ := HCL.out _ hSw
   go_simp
 simp only [Act.put, qA, qB, qC]
 refine wpAnyH_take (i := 2) (oi := { dst := Option.some 5, op := Op.load 3 (Operand.tmp 4), type := 3, pos := "bytes.go:10", after := #[{ on := 1, ground := Ground.data }], guard := Option.none }) (v := .int .i64 e.index) rfl (by kernel_rfl) (by kernel_rfl) (by kernel_rfl) (fun _ _ _ h => h) (Or.inl ⟨by rfl, ?_⟩) hHeld ?_
 · intro W hSw
   obtain ⟨z0, z1, z2, z3⟩ := HCL.out _ hSw
   go_simp
 simp only [Act.put, qA, qB, qC]
 refine wpAnyH_take (i := 3) (oi := { dst := Option.some 6, op := Op.convert 3 91 (Operand.tmp 5), type := 91, pos := "bytes.go:10", after := #[{ on := 2, ground := Ground.data }], guard := Option.none }) (v := .int .u64 (u0 : Int)) rfl (by kernel_rfl) (by kernel_rfl) (by kernel_rfl) (fun _ _ _ h => h) (Or.inl ⟨by rfl, ?_⟩) hHeld ?_
 · intro W hSw
   obtain ⟨z0, z1, z2, z3⟩ := HCL.out _ hSw
   go_simp
 simp only [Act.put, qA, qB, qC]
 refine wpAnyH_take (i := 5) (oi := { dst := Option.some 8, op := Op.fieldAddr 151 (Operand.tmp 1) 1, type := 0, pos := "bytes.go:10", after := #[], guard := Option.none }) (v := .pointer (some ⟨g, 1, none⟩)) rfl (by kernel_rfl) (by kernel_rfl) (by kernel_rfl) (fun _ _ _ h => h) (Or.inl ⟨by rfl, ?_⟩) hHeld ?_
 · intro W hSw
   obtain ⟨z0, z1, z2, z3⟩ := HCL.out _ hSw
   go_simp
 simp only [Act.put, qA, qB, qC]
 refine wpAnyH_take (i := 6) (oi := { dst := Option.some 9, op := Op.load 3 (Operand.tmp 8), type := 3, pos := "bytes.go:10", after := #[{ on := 5, ground := Ground.data }], guard := Option.none }) (v := .int .i64 e.term) rfl (by kernel_rfl) (by kernel_rfl) (by kernel_rfl) (fun _ _ _ h => h) (Or.inl ⟨by rfl, ?_⟩) hHeld ?_
 · intro W hSw
   obtain ⟨z0, z1, z2, z3⟩ := HCL.out _ hSw
   go_simp
 simp only [Act.put, qA, qB, qC]
 refine wpAnyH_take (i := 7) (oi := { dst := Option.some 10, op := Op.convert 3 91 (Operand.tmp 9), type := 91, pos := "bytes.go:10", after := #[{ on := 6, ground := Ground.data }], guard := Option.none }) (v := .int .u64 (u1 : Int)) rfl (by kernel_rfl) (by kernel_rfl) (by kernel_rfl) (fun _ _ _ h => h) (Or.inl ⟨by rfl, ?_⟩) hHeld ?_
 · intro W hSw
   obtain ⟨z0, z1, z2, z3⟩ := HCL.out _ hSw
   go_simp
 simp only [Act.put, qA, qB, qC]
 refine wpAnyH_take (i := 9) (oi := { dst := Option.some 12, op := Op.fieldAddr 151 (Operand.tmp 1) 2, type := 0, pos := "bytes.go:10", after := #[], guard := Option.none }) (v := .pointer (some ⟨g, 2, none⟩)) rfl (by kernel_rfl) (by kernel_rfl) (by kernel_rfl) (fun _ _ _ h => h) (Or.inl ⟨by rfl, ?_⟩) hHeld ?_
 · intro W hSw
   obtain ⟨z0, z1, z2, z3⟩ := HCL.out _ hSw
   go_simp
 simp only [Act.put, qA, qB, qC]
 refine wpAnyH_take (i := 10) (oi := { dst := Option.some 13, op := Op.load 3 (Operand.tmp 12), type := 3, pos := "bytes.go:10", after := #[{ on := 9, ground := Ground.data }], guard := Option.none }) (v := .int .i64 e.kind) rfl (by kernel_rfl) (by kernel_rfl) (by kernel_rfl) (fun _ _ _ h => h) (Or.inl ⟨by rfl, ?_⟩) hHeld ?_
 · intro W hSw
   obtain ⟨z0, z1, z2, z3⟩ := HCL.out _ hSw
   go_simp
 simp only [Act.put, qA, qB, qC]
 refine wpAnyH_take (i := 11) (oi := { dst := Option.some 14, op := Op.convert 3 91 (Operand.tmp 13), type := 91, pos := "bytes.go:10", after := #[{ on := 10, ground := Ground.data }], guard := Option.none }) (v := .int .u64 (u2 : Int)) rfl (by kernel_rfl) (by kernel_rfl) (by kernel_rfl) (fun _ _ _ h => h) (Or.inl ⟨by rfl, ?_⟩) hHeld ?_
 · intro W hSw
   obtain ⟨z0, z1, z2, z3⟩ := HCL.out _ hSw
   go_simp
 simp only [Act.put, qA, qB, qC]
 refine wpAnyH_take (i := 13) (oi := { dst := Option.some 16, op := Op.fieldAddr 151 (Operand.tmp 1) 3, type := 0, pos := "bytes.go:10", after := #[], guard := Option.none }) (v := .pointer (some ⟨g, 3, none⟩)) rfl (by kernel_rfl) (by kernel_rfl) (by kernel_rfl) (fun _ _ _ h => h) (Or.inl ⟨by rfl, ?_⟩) hHeld ?_
 · intro W hSw
   obtain ⟨z0, z1, z2, z3⟩ := HCL.out _ hSw
   go_simp
 simp only [Act.put, qA, qB, qC]
 refine wpAnyH_take (i := 14) (oi := { dst := Option.some 17, op := Op.load 33 (Operand.tmp 16), type := 33, pos := "bytes.go:10", after := #[{ on := 13, ground := Ground.data }], guard := Option.none }) (v := .slice A n c) rfl (by kernel_rfl) (by kernel_rfl) (by kernel_rfl) (fun _ _ _ h => h) (Or.inl ⟨by rfl, ?_⟩) hHeld ?_
 · intro W hSw
   obtain ⟨z0, z1, z2, z3⟩ := HCL.out _ hSw
   go_simp
 simp only [Act.put, qA, qB, qC]
 clear k0 k1 k2
 refine wpAnyH_ready (rs := [0]) (by kernel_rfl) (by simp) ?_
 refine AllReadyH.cons (o := { dst := Option.some 3, op := Op.call { callee := Callee.value (Operand.func 70), args := #[], argTypes := #[] }, type := 156, pos := "bytes.go:10", after := #[], guard := Option.none }) rfl (fun K hK => ?_) AllReadyH.nil
 go_simp
 refine C0.out.mono ?_
 rintro y w1 ⟨rfl, hw1, hb⟩
 have hb : Below B W1 w1 := hd0.trans hb
 refine hK.out _ _ hb (fun hHeld2 => ?_)
 clear hK K hHeld
 have hHeld := hHeld2
 clear hHeld2
 have H1 := jI (jA hw1 hb)
 clear hw1 hb hd0
 refine wpAnyH_ready (rs := [4]) (by kernel_rfl) (by simp) ?_
 refine AllReadyH.cons (o := { dst := Option.some 7, op := Op.call { callee := Callee.value (Operand.func 71), args := #[Operand.tmp 3, Operand.tmp 6], argTypes := #[156, 91] }, type := 156, pos := "bytes.go:10", after := #[{ on := 0, ground := Ground.data }, { on := 3, ground := Ground.data }, { on := 0, ground := Ground.chain }], guard := Option.none }) rfl (fun K hK => ?_) AllReadyH.nil
 go_simp
 refine (C1.out _ _ (HS.out _ H1.out.2) H1.out.1).mono ?_
 rintro y w2 ⟨v2, rfl, hw2, hk2⟩
 have hb : Below B W1 w2 := H1.out.2.trans hk2.below
 refine hK.out _ _ hb (fun hHeld2 => ?_)
 clear hK K hHeld
 have hHeld := hHeld2
 clear hHeld2
 have H2 := jI (jA hw2 hb)
 clear hw2 hb hk2
 refine wpAnyH_ready (rs := [8]) (by kernel_rfl) (by simp) ?_
 refine AllReadyH.cons (o := { dst := Option.some 11, op := Op.call { callee := Callee.value (Operand.func 71), args := #[Operand.tmp 7, Operand.tmp 10], argTypes := #[156, 91] }, type := 156, pos := "bytes.go:10", after := #[{ on := 4, ground := Ground.data }, { on := 7, ground := Ground.data }, { on := 4, ground := Ground.chain }], guard := Option.none }) rfl (fun K hK => ?_) AllReadyH.nil
 go_simp
 refine (C2.out _ _ (HS.out _ H2.out.2) H2.out.1).mono ?_
 rintro y w3 ⟨v3, rfl, hw3, hk3⟩
 have hb : Below B W1 w3 := H2.out.2.trans hk3.below
 refine hK.out _ _ hb (fun hHeld2 => ?_)
 clear hK K hHeld
 have hHeld := hHeld2
 clear hHeld2
 have H3 := jI (jA hw3 hb)
 clear hw3 hb hk3
 refine wpAnyH_ready (rs := [12]) (by kernel_rfl) (by simp) ?_
 refine AllReadyH.cons (o := { dst := Option.some 15, op := Op.call { callee := Callee.value (Operand.func 71), args := #[Operand.tmp 11, Operand.tmp 14], argTypes := #[156, 91] }, type := 156, pos := "bytes.go:10", after := #[{ on := 8, ground := Ground.data }, { on := 11, ground := Ground.data }, { on := 8, ground := Ground.chain }], guard := Option.none }) rfl (fun K hK => ?_) AllReadyH.nil
 go_simp
 refine (C3.out _ _ (HS.out _ H3.out.2) H3.out.1).mono ?_
 rintro y w4 ⟨v4, rfl, hw4, hk4⟩
 have hb : Below B W1 w4 := H3.out.2.trans hk4.below
 refine hK.out _ _ hb (fun hHeld2 => ?_)
 clear hK K hHeld
 have hHeld := hHeld2
 clear hHeld2
 have H4 := jI (jA hw4 hb)
 clear hw4 hb hk4
 refine wpAnyH_ready (rs := [15]) (by kernel_rfl) (by simp) ?_
 refine AllReadyH.cons (o := { dst := Option.some 18, op := Op.call { callee := Callee.value (Operand.func 72), args := #[Operand.tmp 15, Operand.tmp 17], argTypes := #[156, 33] }, type := 156, pos := "bytes.go:10", after := #[{ on := 12, ground := Ground.data }, { on := 14, ground := Ground.data }, { on := 12, ground := Ground.chain }], guard := Option.none }) rfl (fun K hK => ?_) AllReadyH.nil
 go_simp
 refine (C4.out _ _ (HS.out _ H4.out.2) H4.out.1 (((HN.out.1.below HE.out.1).sl_.more (by rw [HN.out.2.2.2]; exact Nat.le_refl _)).below H4.out.2)).mono ?_
 rintro y w5 ⟨v5, rfl, hw5, hk5⟩
 have hb : Below B W1 w5 := H4.out.2.trans hk5.below
 refine hK.out _ _ hb (fun hHeld2 => ?_)
 clear hK K hHeld
 have hHeld := hHeld2
 clear hHeld2
 have H5 := jI (jA hw5 hb)
 clear hw5 hb hk5
 refine wpAnyH_ready (rs := [16]) (by kernel_rfl) (by simp) ?_
 refine AllReadyH.cons (o := { dst := Option.some 19, op := Op.call { callee := Callee.value (Operand.func 75), args := #[Operand.tmp 18], argTypes := #[156] }, type := 33, pos := "bytes.go:10", after := #[{ on := 15, ground := Ground.data }, { on := 15, ground := Ground.chain }], guard := Option.none }) rfl (fun K hK => ?_) AllReadyH.nil
 go_simp
 refine (C5.out _ _ H5.out.1).mono ?_
 rintro y w6 ⟨u, rfl, ho6, hb6⟩
 have hb : Below B W1 w6 := H5.out.2.trans (hb6.mono H5.out.1.hB)
 have hI : SlT w6 (fun q => w.heap.size ≤ q ∧ q < w6.heap.size) u (encE e) := SlT.of_own ho6 _ fun g hg => ⟨Nat.le_trans (Nat.le_trans HE.out.1.size (Nat.le_trans (Nat.le_of_eq HN.out.2.2.2) H5.out.1.hB)) (ho6.lt g hg).1, (ho6.lt g hg).2⟩
 obtain ⟨A6, c6, rfl, -, -⟩ := id hI
 rw [← HN.out.2.2.1] at hI ⊢
 refine hK.out _ _ hb (fun hHeld2 => ?_)
 clear hK K hHeld
 have hHeld := hHeld2
 clear hHeld2
 have H6 := jI (jA hI hb)
 clear hI hb ho6 hb6
 refine wpAnyH_take (i := 17) (oi := { dst := Option.some 2, op := Op.assign (Operand.tmp 19), type := 33, pos := "bytes.go:10", after := #[{ on := 16, ground := Ground.data }, { on := 16, ground := Ground.chain }, { on := 0, ground := Ground.phase }, { on := 1, ground := Ground.phase }, { on := 2, ground := Ground.phase }, { on := 3, ground := Ground.phase }, { on := 4, ground := Ground.phase }, { on := 5, ground := Ground.phase }, { on := 6, ground := Ground.phase }, { on := 7, ground := Ground.phase }, { on := 8, ground := Ground.phase }, { on := 9, ground := Ground.phase }, { on := 10, ground := Ground.phase }, { on := 11, ground := Ground.phase }, { on := 12, ground := Ground.phase }, { on := 13, ground := Ground.phase }, { on := 14, ground := Ground.phase }, { on := 15, ground := Ground.phase }, { on := 16, ground := Ground.phase }], guard := Option.none }) (v := .slice A6 m c6) rfl (by kernel_rfl) (by kernel_rfl) (by kernel_rfl) (fun _ _ _ h => h) (Or.inl ⟨by rfl, ?_⟩) hHeld ?_
 · intro W hSw
   go_simp
 simp only [Act.put, qA, qB, qC]
 clear hHeld
 refine wpAnyH_done (by kernel_rfl) ?_ _
 go_wp2_with fail
 go_ret
 exact ⟨A6, c6, rfl, H6.out.1, HE.out.1.trans (H6.out.2.mono (by have := HN.out.2.2.2; have := HE.out.1.size; omega))⟩
theorem EEnc_any (e : En) (A : Option Addr) (n c : Nat) (w : World) (hs : StdG w) (h : Bys w (.slice A n c) e.data) (hn : n ≤ 100000) (m : Nat) (hm : m = (encE e).length) :
   Calls Tryz.prog 74 #[.agg #[.int .i64 e.index, .int .i64 e.term, .int .i64 e.kind, .slice A n c]] w fun x w' => ∃ A1 c1, x = .returned (.slice A1 m c1) ∧ Bys w' (.slice A1 m c1) (encE e) ∧ Below w.heap.size w w' := by
 refine (EEncT_any e A n c w hs h hn m hm).mono ?_
 rintro y w' ⟨A1, c1, rfl, hi, hb⟩
 exact ⟨A1, c1, rfl, hi.mono fun k hk => hk.2, hb⟩
end
section
def entriesE (a b : List En) : Bool := decide (a.map encE = b.map encE)
theorem map_at {a b : List En} (h : a.map encE = b.map encE) {j : Nat} (ha : j < a.length) (hb : j < b.length) : encE a[j] = encE b[j] := by
 have h1 : (a.map encE)[j]? = (b.map encE)[j]? := by rw [h]
 rw [List.getElem?_map, List.getElem?_map, List.getElem?_eq_getElem ha, List.getElem?_eq_getElem hb] at h1
 simpa using h1
theorem map_of {a b : List En} (hl : a.length = b.length) (h : ∀ j (ha : j < a.length) (hb : j < b.length), encE a[j] = encE b[j]) : a.map encE = b.map encE := by
 refine List.ext_getElem (by simpa using hl) fun j h1 h2 => ?_
 simp only [List.getElem_map]
 exact h j _ _
theorem text_neL {a b : List UInt8} (h : a ≠ b) : ((⟨a.toArray⟩ : ByteArray).toList == (⟨b.toArray⟩ : ByteArray).toList) = false := by
 rw [beq_eq_false_iff_ne]
 simpa using h
set_option maxHeartbeats 8000000 in
theorem entries_any (A : Option Addr) (n c : Nat) (a : List En) (A' : Option Addr) (n' c' : Nat) (b : List En) (w : World) (hg : StdG w) (h : Ents w (.slice A n c) a) (h' : Ents w (.slice A' n' c') b) (hs : SmallE 1000000 100000 a) (hs' : SmallE 1000000 100000 b) (r : Bool) (hr : r = entriesE a b) :
   Calls Tryz.prog 89 #[.slice A n c, .slice A' n' c'] w fun y w' => y = .returned (.bool r) ∧ Below w.heap.size w w' := by
 obtain ⟨hn, hnc, hcm⟩ := h.len_
 obtain ⟨hn', hnc', hcm'⟩ := h'.len_
 have in1 : (n : Int) ≤ 9223372036854775807 := by omega
 have in2 : (n' : Int) ≤ 9223372036854775807 := by omega
 have HH := jI (jA h (jA h' (jA hn hn')))
 have HS := jI (jA hs (jA hs' hr))
 clear h h' hnc hnc' hcm hcm' hs hs' hr hn hn'
 by_cases hne : n = n'
 · obtain rfl : n = n' := hne
   go_enter Tryz.func89, Tryz.ntmps89
   go_wp2_with fail
   go_loopw [5] (fun ii wr => ∃ (j : Nat), j ≤ n ∧ ii = .int .i64 (j : Int) ∧ Below w.heap.size w wr ∧ Hid (∀ k (ha : k < a.length) (hb : k < b.length), k < j → encE a[k] = encE b[k])) (fun ii _ => n - (intOf ii).toNat)
   case atStart => exact ⟨0, Nat.zero_le _, rfl, Below.refl _ _, jI fun k _ _ hk => by omega⟩
   case round =>
     obtain ⟨j, hj, rfl, hbw, HE⟩ := hrel
     by_cases hlt : j < n
     · have ii : (j : Int) < (n : Int) := by omega
       have hka : j < a.length := by have := HH.out.2.2.1; omega
       have hkb : j < b.length := by have := HH.out.2.2.2; omega
       obtain ⟨ba, offa, Aa, ca, rfl, hba, hoka, q0, q1, q2, q3, hda⟩ := HH.out.1.at_ j hka
       obtain ⟨bb, offb, Ab, cb, rfl, hbb, hokb, r0, r1, r2, r3, hdb⟩ := HH.out.2.1.at_ j hkb
       have hsa := HS.out.1.2 _ (List.getElem_mem hka)
       have hsb := HS.out.2.1.2 _ (List.getElem_mem hkb)
       obtain ⟨x, hx⟩ : ∃ x, x = a[j] := ⟨_, rfl⟩
       obtain ⟨y, hy⟩ : ∃ y, y = b[j] := ⟨_, rfl⟩
       rw [← hx] at q0 q1 q2 q3 hda hsa
       rw [← hy] at r0 r1 r2 r3 hdb hsb
       obtain ⟨ma, hma⟩ : ∃ m, m = x.data.length := ⟨_, rfl⟩
       obtain ⟨mb, hmb⟩ : ∃ m, m = y.data.length := ⟨_, rfl⟩
       rw [← hma] at q3 hda hsa
       rw [← hmb] at r3 hdb hsb
       have hall : ∀ W, Below wr.heap.size wr W → (W.cell? ⟨ba, offa + j * 4, none⟩ = some (.int .i64 x.index) ∧ W.cell? ⟨ba, offa + j * 4 + 1, none⟩ = some (.int .i64 x.term) ∧ W.cell? ⟨ba, offa + j * 4 + 2, none⟩ = some (.int .i64 x.kind) ∧ W.cell? ⟨ba, offa + j * 4 + 3, none⟩ = some (.slice Aa ma ca)) ∧
           (W.cell? ⟨bb, offb + j * 4, none⟩ = some (.int .i64 y.index) ∧ W.cell? ⟨bb, offb + j * 4 + 1, none⟩ = some (.int .i64 y.term) ∧ W.cell? ⟨bb, offb + j * 4 + 2, none⟩ = some (.int .i64 y.kind) ∧ W.cell? ⟨bb, offb + j * 4 + 3, none⟩ = some (.slice Ab mb cb)) := fun W hW => by
         have hW' : Below w.heap.size w W := hbw.trans (hW.mono hbw.size)
         exact ⟨⟨(hW'.cell (p := ⟨ba, offa + j * 4, none⟩) hba).trans q0, (hW'.cell (p := ⟨ba, offa + j * 4 + 1, none⟩) hba).trans q1, (hW'.cell (p := ⟨ba, offa + j * 4 + 2, none⟩) hba).trans q2, (hW'.cell (p := ⟨ba, offa + j * 4 + 3, none⟩) hba).trans q3⟩,
           (hW'.cell (p := ⟨bb, offb + j * 4, none⟩) hbb).trans r0, (hW'.cell (p := ⟨bb, offb + j * 4 + 1, none⟩) hbb).trans r1, (hW'.cell (p := ⟨bb, offb + j * 4 + 2, none⟩) hbb).trans r2, (hW'.cell (p := ⟨bb, offb + j * 4 + 3, none⟩) hbb).trans r3⟩
       have HAL := jI hall
       obtain ⟨na, hna⟩ : ∃ m, m = (encE x).length := ⟨_, rfl⟩
       obtain ⟨nb, hnb⟩ : ∃ m, m = (encE y).length := ⟨_, rfl⟩
       have CA := jI fun W (hW : Below w.heap.size w W) => EEnc_any x Aa ma ca W (hg.below hW) (hda.below hW) hsa na hna
       have CB := jI fun W (hW : Below w.heap.size w W) => RefEncode_any y Ab mb cb W (hdb.below hW) (by omega) nb hnb
       have HXY := jI (jA hx hy)
       have HBW := jI hbw
       have hin : (j : Int) ≤ (n : Int) := by omega
       clear q0 q1 q2 q3 r0 r1 r2 r3 hda hdb hsa hsb hoka hokb hba hbb hx hy hall hna hnb hma hmb hbw
       go_upto_region 6 with fail
       have hd0 : Below wr.heap.size wr wr.drew := (Below.refl _ _).drew
       by_cases heq : encE x = encE y
       · have HEQ := jI heq
         obtain ⟨X1, hX1⟩ : ∃ X : ByteArray, X = ⟨(encE x).toArray⟩ := ⟨_, rfl⟩
         have hX2 : X1 = ⟨(encE y).toArray⟩ := by rw [hX1, heq]
         have HX1 := jI hX1
         have HX2 := jI hX2
         clear heq hX1 hX2
         refine wp_region_held_drew (S := fun W => Below wr.heap.size wr W) (by kernel_rfl) hd0 (fun hHeld => ?_)
         refine wpAnyH_take (i := 0) (oi := { dst := Option.some 17, op := Op.move (Operand.tmp 0), type := 29, pos := "law.go:68", after := #[], guard := Option.none }) (v := .slice (some ⟨ba, offa, none⟩) n c) rfl (by kernel_rfl) (by kernel_rfl) (by kernel_rfl) (fun _ _ _ h => h) (Or.inl ⟨by rfl, ?_⟩) hHeld ?_
         · intro W hSw
           obtain ⟨⟨z0, z1, z2, z3⟩, -⟩ := HAL.out _ hSw
           go_simp
         simp only [Act.put, qA, qB, qC]
         refine wpAnyH_take (i := 1) (oi := { dst := Option.some 18, op := Op.move (Operand.tmp 5), type := 3, pos := "law.go:68", after := #[], guard := Option.none }) (v := .int .i64 (j : Int)) rfl (by kernel_rfl) (by kernel_rfl) (by kernel_rfl) (fun _ _ _ h => h) (Or.inl ⟨by rfl, ?_⟩) hHeld ?_
         · intro W hSw
           obtain ⟨⟨z0, z1, z2, z3⟩, -⟩ := HAL.out _ hSw
           go_simp
         simp only [Act.put, qA, qB, qC]
         refine wpAnyH_take (i := 2) (oi := { dst := Option.some 19, op := Op.indexAddr 29 (Operand.tmp 17) (Operand.tmp 18), type := 0, pos := "law.go:68", after := #[{ on := 0, ground := Ground.data }, { on := 1, ground := Ground.data }], guard := Option.none }) (v := .pointer (some ⟨ba, offa + j * 4, none⟩)) rfl (by kernel_rfl) (by kernel_rfl) (by kernel_rfl) (fun _ _ _ h => h) (Or.inl ⟨by rfl, ?_⟩) hHeld ?_
         · intro W hSw
           obtain ⟨⟨z0, z1, z2, z3⟩, -⟩ := HAL.out _ hSw
           go_simp
         simp only [Act.put, qA, qB, qC]
         refine wpAnyH_take (i := 3) (oi := { dst := Option.some 20, op := Op.load 151 (Operand.tmp 19), type := 151, pos := "law.go:68", after := #[{ on := 2, ground := Ground.data }], guard := Option.none }) (v := .agg #[.int .i64 x.index, .int .i64 x.term, .int .i64 x.kind, .slice Aa ma ca]) rfl (by kernel_rfl) (by kernel_rfl) (by kernel_rfl) (fun _ _ _ h => h) (Or.inl ⟨by rfl, ?_⟩) hHeld ?_
         · intro W hSw
           obtain ⟨⟨z0, z1, z2, z3⟩, -⟩ := HAL.out _ hSw
           go_simp
         simp only [Act.put, qA, qB, qC]
         refine wpAnyH_take (i := 6) (oi := { dst := Option.some 23, op := Op.move (Operand.tmp 1), type := 46, pos := "law.go:68", after := #[], guard := Option.none }) (v := .slice (some ⟨bb, offb, none⟩) n c') rfl (by kernel_rfl) (by kernel_rfl) (by kernel_rfl) (fun _ _ _ h => h) (Or.inl ⟨by rfl, ?_⟩) hHeld ?_
         · intro W hSw
           obtain ⟨-, ⟨z0, z1, z2, z3⟩⟩ := HAL.out _ hSw
           go_simp
         simp only [Act.put, qA, qB, qC]
         refine wpAnyH_take (i := 7) (oi := { dst := Option.some 24, op := Op.move (Operand.tmp 5), type := 3, pos := "law.go:68", after := #[], guard := Option.none }) (v := .int .i64 (j : Int)) rfl (by kernel_rfl) (by kernel_rfl) (by kernel_rfl) (fun _ _ _ h => h) (Or.inl ⟨by rfl, ?_⟩) hHeld ?_
         · intro W hSw
           obtain ⟨-, ⟨z0, z1, z2, z3⟩⟩ := HAL.out _ hSw
           go_simp
         simp only [Act.put, qA, qB, qC]
         refine wpAnyH_take (i := 8) (oi := { dst := Option.some 25, op := Op.indexAddr 46 (Operand.tmp 23) (Operand.tmp 24), type := 0, pos := "law.go:68", after := #[{ on := 6, ground := Ground.data }, { on := 7, ground := Ground.data }], guard := Option.none }) (v := .pointer (some ⟨bb, offb + j * 4, none⟩)) rfl (by kernel_rfl) (by kernel_rfl) (by kernel_rfl) (fun _ _ _ h => h) (Or.inl ⟨by rfl, ?_⟩) hHeld ?_
         · intro W hSw
           obtain ⟨-, ⟨z0, z1, z2, z3⟩⟩ := HAL.out _ hSw
           go_simp
         simp only [Act.put, qA, qB, qC]
         refine wpAnyH_take (i := 9) (oi := { dst := Option.some 26, op := Op.load 96 (Operand.tmp 25), type := 96, pos := "law.go:68", after := #[{ on := 8, ground := Ground.data }], guard := Option.none }) (v := .agg #[.int .i64 y.index, .int .i64 y.term, .int .i64 y.kind, .slice Ab mb cb]) rfl (by kernel_rfl) (by kernel_rfl) (by kernel_rfl) (fun _ _ _ h => h) (Or.inl ⟨by rfl, ?_⟩) hHeld ?_
         · intro W hSw
           obtain ⟨-, ⟨z0, z1, z2, z3⟩⟩ := HAL.out _ hSw
           go_simp
         simp only [Act.put, qA, qB, qC]
         refine wpAnyH_ready (rs := [4]) (by kernel_rfl) (by simp) ?_
         refine AllReadyH.cons (o := { dst := Option.some 21, op := Op.call { callee := Callee.value (Operand.func 74), args := #[Operand.tmp 20], argTypes := #[151] }, type := 33, pos := "law.go:68", after := #[{ on := 3, ground := Ground.data }], guard := Option.none }) rfl (fun K hK => ?_) AllReadyH.nil
         go_simp
         refine (CA.out _ (HBW.out.trans (hd0.mono HBW.out.size))).mono ?_
         rintro y1 w1 ⟨A1, c1, rfl, hi1, hb1⟩
         have hb1 : Below wr.heap.size wr w1 := hd0.trans hb1
         refine hK.out _ _ hb1 (fun hHeld2 => ?_)
         clear hK K hHeld hHeld2
         have H1 := jI (jA hi1 hb1)
         refine wpAnyH_strong (S' := fun W => Below w1.heap.size w1 W) (fun W hW => H1.out.2.trans (hW.mono H1.out.2.size)) _ _ _ _ ?_
         have hHeld : Below w1.heap.size w1 w1 := Below.refl _ _
         clear hi1 hb1
         refine wpAnyH_take (i := 5) (oi := { dst := Option.some 22, op := Op.convert 33 9 (Operand.tmp 21), type := 9, pos := "law.go:68", after := #[{ on := 4, ground := Ground.data }], guard := Option.none }) (v := .string X1) rfl (by kernel_rfl) (by kernel_rfl) (by kernel_rfl) (fun _ _ _ h => h) (Or.inl ⟨by rfl, ?_⟩) hHeld ?_
         · intro W hSw
           have hv := conv_bytes (H1.out.1.below hSw).sl_; (try rw [← HX1.out] at hv); (try rw [← HX2.out] at hv)
           go_simp
         simp only [Act.put, qA, qB, qC]
         refine wpAnyH_ready (rs := [10]) (by kernel_rfl) (by simp) ?_
         refine AllReadyH.cons (o := { dst := Option.some 27, op := Op.call { callee := Callee.value (Operand.func 44), args := #[Operand.tmp 26], argTypes := #[96] }, type := 33, pos := "law.go:68", after := #[{ on := 9, ground := Ground.data }, { on := 4, ground := Ground.chain }], guard := Option.none }) rfl (fun K hK => ?_) AllReadyH.nil
         go_simp
         refine (CB.out _ (HBW.out.trans (H1.out.2.mono HBW.out.size))).mono ?_
         rintro y2 w2 ⟨A2, c2, rfl, hi2, hb2⟩
         refine hK.out _ _ hb2 (fun hHeld2 => ?_)
         clear hK K hHeld hHeld2
         have H2 := jI (jA hi2 (H1.out.2.trans (hb2.mono H1.out.2.size)))
         have H3 := jI hb2
         refine wpAnyH_strong (S' := fun W => Below w2.heap.size w2 W) (fun W hW => H3.out.trans (hW.mono H3.out.size)) _ _ _ _ ?_
         have hHeld : Below w2.heap.size w2 w2 := Below.refl _ _
         clear hi2 hb2
         refine wpAnyH_take (i := 11) (oi := { dst := Option.some 28, op := Op.convert 33 9 (Operand.tmp 27), type := 9, pos := "law.go:68", after := #[{ on := 10, ground := Ground.data }], guard := Option.none }) (v := .string X1) rfl (by kernel_rfl) (by kernel_rfl) (by kernel_rfl) (fun _ _ _ h => h) (Or.inl ⟨by rfl, ?_⟩) hHeld ?_
         · intro W hSw
           have hv := conv_bytes (H2.out.1.below hSw).sl_; (try rw [← HX1.out] at hv); (try rw [← HX2.out] at hv)
           go_simp
         simp only [Act.put, qA, qB, qC]
         refine wpAnyH_take (i := 12) (oi := { dst := Option.some 29, op := Op.binOp BinOp.neq 9 (Operand.tmp 22) (Operand.tmp 28) 9, type := 4, pos := "law.go:68", after := #[{ on := 5, ground := Ground.data }, { on := 11, ground := Ground.data }], guard := Option.none }) (v := .bool false) rfl (by kernel_rfl) (by kernel_rfl) (by kernel_rfl) (fun _ _ _ h => h) (Or.inl ⟨by rfl, ?_⟩) hHeld ?_
         · intro W hSw
           go_simp
         simp only [Act.put, qA, qB, qC]
         clear hHeld
         have HB := jI (HBW.out.trans (H2.out.2.mono HBW.out.size))
         refine wpAnyH_done (by kernel_rfl) ?_ _
         go_wp2_with fail
         go_roundw
         case rel =>
           refine ⟨j + 1, by omega, by go_num, HB.out, jI fun k ha hb hk => ?_⟩
           by_cases hkj : k < j
           · exact HE.out k ha hb hkj
           · obtain rfl : k = j := by omega
             rw [← HXY.out.1, ← HXY.out.2]
             exact HEQ.out
         case measure => simp [intOf]; omega
       · have HNE := jI heq
         have hne := text_neL heq
         obtain ⟨X1, hX1⟩ : ∃ X : ByteArray, X = ⟨(encE x).toArray⟩ := ⟨_, rfl⟩
         obtain ⟨X2, hX2⟩ : ∃ X : ByteArray, X = ⟨(encE y).toArray⟩ := ⟨_, rfl⟩
         rw [← hX1, ← hX2] at hne
         have HX1 := jI hX1
         have HX2 := jI hX2
         clear heq hX1 hX2
         refine wp_region_held_drew (S := fun W => Below wr.heap.size wr W) (by kernel_rfl) hd0 (fun hHeld => ?_)
         refine wpAnyH_take (i := 0) (oi := { dst := Option.some 17, op := Op.move (Operand.tmp 0), type := 29, pos := "law.go:68", after := #[], guard := Option.none }) (v := .slice (some ⟨ba, offa, none⟩) n c) rfl (by kernel_rfl) (by kernel_rfl) (by kernel_rfl) (fun _ _ _ h => h) (Or.inl ⟨by rfl, ?_⟩) hHeld ?_
         · intro W hSw
           obtain ⟨⟨z0, z1, z2, z3⟩, -⟩ := HAL.out _ hSw
           go_simp
         simp only [Act.put, qA, qB, qC]
         refine wpAnyH_take (i := 1) (oi := { dst := Option.some 18, op := Op.move (Operand.tmp 5), type := 3, pos := "law.go:68", after := #[], guard := Option.none }) (v := .int .i64 (j : Int)) rfl (by kernel_rfl) (by kernel_rfl) (by kernel_rfl) (fun _ _ _ h => h) (Or.inl ⟨by rfl, ?_⟩) hHeld ?_
         · intro W hSw
           obtain ⟨⟨z0, z1, z2, z3⟩, -⟩ := HAL.out _ hSw
           go_simp
         simp only [Act.put, qA, qB, qC]
         refine wpAnyH_take (i := 2) (oi := { dst := Option.some 19, op := Op.indexAddr 29 (Operand.tmp 17) (Operand.tmp 18), type := 0, pos := "law.go:68", after := #[{ on := 0, ground := Ground.data }, { on := 1, ground := Ground.data }], guard := Option.none }) (v := .pointer (some ⟨ba, offa + j * 4, none⟩)) rfl (by kernel_rfl) (by kernel_rfl) (by kernel_rfl) (fun _ _ _ h => h) (Or.inl ⟨by rfl, ?_⟩) hHeld ?_
         · intro W hSw
           obtain ⟨⟨z0, z1, z2, z3⟩, -⟩ := HAL.out _ hSw
           go_simp
         simp only [Act.put, qA, qB, qC]
         refine wpAnyH_take (i := 3) (oi := { dst := Option.some 20, op := Op.load 151 (Operand.tmp 19), type := 151, pos := "law.go:68", after := #[{ on := 2, ground := Ground.data }], guard := Option.none }) (v := .agg #[.int .i64 x.index, .int .i64 x.term, .int .i64 x.kind, .slice Aa ma ca]) rfl (by kernel_rfl) (by kernel_rfl) (by kernel_rfl) (fun _ _ _ h => h) (Or.inl ⟨by rfl, ?_⟩) hHeld ?_
         · intro W hSw
           obtain ⟨⟨z0, z1, z2, z3⟩, -⟩ := HAL.out _ hSw
           go_simp
         simp only [Act.put, qA, qB, qC]
         refine wpAnyH_take (i := 6) (oi := { dst := Option.some 23, op := Op.move (Operand.tmp 1), type := 46, pos := "law.go:68", after := #[], guard := Option.none }) (v := .slice (some ⟨bb, offb, none⟩) n c') rfl (by kernel_rfl) (by kernel_rfl) (by kernel_rfl) (fun _ _ _ h => h) (Or.inl ⟨by rfl, ?_⟩) hHeld ?_
         · intro W hSw
           obtain ⟨-, ⟨z0, z1, z2, z3⟩⟩ := HAL.out _ hSw
           go_simp
         simp only [Act.put, qA, qB, qC]
         refine wpAnyH_take (i := 7) (oi := { dst := Option.some 24, op := Op.move (Operand.tmp 5), type := 3, pos := "law.go:68", after := #[], guard := Option.none }) (v := .int .i64 (j : Int)) rfl (by kernel_rfl) (by kernel_rfl) (by kernel_rfl) (fun _ _ _ h => h) (Or.inl ⟨by rfl, ?_⟩) hHeld ?_
         · intro W hSw
           obtain ⟨-, ⟨z0, z1, z2, z3⟩⟩ := HAL.out _ hSw
           go_simp
         simp only [Act.put, qA, qB, qC]
         refine wpAnyH_take (i := 8) (oi := { dst := Option.some 25, op := Op.indexAddr 46 (Operand.tmp 23) (Operand.tmp 24), type := 0, pos := "law.go:68", after := #[{ on := 6, ground := Ground.data }, { on := 7, ground := Ground.data }], guard := Option.none }) (v := .pointer (some ⟨bb, offb + j * 4, none⟩)) rfl (by kernel_rfl) (by kernel_rfl) (by kernel_rfl) (fun _ _ _ h => h) (Or.inl ⟨by rfl, ?_⟩) hHeld ?_
         · intro W hSw
           obtain ⟨-, ⟨z0, z1, z2, z3⟩⟩ := HAL.out _ hSw
           go_simp
         simp only [Act.put, qA, qB, qC]
         refine wpAnyH_take (i := 9) (oi := { dst := Option.some 26, op := Op.load 96 (Operand.tmp 25), type := 96, pos := "law.go:68", after := #[{ on := 8, ground := Ground.data }], guard := Option.none }) (v := .agg #[.int .i64 y.index, .int .i64 y.term, .int .i64 y.kind, .slice Ab mb cb]) rfl (by kernel_rfl) (by kernel_rfl) (by kernel_rfl) (fun _ _ _ h => h) (Or.inl ⟨by rfl, ?_⟩) hHeld ?_
         · intro W hSw
           obtain ⟨-, ⟨z0, z1, z2, z3⟩⟩ := HAL.out _ hSw
           go_simp
         simp only [Act.put, qA, qB, qC]
         refine wpAnyH_ready (rs := [4]) (by kernel_rfl) (by simp) ?_
         refine AllReadyH.cons (o := { dst := Option.some 21, op := Op.call { callee := Callee.value (Operand.func 74), args := #[Operand.tmp 20], argTypes := #[151] }, type := 33, pos := "law.go:68", after := #[{ on := 3, ground := Ground.data }], guard := Option.none }) rfl (fun K hK => ?_) AllReadyH.nil
         go_simp
         refine (CA.out _ (HBW.out.trans (hd0.mono HBW.out.size))).mono ?_
         rintro y1 w1 ⟨A1, c1, rfl, hi1, hb1⟩
         have hb1 : Below wr.heap.size wr w1 := hd0.trans hb1
         refine hK.out _ _ hb1 (fun hHeld2 => ?_)
         clear hK K hHeld hHeld2
         have H1 := jI (jA hi1 hb1)
         refine wpAnyH_strong (S' := fun W => Below w1.heap.size w1 W) (fun W hW => H1.out.2.trans (hW.mono H1.out.2.size)) _ _ _ _ ?_
         have hHeld : Below w1.heap.size w1 w1 := Below.refl _ _
         clear hi1 hb1
         refine wpAnyH_take (i := 5) (oi := { dst := Option.some 22, op := Op.convert 33 9 (Operand.tmp 21), type := 9, pos := "law.go:68", after := #[{ on := 4, ground := Ground.data }], guard := Option.none }) (v := .string X1) rfl (by kernel_rfl) (by kernel_rfl) (by kernel_rfl) (fun _ _ _ h => h) (Or.inl ⟨by rfl, ?_⟩) hHeld ?_
         · intro W hSw
           have hv := conv_bytes (H1.out.1.below hSw).sl_; (try rw [← HX1.out] at hv); (try rw [← HX2.out] at hv)
           go_simp
         simp only [Act.put, qA, qB, qC]
         refine wpAnyH_ready (rs := [10]) (by kernel_rfl) (by simp) ?_
         refine AllReadyH.cons (o := { dst := Option.some 27, op := Op.call { callee := Callee.value (Operand.func 44), args := #[Operand.tmp 26], argTypes := #[96] }, type := 33, pos := "law.go:68", after := #[{ on := 9, ground := Ground.data }, { on := 4, ground := Ground.chain }], guard := Option.none }) rfl (fun K hK => ?_) AllReadyH.nil
         go_simp
         refine (CB.out _ (HBW.out.trans (H1.out.2.mono HBW.out.size))).mono ?_
         rintro y2 w2 ⟨A2, c2, rfl, hi2, hb2⟩
         refine hK.out _ _ hb2 (fun hHeld2 => ?_)
         clear hK K hHeld hHeld2
         have H2 := jI (jA hi2 (H1.out.2.trans (hb2.mono H1.out.2.size)))
         have H3 := jI hb2
         refine wpAnyH_strong (S' := fun W => Below w2.heap.size w2 W) (fun W hW => H3.out.trans (hW.mono H3.out.size)) _ _ _ _ ?_
         have hHeld : Below w2.heap.size w2 w2 := Below.refl _ _
         clear hi2 hb2
         refine wpAnyH_take (i := 11) (oi := { dst := Option.some 28, op := Op.convert 33 9 (Operand.tmp 27), type := 9, pos := "law.go:68", after := #[{ on := 10, ground := Ground.data }], guard := Option.none }) (v := .string X2) rfl (by kernel_rfl) (by kernel_rfl) (by kernel_rfl) (fun _ _ _ h => h) (Or.inl ⟨by rfl, ?_⟩) hHeld ?_
         · intro W hSw
           have hv := conv_bytes (H2.out.1.below hSw).sl_; (try rw [← HX1.out] at hv); (try rw [← HX2.out] at hv)
           go_simp
         simp only [Act.put, qA, qB, qC]
         refine wpAnyH_take (i := 12) (oi := { dst := Option.some 29, op := Op.binOp BinOp.neq 9 (Operand.tmp 22) (Operand.tmp 28) 9, type := 4, pos := "law.go:68", after := #[{ on := 5, ground := Ground.data }, { on := 11, ground := Ground.data }], guard := Option.none }) (v := .bool true) rfl (by kernel_rfl) (by kernel_rfl) (by kernel_rfl) (fun _ _ _ h => h) (Or.inl ⟨by rfl, ?_⟩) hHeld ?_
         · intro W hSw
           go_simp
         simp only [Act.put, qA, qB, qC]
         clear hHeld
         have HB := jI (HBW.out.trans (H2.out.2.mono HBW.out.size))
         refine wpAnyH_done (by kernel_rfl) ?_ _
         go_wp2_with fail
         go_ret
         exact ⟨ret_bool (by
           rw [HS.out.2.2]
           unfold entriesE
           rw [decide_eq_false]
           intro hm
           have h1 := map_at hm hka hkb
           rw [← HXY.out.1, ← HXY.out.2] at h1
           exact HNE.out h1), HB.out⟩
     · obtain rfl : j = n := by omega
       have ii : ¬ (j : Int) < (j : Int) := by omega
       go_wp2_with fail
       go_ret
       refine ⟨ret_bool ?_, hbw⟩
       rw [HS.out.2.2]
       unfold entriesE
       rw [decide_eq_true]
       exact map_of (by rw [← HH.out.2.2.1, ← HH.out.2.2.2]) fun k ha hb => HE.out k ha hb (by have := HH.out.2.2.1; omega)
 · have hne' : ¬ (n : Int) = (n' : Int) := by omega
   have HR := jI (show r = false by
     rw [HS.out.2.2]
     unfold entriesE
     rw [decide_eq_false]
     intro hm
     have h1 := congrArg List.length hm
     simp only [List.length_map] at h1
     have := HH.out.2.2.1
     have := HH.out.2.2.2
     omega)
   have hz : ((n : Int) == (n' : Int)) = false := beq_eq_false_iff_ne.2 hne'
   clear hne hne'
   go_enter Tryz.func89, Tryz.ntmps89
   go_wp2_with fail
   go_ret
   exact ⟨ret_bool HR.out.symm, Below.refl _ _⟩
def sameE (l l' : Lg) : Bool := decide (l.base = l'.base ∧ l.term = l'.term) && entriesE l.l l'.l
theorem entriesE_refl (a : List En) : entriesE a a = true := decide_eq_true rfl
theorem sameE_refl (l : Lg) : sameE l l = true := by unfold sameE; rw [entriesE_refl, decide_eq_true ⟨rfl, rfl⟩]; rfl
set_option maxHeartbeats 8000000 in
theorem sameLog_any (l : Lg) (A : Option Addr) (n c : Nat) (l' : Lg) (A' : Option Addr) (n' c' : Nat) (w : World) (hg : StdG w) (h : Ents w (.slice A n c) l.l) (h' : Ents w (.slice A' n' c') l'.l) (hs : SmallE 1000000 100000 l.l) (hs' : SmallE 1000000 100000 l'.l) (r : Bool) (hr : r = sameE l l') :
   Calls Tryz.prog 46 #[.agg #[.int .i64 l.base, .int .i64 l.term, .slice A n c], .agg #[.int .i64 l'.base, .int .i64 l'.term, .slice A' n' c']] w fun y w' => y = .returned (.bool r) ∧ Below w.heap.size w w' := by
 obtain ⟨W1, g, g2, hW1, hgg, hg2, hb1, hq, hq2, hsz⟩ := two_box w (.cells #[.int .i64 l.base, .int .i64 l.term, .slice A n c] 31) (.cells #[.int .i64 l'.base, .int .i64 l'.term, .slice A' n' c'] 48)
 have HW := jI (jA hW1 (jA hgg hg2))
 obtain ⟨x0, x1, x2⟩ := cells3 hq
 obtain ⟨y0, y1, y2⟩ := cells3 hq2
 have HB := jI hb1
 have CE := jI (entries_any A n c l.l A' n' c' l'.l W1 (hg.below hb1) (h.below hb1) (h'.below hb1) hs hs' _ rfl)
 obtain ⟨base, tm, es⟩ := l
 obtain ⟨base', tm', es'⟩ := l'
 have HR := jI hr
 simp only at x0 x1 x2 y0 y1 y2 HW HR CE ⊢
 clear h h' hs hs' hr hW1 hgg hg2 hb1 hq hq2 hsz
 by_cases h1 : base = base'
 · subst h1
   by_cases h2 : tm = tm'
   · subst h2
     have HR2 := jI (show r = entriesE es es' by rw [HR.out]; unfold sameE; rw [decide_eq_true ⟨rfl, rfl⟩, Bool.true_and])
     clear HR
     go_enter Tryz.func46, Tryz.ntmps46
     go_upto_region 1 with fail
     rw [← HW.out.1, ← HW.out.2.1, ← HW.out.2.2]
     go_wp2_with (go_at_call 89; go_must (refine CE.out.mono ?_; rintro y w1 ⟨rfl, hb1⟩; have HB2 := jI (HB.out.trans (hb1.mono HB.out.size)); clear hb1))
     go_ret
     exact ⟨ret_bool HR2.out.symm, HB2.out⟩
   · have HR2 := jI (show r = false by rw [HR.out]; unfold sameE; rw [decide_eq_false (fun h => h2 h.2), Bool.false_and])
     have hz : (tm == tm') = false := beq_eq_false_iff_ne.2 h2
     clear HR
     go_enter Tryz.func46, Tryz.ntmps46
     go_upto_region 1 with fail
     rw [← HW.out.1, ← HW.out.2.1, ← HW.out.2.2]
     go_wp2_with fail
     go_ret
     exact ⟨ret_bool HR2.out.symm, HB.out⟩
 · have HR2 := jI (show r = false by rw [HR.out]; unfold sameE; rw [decide_eq_false (fun h => h1 h.1), Bool.false_and])
   have hz : (base == base') = false := beq_eq_false_iff_ne.2 h1
   clear HR
   go_enter Tryz.func46, Tryz.ntmps46
   go_upto_region 1 with fail
   rw [← HW.out.1, ← HW.out.2.1, ← HW.out.2.2]
   go_wp2_with fail
   go_ret
   exact ⟨ret_bool HR2.out.symm, HB.out⟩
end
end Go.Proofs.YtncaefocijainaaGreatDoor.pk
