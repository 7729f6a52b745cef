/-
  The package pack's writer, in the words of the later stages: New, Uint, Bytes, Done.
-/
import Derived.Test.YtlngcfaadfkbnaaDoorLayN
import Derived.Test.YtlngcfaadfkbnaaDoorStdG
import Derived.Test.YtlngcfaadfkbnaaDoorShelf
import Derived.Deep.AppendLies
import Derived.Lib.BufferKept
import Derived.Lib.OwnKind
namespace Go.Proofs.YtlngcfaadfkbnaaDoor.pk
open Go Go.RowKit
set_option maxRecDepth 100000

theorem StdG.low {w w' : World} {B : Nat} (h : StdG w) (hB : 4 ≤ B) (hb : Below B w w') : StdG w' := ⟨var?_below hb gTabG (by omega) h.tab, Nat.le_trans h.size hb.size⟩
theorem StdG.tabBelow {w : World} {B : Nat} (h : StdG w) (hB : 4 ≤ B) : Lib.TabBelow Tryd.prog B w "internal/strconv.uint64pow10" .u64 Lib.pow10Tab := fun _ hb => (h.low hB hb).tab

theorem grown_set {w : World} {p i : Nat} (u : Value) : w.grownBy (w.setCell ⟨p, i, none⟩ u) (some p) :=
  ⟨rfl, rfl, rfl, by simp [World.setCell], fun k _ hne => Below.heap_setCell w _ u k (fun e => hne (by rw [e]))⟩

/-- A writer in block p, what it holds in a row from block B on. -/
structure WR (w : World) (B p : Nat) (v : Value) (bs : List UInt8) : Prop where
  low : B ≤ p
  blk : w.heap[p]? = some (.cells #[v] 106 (0, 0))
  own : w.ownsRow B 5 1 v bs.length (Lib.byteCells bs)
/-- What a writer's call leaves as it was: all below B, and of the rest all that is no row of bytes, but the writer. -/
structure KP (B p : Nat) (w w' : World) : Prop where
  below : Below B w w'
  others : Lib.OthersKept 5 (some p) w w'
theorem KP.refl (B p : Nat) (w : World) : KP B p w w := ⟨Below.refl _ _, Lib.OthersKept.refl _ _ _⟩
theorem KP.trans {B p : Nat} {a b c : World} (h : KP B p a b) (k : KP B p b c) : KP B p a c := ⟨h.below.trans k.below, h.others.trans k.others⟩

theorem WR.lt {w : World} {B p : Nat} {v : Value} {bs : List UInt8} (h : WR w B p v bs) : p < w.heap.size := by
  rcases Nat.lt_or_ge p w.heap.size with hlt | hge
  · exact hlt
  · have := h.blk; rw [Array.getElem?_eq_none hge] at this; cases this
theorem WR.hB {w : World} {B p : Nat} {v : Value} {bs : List UInt8} (h : WR w B p v bs) : B ≤ w.heap.size := Nat.le_trans h.low (Nat.le_of_lt h.lt)
theorem WR.cell {w : World} {B p : Nat} {v : Value} {bs : List UInt8} (h : WR w B p v bs) : w.cell? ⟨p, 0, none⟩ = some v := by
  rw [cell_of_row w p 0 _ _ (0, 0) h.blk]; rfl
theorem WR.fz {w : World} {B p : Nat} {v : Value} {bs : List UInt8} (h : WR w B p v bs) (i : Nat) : w.frozen? ⟨p, i, none⟩ = false := by
  simp [World.frozen?, h.blk]
theorem WR.blk_kept {w w1 : World} {B p : Nat} {v : Value} {bs : List UInt8} (h : WR w B p v bs) (hk : Lib.OthersKept 5 none w w1) : w1.heap[p]? = some (.cells #[v] 106 (0, 0)) :=
  hk p _ h.blk (by simp) (fun c fz e => by injection e with _ e2; cases e2)

/-- The row has grown; it is stored back. -/
theorem WR.put {w w1 : World} {B p : Nat} {v v' : Value} {bs m : List UInt8} (h : WR w B p v bs) (hb : Below B w w1) (hk : Lib.OthersKept 5 none w w1)
    (hown : w1.ownsRow B 5 1 v' (bs.length + m.length) (Lib.byteCells bs ++ Lib.byteCells m)) :
    WR (w1.setCell ⟨p, 0, none⟩ v') B p v' (bs ++ m) ∧ KP B p w (w1.setCell ⟨p, 0, none⟩ v') := by
  have hp := h.blk_kept hk
  have hne : v'.ownBlock = none ∨ v'.ownBlock ≠ some p := by
    right
    intro e
    obtain ⟨c, fz, hc⟩ := Lib.ownsRow_kind hown p e
    rw [hp] at hc
    injection hc with hc
    injection hc with _ e2
    cases e2
  refine ⟨⟨h.low, ?_, ?_⟩, ⟨hb.setCell h.low v', ?_⟩⟩
  · simp [World.setCell, Array.getElem?_modify, hp]
  · have := hown.kept (grown_set (p := p) (i := 0) v') hne
    rw [List.length_append]
    simpa [Lib.byteCells] using this
  · have h1 : Lib.OthersKept 5 (some p) w w1 := fun k o ho _ hx => hk k o ho (by simp) hx
    exact h1.setCell _ rfl v'

/-- What an append of one byte gives. -/
theorem WR.grown1 {w w1 : World} {B p : Nat} {v : Value} {bs : List UInt8} {o : Obj} (h : WR w B p v bs) (hg : (w.alloc o).grownBy w1 v.ownBlock) : Below B w w1 ∧ Lib.OthersKept 5 none w w1 := by
  have hB := h.hB
  refine ⟨((Below.refl B w).alloc hB o).grown hg (by simp; omega) (fun k hk => (h.own.lt k hk).1), ?_⟩
  exact ((Lib.OthersKept.refl _ _ w).alloc o).grown hg (Lib.ownsRow_kind (h.own.alloc o))

/-- 'New()'. -/
theorem New_any (w : World) : Calls Tryd.prog 40 #[] w fun x w' => x = .returned (.pointer (some ⟨w.heap.size, 0, none⟩)) ∧ WR w' w.heap.size w.heap.size (.slice none 0 0) [] ∧ Below w.heap.size w w' := by
  go_enter Tryd.func40, Tryd.ntmps40
  go_wp2
  go_ret
  exact ⟨rfl, ⟨Nat.le_refl _, heap_alloc_new w _, World.ownsRow_nil _ _ _ _⟩, (Below.refl _ _).alloc (Nat.le_refl _) _⟩

theorem AppendUint_any (B n u : Nat) (hu64 : u < 18446744073709551616) (sv : Value) (xs : List Value) (w : World) (hs : StdG w) (hown : w.ownsRow B 5 1 sv n xs) (hBw : B ≤ w.heap.size) (hlim : n + 20 ≤ 140737488355328) :
    Calls Tryd.prog 58 #[sv, .int .u64 (u : Int), .int .i64 10] w fun e w' => ∃ v', e = .returned v' ∧ w'.ownsRow B 5 1 v' (n + (Lib.decDigits u).length) (xs ++ Lib.byteCells (Lib.decDigits u)) ∧ Below B w w' ∧ Lib.OthersKept 5 none w w' := by
  have c1 := Lib.hid (Tryd.internal_strconv_AppendUint_10 B n u hu64 sv xs w hown hBw hlim hs.tab)
  clear hown hlim hu64
  go_enter Tryd.func58, Tryd.ntmps58
  go_wp2_with (go_at_call 66; refine c1.out.mono ?_; rintro e w' ⟨v', rfl, h1, h2, h3⟩; have H1 := Lib.hid h1; have H2 := Lib.hid h2; have H3 := Lib.hid h3; clear h1 h2 h3)
  go_ret
  exact ⟨v', rfl, H1.out, H2.out, H3.out⟩

/-- 'append(w.b, c)' at a writer's row, behind the new block that holds the byte. -/
theorem wpList_wr1 {w : World} {B p : Nat} {v : Value} {bs : List UInt8} {ops : Array Oper} {rest : List Oper} {o : Oper} {a : Act} {Q : Exit → Act → World → Prop} (hgd : o.guard = none) (s x : Operand)
    (ho : o.op = .call { callee := .builtin .append, args := #[s, x], argTypes := #[39, 39] }) (h : WR w B p v bs) (c : UInt8) (hl : bs.length + 1 ≤ 140737488355328)
    (hs : a.eval s = v) (H : Nat) (hH : w.heap.size = H) (hx : a.eval x = .slice (some ⟨H, 0, none⟩) 1 1)
    (hK : ∀ g n cap w1, w1.cell? ⟨p, 0, none⟩ = some v → w1.frozen? ⟨p, 0, none⟩ = false →
      WR (w1.setCell ⟨p, 0, none⟩ (.slice (some ⟨g, 0, none⟩) n cap)) B p (.slice (some ⟨g, 0, none⟩) n cap) (bs ++ [c]) → KP B p w (w1.setCell ⟨p, 0, none⟩ (.slice (some ⟨g, 0, none⟩) n cap)) →
      wpList Tryd.prog ops Q rest (a.put o.dst (.slice (some ⟨g, 0, none⟩) n cap)) w1) :
    wpList Tryd.prog ops Q (o :: rest) a (w.alloc (.cells #[.int .u8 (c.toNat : Int)] 5)) := by
  obtain ⟨i0, hi, hz0, hz1, hz2⟩ := info_parts info_u8
  have hB := h.hB
  subst hH
  refine wpList_append_lies _ hgd s x 39 ho B 5 i0 _ 1 1 Tryd.underlying39 hi hz0 hz1 hz2 rfl (by omega) v bs.length (Lib.byteCells bs) hs (h.own.alloc _) ⟨w.heap.size, 0, none⟩ 1 1 [.int .u8 (c.toNat : Int)] hx rfl (cell_one_new _ _ _)
    (by intro u hu; simp at hu; subst hu; rfl) (by omega) (by simp only [maxLen]; omega) (by omega) (by simp; omega) _ rfl ?_
  intro g cap w1 hown hgrow _ _
  obtain ⟨hb, hk⟩ := h.grown1 hgrow
  have hp := h.blk_kept hk
  obtain ⟨h1, h2⟩ := h.put (m := [c]) hb hk hown
  exact hK g _ cap w1 (by rw [cell_of_row w1 p 0 _ _ (0, 0) hp]; rfl) (by simp [World.frozen?, hp]) h1 h2

theorem AppendInt_any (B n : Nat) (k : Int) (h0 : -9223372036854775808 ≤ k) (h1 : k ≤ 9223372036854775807) (hB6 : 4 ≤ B) (sv : Value) (xs : List Value) (w : World) (hs : StdG w) (hown : w.ownsRow B 5 1 sv n xs) (hBw : B ≤ w.heap.size) (hlim : n + 21 ≤ 140737488355328) :
    Calls Tryd.prog 67 #[sv, .int .i64 k, .int .i64 10] w fun e w' => ∃ v', e = .returned v' ∧ w'.ownsRow B 5 1 v' (n + (Lib.itoa k).length) (xs ++ Lib.byteCells (Lib.itoa k)) ∧ Below B w w' ∧ Lib.OthersKept 5 none w w' :=
  Tryd.strconv_AppendInt_10 B n k h0 h1 sv xs w hown hBw hlim (hs.tabBelow hB6)

theorem digits_pos (u : Nat) : 0 < (Lib.decDigits u).length := by
  rw [Lib.decDigits_length]; exact Lib.nDigits_pos u
theorem itoa_pos (k : Int) : 0 < (Lib.itoa k).length := by
  unfold Lib.itoa
  split
  · simp
  · exact digits_pos _
theorem digits_le (u : Nat) (hu : u < 18446744073709551616) : (Lib.decDigits u).length ≤ 20 := by
  rw [Lib.decDigits_length]; exact Lib.nDigits_le20 u hu

/-- The row behind a library's append, stored back: what the walk needs. -/
theorem WR.next {w w2 : World} {B p : Nat} {v v2 : Value} {bs m : List UInt8} (h : WR w B p v bs) (hb : Below B w w2) (hk : Lib.OthersKept 5 none w w2) (hm : 0 < m.length)
    (hown : w2.ownsRow B 5 1 v2 (bs.length + m.length) (Lib.byteCells bs ++ Lib.byteCells m)) :
    ∃ g n c, v2 = .slice (some ⟨g, 0, none⟩) n c ∧ w2.cell? ⟨p, 0, none⟩ = some v ∧ w2.frozen? ⟨p, 0, none⟩ = false ∧
      WR (w2.setCell ⟨p, 0, none⟩ (.slice (some ⟨g, 0, none⟩) n c)) B p (.slice (some ⟨g, 0, none⟩) n c) (bs ++ m) ∧ KP B p w (w2.setCell ⟨p, 0, none⟩ (.slice (some ⟨g, 0, none⟩) n c)) := by
  obtain ⟨g, c, rfl, _, _⟩ := hown.form (by omega)
  have hp := h.blk_kept hk
  obtain ⟨h1, h2⟩ := h.put (m := m) hb hk hown
  exact ⟨g, _, c, rfl, by rw [cell_of_row w2 p 0 _ _ (0, 0) hp]; rfl, by simp [World.frozen?, hp], h1, h2⟩

theorem Writer_Uint (B p u : Nat) (hu : u < 18446744073709551616) (v : Value) (bs : List UInt8) (w : World) (hs : StdG w) (hB6 : 4 ≤ B) (h : WR w B p v bs) (hl : bs.length + 22 ≤ 140737488355328) :
    Calls Tryd.prog 41 #[.pointer (some ⟨p, 0, none⟩), .int .u64 (u : Int)] w fun x w' => ∃ v', x = .returned (.pointer (some ⟨p, 0, none⟩)) ∧ WR w' B p v' (bs ++ lUint u) ∧ KP B p w w' := by
  have hc0 := h.cell
  have H := Lib.hid h
  have hlt := h.lt
  clear h
  go_enter Tryd.func41, Tryd.ntmps41
  go_wp2_with (at_builtin; go_must (refine wpList_wr1 rfl _ _ rfl H.out 110 (by omega) (by rfl) _ rfl (by rfl) ?_; intro g n1 cap w1 hc hf hw hk; have HW := Lib.hid hw; have HK1 := Lib.hid hk; clear hw hk))
  generalize World.setCell w1 ⟨p, 0, none⟩ (Value.slice (some ⟨g, 0, none⟩) n1 cap) = W1 at HW HK1 ⊢
  have HD := Lib.hid (digits_le u hu)
  go_at_call 58
  refine (AppendUint_any B (bs ++ [110]).length u hu _ _ W1 (hs.low hB6 HK1.out.below) HW.out.own HW.out.hB (by simp; omega)).mono ?_
  rintro e w2 ⟨v2, rfl, hown2, hb2, hk2⟩
  obtain ⟨g2, n2, c2, rfl, hc2, hf2, hw2, hk3⟩ := HW.out.next hb2 hk2 (digits_pos u) hown2
  have HW2 := Lib.hid hw2
  have HK2 := Lib.hid hk3
  clear hown2 hb2 hk2 hw2 hk3 hc hf hc0
  have hl1 := Lib.hid (show (bs ++ [110]).length = bs.length + 1 by simp)
  go_wp2_with (at_builtin; go_must (refine wpList_wr1 rfl _ _ rfl HW2.out 59 (by rw [List.length_append, hl1.out]; have := HD.out; omega) (by rfl) w2.heap.size (by simp [World.setCell]) (by rfl) ?_; intro g3 n3 cap3 w3 hc3 hf3 hw4 hk4; have HW3 := Lib.hid hw4; have HK4 := Lib.hid hk4; clear hw4 hk4))
  go_ret
  exact ⟨_, rfl, by simpa [lUint] using HW3.out, (HK1.out.trans HK2.out).trans HK4.out⟩

theorem itoa_le (k : Int) (h0 : -9223372036854775808 ≤ k) (h1 : k ≤ 9223372036854775807) : (Lib.itoa k).length ≤ 21 := Lib.itoa_length_le k h0 h1

theorem Writer_head (B p n : Nat) (letter : UInt8) (hn : n ≤ 9223372036854775807) (v : Value) (bs : List UInt8) (w : World) (hs : StdG w) (hB6 : 4 ≤ B) (h : WR w B p v bs) (hl : bs.length + 23 ≤ 140737488355328) :
    Calls Tryd.prog 59 #[.pointer (some ⟨p, 0, none⟩), .int .u8 (letter.toNat : Int), .int .i64 (n : Int)] w fun x w' => ∃ v', x = .returned (.tuple #[]) ∧ WR w' B p v' (bs ++ lHead letter n) ∧ KP B p w w' := by
  have hit := Lib.hid (Lib.itoa_nonneg n)
  have hc0 := h.cell
  have H := Lib.hid h
  have hlt := h.lt
  clear h
  go_enter Tryd.func59, Tryd.ntmps59
  go_wp2_with (at_builtin; go_must (refine wpList_wr1 rfl _ _ rfl H.out letter (by omega) (by rfl) _ rfl (by rfl) ?_; intro g n1 cap w1 hc hf hw hk; have HW := Lib.hid hw; have HK1 := Lib.hid hk; clear hw hk))
  generalize World.setCell w1 ⟨p, 0, none⟩ (Value.slice (some ⟨g, 0, none⟩) n1 cap) = W1 at HW HK1 ⊢
  have HD := Lib.hid (itoa_le n (by omega) (by omega))
  go_at_call 67
  refine (AppendInt_any B (bs ++ [letter]).length n (by omega) (by omega) hB6 _ _ W1 (hs.low hB6 HK1.out.below) HW.out.own HW.out.hB (by simp; omega)).mono ?_
  rintro e w2 ⟨v2, rfl, hown2, hb2, hk2⟩
  obtain ⟨g2, n2, c2, rfl, hc2, hf2, hw2, hk3⟩ := HW.out.next hb2 hk2 (itoa_pos n) hown2
  have HW2 := Lib.hid hw2
  have HK2 := Lib.hid hk3
  clear hown2 hb2 hk2 hw2 hk3 hc hf hc0
  have hl1 := Lib.hid (show (bs ++ [letter]).length = bs.length + 1 by simp)
  go_wp2_with (at_builtin; go_must (refine wpList_wr1 rfl _ _ rfl HW2.out 58 (by rw [List.length_append, hl1.out]; have := HD.out; omega) (by rfl) w2.heap.size (by simp [World.setCell]) (by rfl) ?_; intro g3 n3 cap3 w3 hc3 hf3 hw4 hk4; have HW3 := Lib.hid hw4; have HK4 := Lib.hid hk4; clear hw4 hk4))
  go_end0
  exact ⟨_, rfl, by have := HW3.out; rw [hit.out] at this; simpa [lHead] using this, (HK1.out.trans HK2.out).trans HK4.out⟩


/-- 'append(w.b, b...)' of bytes, at a writer's row. -/
theorem wpList_wrB {w : World} {B p : Nat} {v : Value} {bs : List UInt8} {ops : Array Oper} {rest : List Oper} {o : Oper} {a : Act} {Q : Exit → Act → World → Prop} (hgd : o.guard = none) (s x : Operand)
    (ho : o.op = .call { callee := .builtin .append, args := #[s, x], argTypes := #[39, 39] }) (h : WR w B p v bs) (B1 : Nat) (A : Option Addr) (m c : Nat) (t : List UInt8) (ht : Sl w B1 (.slice A m c) t) (h0 : 0 < bs.length) (hl : bs.length + t.length ≤ 140737488355328)
    (hs : a.eval s = v) (hx : a.eval x = .slice A m c)
    (hK : ∀ g n cap w1, w1.cell? ⟨p, 0, none⟩ = some v → w1.frozen? ⟨p, 0, none⟩ = false →
      WR (w1.setCell ⟨p, 0, none⟩ (.slice (some ⟨g, 0, none⟩) n cap)) B p (.slice (some ⟨g, 0, none⟩) n cap) (bs ++ t) → KP B p w (w1.setCell ⟨p, 0, none⟩ (.slice (some ⟨g, 0, none⟩) n cap)) →
      wpList Tryd.prog ops Q rest (a.put o.dst (.slice (some ⟨g, 0, none⟩) n cap)) w1) :
    wpList Tryd.prog ops Q (o :: rest) a w := by
  obtain ⟨i0, hi, hz0, hz1, hz2⟩ := info_parts info_u8
  have hB := h.hB
  refine wpList_append_sl hgd s x 39 ho B 5 i0 _ Tryd.underlying39 hi hz0 hz1 hz2 rfl v bs.length (Lib.byteCells bs) hs h.own B1 A m c t hx ht hl hB ?_
  intro v' w1 hown hgrow
  obtain ⟨g, cap, rfl, _, _⟩ := hown.form (by omega)
  have hb : Below B w w1 := (Below.refl B w).grown hgrow hB (fun k hk => (h.own.lt k hk).1)
  have hk : Lib.OthersKept 5 none w w1 := (Lib.OthersKept.refl _ _ w).grown hgrow (Lib.ownsRow_kind h.own)
  have hp := h.blk_kept hk
  obtain ⟨h1, h2⟩ := h.put (m := t) hb hk hown
  exact hK g _ cap w1 (by rw [cell_of_row w1 p 0 _ _ (0, 0) hp]; rfl) (by simp [World.frozen?, hp]) h1 h2

theorem lHead_len (letter : UInt8) (n : Nat) (hn : n < 18446744073709551616) : 0 < (lHead letter n).length ∧ (lHead letter n).length ≤ 22 := by
  have := digits_le n hn
  simp [lHead]
  omega


theorem Writer_Bytes (B p : Nat) (A : Option Addr) (n c : Nat) (t : List UInt8) (B1 : Nat) (hB1 : B1 ≤ B) (v : Value) (bs : List UInt8) (w : World) (hs : StdG w) (hB6 : 4 ≤ B) (h : WR w B p v bs) (ht : Sl w B1 (.slice A n c) t) (hl : bs.length + 23 + t.length ≤ 140737488355328) :
    Calls Tryd.prog 42 #[.pointer (some ⟨p, 0, none⟩), .slice A n c] w fun x w' => ∃ v', x = .returned (.pointer (some ⟨p, 0, none⟩)) ∧ WR w' B p v' (bs ++ lBytes t) ∧ KP B p w w' := by
  obtain ⟨hn, _, _⟩ := ht.len
  have c1 := Lib.hid (Writer_head B p n 98 (by omega) v bs w hs hB6 h (by omega))
  have hz := lHead_len 98 n (by omega)
  have hts := Lib.hid hn
  have HZ := Lib.hid hz
  have HT := Lib.hid ht
  have hln : bs.length + 23 + n ≤ 140737488355328 := by omega
  clear h hz hn ht hl
  go_enter Tryd.func42, Tryd.ntmps42
  go_wp2_with fail
  refine c1.out.mono ?_
  rintro x w1 ⟨v1, rfl, h1, hk1⟩
  have hc1 := h1.cell
  have hl1 : 0 < (bs ++ lHead 98 n).length := by rw [List.length_append]; have := HZ.out; omega
  have hl2 : (bs ++ lHead 98 n).length + t.length ≤ 140737488355328 := by rw [List.length_append]; have := HZ.out; have := hts.out; omega
  have H1 := Lib.hid h1
  have HK1 := Lib.hid hk1
  have HL1 := Lib.hid hl1
  have HL2 := Lib.hid hl2
  have HS := Lib.hid (HT.out.below (hk1.below.mono hB1))
  clear h1 hk1 hl1 hl2
  go_wp2_with (at_builtin; go_must (refine wpList_wrB rfl _ _ rfl H1.out B1 A n c t HS.out HL1.out HL2.out (by rfl) (by rfl) ?_; intro g n1 cap w2 hc hf hw hk; have HW := Lib.hid hw; have HK2 := Lib.hid hk; clear hw hk))
  go_ret
  have hfin := HW.out
  rw [hts.out, List.append_assoc] at hfin
  exact ⟨_, rfl, hfin, HK1.out.trans HK2.out⟩

theorem copied_any (A : Option Addr) (n c : Nat) (bs : List UInt8) (w : World) (B : Nat) (h : Sl w B (.slice A n c) bs) (hl : bs.length ≤ 140737488355328) :
    Calls Tryd.prog 60 #[.slice A n c] w fun x w' => ∃ v, x = .returned v ∧ w'.ownsRow w.heap.size 5 1 v bs.length (Lib.byteCells bs) ∧ Below w.heap.size w w' := by
  obtain ⟨i0, hi, hz0, hz1, hz2⟩ := info_parts info_u8
  have H := Lib.hid h
  clear h
  go_enter Tryd.func60, Tryd.ntmps60
  go_wp2_with (at_builtin; go_must (refine wpList_append_sl rfl _ _ 39 rfl w.heap.size 5 i0 _ Tryd.underlying39 hi hz0 hz1 hz2 rfl (.slice none 0 0) 0 [] rfl (World.ownsRow_nil _ _ _ _) B A n c bs rfl H.out (by omega) (Nat.le_refl _) ?_; intro v' w1 hown hgrow))
  go_ret
  refine ⟨v', rfl, by simpa using hown, (Below.refl _ _).grown hgrow (Nat.le_refl _) (by simp [Value.ownBlock])⟩


theorem Writer_Done (B p : Nat) (v : Value) (bs : List UInt8) (w : World) (h : WR w B p v bs) (hl : bs.length ≤ 140737488355328) :
    Calls Tryd.prog 43 #[.pointer (some ⟨p, 0, none⟩)] w fun x w' => ∃ u, x = .returned u ∧ w'.ownsRow w.heap.size 5 1 u bs.length (Lib.byteCells bs) ∧ Below w.heap.size w w' := by
  have hc0 := h.cell
  have hS : Sl w w.heap.size v bs := Sl.of_own h.own _ fun g hg => (h.own.lt g hg).2
  clear h
  obtain ⟨A, c, rfl, hx⟩ := hS
  have c1 := Lib.hid (copied_any A bs.length c bs w w.heap.size ⟨A, c, rfl, hx⟩ hl)
  clear hx
  go_enter Tryd.func43, Tryd.ntmps43
  go_wp2_with (go_at_call 60; refine c1.out.mono ?_; rintro x w' ⟨u, rfl, hown, hb⟩; have HO := Lib.hid hown; have HB := Lib.hid hb; clear hown hb)
  go_ret
  exact ⟨u, rfl, HO.out, HB.out⟩

end Go.Proofs.YtlngcfaadfkbnaaDoor.pk
