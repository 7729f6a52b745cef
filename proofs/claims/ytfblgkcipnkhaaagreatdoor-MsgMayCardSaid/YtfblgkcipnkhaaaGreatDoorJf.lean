/-
  Texts of the proof, joined: StdG, WrM, WrQ, Pk1, Pk2, Pk3, Pk4, Pk5, EmM, EgM, EdM, EdN.
-/
import Derived.Test.YtfblgkcipnkhaaaGreatDoorJe
import Derived.Lib.LaidTab
import Derived.Test.YtfblgkcipnkhaaaGreatDoorShelf
import Derived.Deep.AppendLies
import Derived.Lib.BufferKept
import Derived.Lib.OwnKind
import Derived.Maps.AppendAt
import Derived.Lib.ItoaWalk
import Derived.Lib.ItoaMem
import Derived.Lib.AppendIntMem
import Derived.BigQuiet
import Derived.Outline

/-
  What the program's own numbers as bytes want of the memory.
-/
namespace Go.Proofs.YtfblgkcipnkhaaaGreatDoor.pk
open Go Go.RowKit
set_option maxRecDepth 100000

structure StdG (w : World) : Prop where
  tab : Lib.TabIs Tryz.prog w "internal/strconv.uint64pow10" .u64 Lib.pow10Tab
  size : 6 ≤ w.heap.size
theorem gTabG : Tryz.prog.globalNamed "internal/strconv.uint64pow10" = some 1 := by kernel_rfl
theorem StdG.below {w w' : World} (h : StdG w) (hb : Below w.heap.size w w') : StdG w' :=
  ⟨var?_below hb gTabG (by have := h.size; omega) h.tab, Nat.le_trans h.size hb.size⟩

end Go.Proofs.YtfblgkcipnkhaaaGreatDoor.pk

/-
  The package pack's writer, in the words of the later stages: New, Uint, Bytes, Done.
-/
namespace Go.Proofs.YtfblgkcipnkhaaaGreatDoor.pk
open Go Go.RowKit
set_option maxRecDepth 100000

theorem StdG.low {w w' : World} {B : Nat} (h : StdG w) (hB : 6 ≤ B) (hb : Below B w w') : StdG w' := ⟨var?_below hb gTabG (by omega) h.tab, Nat.le_trans h.size hb.size⟩
theorem StdG.tabBelow {w : World} {B : Nat} (h : StdG w) (hB : 6 ≤ B) : Lib.TabBelow Tryz.prog B w "internal/strconv.uint64pow10" .u64 Lib.pow10Tab := fun _ hb => (h.low hB hb).tab

theorem grown_set {w : World} {p i : Nat} (u : Value) : w.grownBy (w.setCell ⟨p, i, none⟩ u) (some p) :=
  ⟨rfl, rfl, rfl, by simp [World.setCell], fun k _ hne => Below.heap_setCell w _ u k (fun e => hne (by rw [e]))⟩

/-- A writer in block p, what it holds in a row from block B on. -/
structure WR (w : World) (B p : Nat) (v : Value) (bs : List UInt8) : Prop where
  low : B ≤ p
  blk : w.heap[p]? = some (.cells #[v] 123 (0, 0))
  own : w.ownsRow B 5 1 v bs.length (Lib.byteCells bs)
/-- What a writer's call leaves as it was: all below B, and of the rest all that is no row of bytes, but the writer. -/
structure KP (B p : Nat) (w w' : World) : Prop where
  below : Below B w w'
  others : Lib.OthersKept 5 (some p) w w'
theorem KP.refl (B p : Nat) (w : World) : KP B p w w := ⟨Below.refl _ _, Lib.OthersKept.refl _ _ _⟩
theorem KP.trans {B p : Nat} {a b c : World} (h : KP B p a b) (k : KP B p b c) : KP B p a c := ⟨h.below.trans k.below, h.others.trans k.others⟩

theorem WR.lt {w : World} {B p : Nat} {v : Value} {bs : List UInt8} (h : WR w B p v bs) : p < w.heap.size := by
  rcases Nat.lt_or_ge p w.heap.size with hlt | hge
  · exact hlt
  · have := h.blk; rw [Array.getElem?_eq_none hge] at this; cases this
theorem WR.hB {w : World} {B p : Nat} {v : Value} {bs : List UInt8} (h : WR w B p v bs) : B ≤ w.heap.size := Nat.le_trans h.low (Nat.le_of_lt h.lt)
theorem WR.cell {w : World} {B p : Nat} {v : Value} {bs : List UInt8} (h : WR w B p v bs) : w.cell? ⟨p, 0, none⟩ = some v := by
  rw [cell_of_row w p 0 _ _ (0, 0) h.blk]; rfl
theorem WR.fz {w : World} {B p : Nat} {v : Value} {bs : List UInt8} (h : WR w B p v bs) (i : Nat) : w.frozen? ⟨p, i, none⟩ = false := by
  simp [World.frozen?, h.blk]
theorem WR.blk_kept {w w1 : World} {B p : Nat} {v : Value} {bs : List UInt8} (h : WR w B p v bs) (hk : Lib.OthersKept 5 none w w1) : w1.heap[p]? = some (.cells #[v] 123 (0, 0)) :=
  hk p _ h.blk (by simp) (fun c fz e => by injection e with _ e2; cases e2)

/-- The row has grown; it is stored back. -/
theorem WR.put {w w1 : World} {B p : Nat} {v v' : Value} {bs m : List UInt8} (h : WR w B p v bs) (hb : Below B w w1) (hk : Lib.OthersKept 5 none w w1)
    (hown : w1.ownsRow B 5 1 v' (bs.length + m.length) (Lib.byteCells bs ++ Lib.byteCells m)) :
    WR (w1.setCell ⟨p, 0, none⟩ v') B p v' (bs ++ m) ∧ KP B p w (w1.setCell ⟨p, 0, none⟩ v') := by
  have hp := h.blk_kept hk
  have hne : v'.ownBlock = none ∨ v'.ownBlock ≠ some p := by
    right
    intro e
    obtain ⟨c, fz, hc⟩ := Lib.ownsRow_kind hown p e
    rw [hp] at hc
    injection hc with hc
    injection hc with _ e2
    cases e2
  refine ⟨⟨h.low, ?_, ?_⟩, ⟨hb.setCell h.low v', ?_⟩⟩
  · simp [World.setCell, Array.getElem?_modify, hp]
  · have := hown.kept (grown_set (p := p) (i := 0) v') hne
    rw [List.length_append]
    simpa [Lib.byteCells] using this
  · have h1 : Lib.OthersKept 5 (some p) w w1 := fun k o ho _ hx => hk k o ho (by simp) hx
    exact h1.setCell _ rfl v'

/-- What an append of one byte gives. -/
theorem WR.grown1 {w w1 : World} {B p : Nat} {v : Value} {bs : List UInt8} {o : Obj} (h : WR w B p v bs) (hg : (w.alloc o).grownBy w1 v.ownBlock) : Below B w w1 ∧ Lib.OthersKept 5 none w w1 := by
  have hB := h.hB
  refine ⟨((Below.refl B w).alloc hB o).grown hg (by simp; omega) (fun k hk => (h.own.lt k hk).1), ?_⟩
  exact ((Lib.OthersKept.refl _ _ w).alloc o).grown hg (Lib.ownsRow_kind (h.own.alloc o))

/-- 'New()'. -/
theorem New_any (w : World) : Calls Tryz.prog 42 #[] w fun x w' => x = .returned (.pointer (some ⟨w.heap.size, 0, none⟩)) ∧ WR w' w.heap.size w.heap.size (.slice none 0 0) [] ∧ Below w.heap.size w w' := by
  go_enter Tryz.func42, Tryz.ntmps42
  go_wp2
  go_ret
  exact ⟨rfl, ⟨Nat.le_refl _, heap_alloc_new w _, World.ownsRow_nil _ _ _ _⟩, (Below.refl _ _).alloc (Nat.le_refl _) _⟩

theorem AppendUint_any (B n u : Nat) (hu64 : u < 18446744073709551616) (sv : Value) (xs : List Value) (w : World) (hs : StdG w) (hown : w.ownsRow B 5 1 sv n xs) (hBw : B ≤ w.heap.size) (hlim : n + 20 ≤ 140737488355328) :
    Calls Tryz.prog 92 #[sv, .int .u64 (u : Int), .int .i64 10] w fun e w' => ∃ v', e = .returned v' ∧ w'.ownsRow B 5 1 v' (n + (Lib.decDigits u).length) (xs ++ Lib.byteCells (Lib.decDigits u)) ∧ Below B w w' ∧ Lib.OthersKept 5 none w w' := by
  have c1 := Lib.hid (Tryz.internal_strconv_AppendUint_10 B n u hu64 sv xs w hown hBw hlim hs.tab)
  clear hown hlim hu64
  go_enter Tryz.func92, Tryz.ntmps92
  go_wp2_with (go_at_call 101; refine c1.out.mono ?_; rintro e w' ⟨v', rfl, h1, h2, h3⟩; have H1 := Lib.hid h1; have H2 := Lib.hid h2; have H3 := Lib.hid h3; clear h1 h2 h3)
  go_ret
  exact ⟨v', rfl, H1.out, H2.out, H3.out⟩

/-- 'append(w.b, c)' at a writer's row, behind the new block that holds the byte. -/
theorem wpList_wr1 {w : World} {B p : Nat} {v : Value} {bs : List UInt8} {ops : Array Oper} {rest : List Oper} {o : Oper} {a : Act} {Q : Exit → Act → World → Prop} (hgd : o.guard = none) (s x : Operand)
    (ho : o.op = .call { callee := .builtin .append, args := #[s, x], argTypes := #[22, 22] }) (h : WR w B p v bs) (c : UInt8) (hl : bs.length + 1 ≤ 140737488355328)
    (hs : a.eval s = v) (H : Nat) (hH : w.heap.size = H) (hx : a.eval x = .slice (some ⟨H, 0, none⟩) 1 1)
    (hK : ∀ g n cap w1, w1.cell? ⟨p, 0, none⟩ = some v → w1.frozen? ⟨p, 0, none⟩ = false →
      WR (w1.setCell ⟨p, 0, none⟩ (.slice (some ⟨g, 0, none⟩) n cap)) B p (.slice (some ⟨g, 0, none⟩) n cap) (bs ++ [c]) → KP B p w (w1.setCell ⟨p, 0, none⟩ (.slice (some ⟨g, 0, none⟩) n cap)) →
      wpList Tryz.prog ops Q rest (a.put o.dst (.slice (some ⟨g, 0, none⟩) n cap)) w1) :
    wpList Tryz.prog ops Q (o :: rest) a (w.alloc (.cells #[.int .u8 (c.toNat : Int)] 5)) := by
  obtain ⟨i0, hi, hz0, hz1, hz2⟩ := info_parts info_u8
  have hB := h.hB
  subst hH
  refine wpList_append_lies _ hgd s x 22 ho B 5 i0 _ 1 1 Tryz.underlying22 hi hz0 hz1 hz2 rfl (by omega) v bs.length (Lib.byteCells bs) hs (h.own.alloc _) ⟨w.heap.size, 0, none⟩ 1 1 [.int .u8 (c.toNat : Int)] hx rfl (cell_one_new _ _ _)
    (by intro u hu; simp at hu; subst hu; rfl) (by omega) (by simp only [maxLen]; omega) (by omega) (by simp; omega) _ rfl ?_
  intro g cap w1 hown hgrow _ _
  obtain ⟨hb, hk⟩ := h.grown1 hgrow
  have hp := h.blk_kept hk
  obtain ⟨h1, h2⟩ := h.put (m := [c]) hb hk hown
  exact hK g _ cap w1 (by rw [cell_of_row w1 p 0 _ _ (0, 0) hp]; rfl) (by simp [World.frozen?, hp]) h1 h2

theorem AppendInt_any (B n : Nat) (k : Int) (h0 : -9223372036854775808 ≤ k) (h1 : k ≤ 9223372036854775807) (hB6 : 6 ≤ B) (sv : Value) (xs : List Value) (w : World) (hs : StdG w) (hown : w.ownsRow B 5 1 sv n xs) (hBw : B ≤ w.heap.size) (hlim : n + 21 ≤ 140737488355328) :
    Calls Tryz.prog 93 #[sv, .int .i64 k, .int .i64 10] w fun e w' => ∃ v', e = .returned v' ∧ w'.ownsRow B 5 1 v' (n + (Lib.itoa k).length) (xs ++ Lib.byteCells (Lib.itoa k)) ∧ Below B w w' ∧ Lib.OthersKept 5 none w w' :=
  Tryz.strconv_AppendInt_10 B n k h0 h1 sv xs w hown hBw hlim (hs.tabBelow hB6)

theorem digits_pos (u : Nat) : 0 < (Lib.decDigits u).length := by
  rw [Lib.decDigits_length]; exact Lib.nDigits_pos u
theorem itoa_pos (k : Int) : 0 < (Lib.itoa k).length := by
  unfold Lib.itoa
  split
  · simp
  · exact digits_pos _
theorem digits_le (u : Nat) (hu : u < 18446744073709551616) : (Lib.decDigits u).length ≤ 20 := by
  rw [Lib.decDigits_length]; exact Lib.nDigits_le20 u hu

/-- The row behind a library's append, stored back: what the walk needs. -/
theorem WR.next {w w2 : World} {B p : Nat} {v v2 : Value} {bs m : List UInt8} (h : WR w B p v bs) (hb : Below B w w2) (hk : Lib.OthersKept 5 none w w2) (hm : 0 < m.length)
    (hown : w2.ownsRow B 5 1 v2 (bs.length + m.length) (Lib.byteCells bs ++ Lib.byteCells m)) :
    ∃ g n c, v2 = .slice (some ⟨g, 0, none⟩) n c ∧ w2.cell? ⟨p, 0, none⟩ = some v ∧ w2.frozen? ⟨p, 0, none⟩ = false ∧
      WR (w2.setCell ⟨p, 0, none⟩ (.slice (some ⟨g, 0, none⟩) n c)) B p (.slice (some ⟨g, 0, none⟩) n c) (bs ++ m) ∧ KP B p w (w2.setCell ⟨p, 0, none⟩ (.slice (some ⟨g, 0, none⟩) n c)) := by
  obtain ⟨g, c, rfl, _, _⟩ := hown.form (by omega)
  have hp := h.blk_kept hk
  obtain ⟨h1, h2⟩ := h.put (m := m) hb hk hown
  exact ⟨g, _, c, rfl, by rw [cell_of_row w2 p 0 _ _ (0, 0) hp]; rfl, by simp [World.frozen?, hp], h1, h2⟩

theorem Writer_Uint (B p u : Nat) (hu : u < 18446744073709551616) (v : Value) (bs : List UInt8) (w : World) (hs : StdG w) (hB6 : 6 ≤ B) (h : WR w B p v bs) (hl : bs.length + 22 ≤ 140737488355328) :
    Calls Tryz.prog 74 #[.pointer (some ⟨p, 0, none⟩), .int .u64 (u : Int)] w fun x w' => ∃ v', x = .returned (.pointer (some ⟨p, 0, none⟩)) ∧ WR w' B p v' (bs ++ lUint u) ∧ KP B p w w' := by
  have hc0 := h.cell
  have H := Lib.hid h
  have hlt := h.lt
  clear h
  go_enter Tryz.func74, Tryz.ntmps74
  go_wp2_with (at_builtin; go_must (refine wpList_wr1 rfl _ _ rfl H.out 110 (by omega) (by rfl) _ rfl (by rfl) ?_; intro g n1 cap w1 hc hf hw hk; have HW := Lib.hid hw; have HK1 := Lib.hid hk; clear hw hk))
  generalize World.setCell w1 ⟨p, 0, none⟩ (Value.slice (some ⟨g, 0, none⟩) n1 cap) = W1 at HW HK1 ⊢
  have HD := Lib.hid (digits_le u hu)
  go_at_call 92
  refine (AppendUint_any B (bs ++ [110]).length u hu _ _ W1 (hs.low hB6 HK1.out.below) HW.out.own HW.out.hB (by simp; omega)).mono ?_
  rintro e w2 ⟨v2, rfl, hown2, hb2, hk2⟩
  obtain ⟨g2, n2, c2, rfl, hc2, hf2, hw2, hk3⟩ := HW.out.next hb2 hk2 (digits_pos u) hown2
  have HW2 := Lib.hid hw2
  have HK2 := Lib.hid hk3
  clear hown2 hb2 hk2 hw2 hk3 hc hf hc0
  have hl1 := Lib.hid (show (bs ++ [110]).length = bs.length + 1 by simp)
  go_wp2_with (at_builtin; go_must (refine wpList_wr1 rfl _ _ rfl HW2.out 59 (by rw [List.length_append, hl1.out]; have := HD.out; omega) (by rfl) w2.heap.size (by simp [World.setCell]) (by rfl) ?_; intro g3 n3 cap3 w3 hc3 hf3 hw4 hk4; have HW3 := Lib.hid hw4; have HK4 := Lib.hid hk4; clear hw4 hk4))
  go_ret
  exact ⟨_, rfl, by simpa [lUint] using HW3.out, (HK1.out.trans HK2.out).trans HK4.out⟩

theorem itoa_le (k : Int) (h0 : -9223372036854775808 ≤ k) (h1 : k ≤ 9223372036854775807) : (Lib.itoa k).length ≤ 21 := Lib.itoa_length_le k h0 h1

theorem Writer_head (B p n : Nat) (letter : UInt8) (hn : n ≤ 9223372036854775807) (v : Value) (bs : List UInt8) (w : World) (hs : StdG w) (hB6 : 6 ≤ B) (h : WR w B p v bs) (hl : bs.length + 23 ≤ 140737488355328) :
    Calls Tryz.prog 75 #[.pointer (some ⟨p, 0, none⟩), .int .u8 (letter.toNat : Int), .int .i64 (n : Int)] w fun x w' => ∃ v', x = .returned (.tuple #[]) ∧ WR w' B p v' (bs ++ lHead letter n) ∧ KP B p w w' := by
  have hit := Lib.hid (Lib.itoa_nonneg n)
  have hc0 := h.cell
  have H := Lib.hid h
  have hlt := h.lt
  clear h
  go_enter Tryz.func75, Tryz.ntmps75
  go_wp2_with (at_builtin; go_must (refine wpList_wr1 rfl _ _ rfl H.out letter (by omega) (by rfl) _ rfl (by rfl) ?_; intro g n1 cap w1 hc hf hw hk; have HW := Lib.hid hw; have HK1 := Lib.hid hk; clear hw hk))
  generalize World.setCell w1 ⟨p, 0, none⟩ (Value.slice (some ⟨g, 0, none⟩) n1 cap) = W1 at HW HK1 ⊢
  have HD := Lib.hid (itoa_le n (by omega) (by omega))
  go_at_call 93
  refine (AppendInt_any B (bs ++ [letter]).length n (by omega) (by omega) hB6 _ _ W1 (hs.low hB6 HK1.out.below) HW.out.own HW.out.hB (by simp; omega)).mono ?_
  rintro e w2 ⟨v2, rfl, hown2, hb2, hk2⟩
  obtain ⟨g2, n2, c2, rfl, hc2, hf2, hw2, hk3⟩ := HW.out.next hb2 hk2 (itoa_pos n) hown2
  have HW2 := Lib.hid hw2
  have HK2 := Lib.hid hk3
  clear hown2 hb2 hk2 hw2 hk3 hc hf hc0
  have hl1 := Lib.hid (show (bs ++ [letter]).length = bs.length + 1 by simp)
  go_wp2_with (at_builtin; go_must (refine wpList_wr1 rfl _ _ rfl HW2.out 58 (by rw [List.length_append, hl1.out]; have := HD.out; omega) (by rfl) w2.heap.size (by simp [World.setCell]) (by rfl) ?_; intro g3 n3 cap3 w3 hc3 hf3 hw4 hk4; have HW3 := Lib.hid hw4; have HK4 := Lib.hid hk4; clear hw4 hk4))
  go_end0
  exact ⟨_, rfl, by have := HW3.out; rw [hit.out] at this; simpa [lHead] using this, (HK1.out.trans HK2.out).trans HK4.out⟩


/-- 'append(w.b, b...)' of bytes, at a writer's row. -/
theorem wpList_wrB {w : World} {B p : Nat} {v : Value} {bs : List UInt8} {ops : Array Oper} {rest : List Oper} {o : Oper} {a : Act} {Q : Exit → Act → World → Prop} (hgd : o.guard = none) (s x : Operand)
    (ho : o.op = .call { callee := .builtin .append, args := #[s, x], argTypes := #[22, 22] }) (h : WR w B p v bs) (B1 : Nat) (A : Option Addr) (m c : Nat) (t : List UInt8) (ht : Sl w B1 (.slice A m c) t) (h0 : 0 < bs.length) (hl : bs.length + t.length ≤ 140737488355328)
    (hs : a.eval s = v) (hx : a.eval x = .slice A m c)
    (hK : ∀ g n cap w1, w1.cell? ⟨p, 0, none⟩ = some v → w1.frozen? ⟨p, 0, none⟩ = false →
      WR (w1.setCell ⟨p, 0, none⟩ (.slice (some ⟨g, 0, none⟩) n cap)) B p (.slice (some ⟨g, 0, none⟩) n cap) (bs ++ t) → KP B p w (w1.setCell ⟨p, 0, none⟩ (.slice (some ⟨g, 0, none⟩) n cap)) →
      wpList Tryz.prog ops Q rest (a.put o.dst (.slice (some ⟨g, 0, none⟩) n cap)) w1) :
    wpList Tryz.prog ops Q (o :: rest) a w := by
  obtain ⟨i0, hi, hz0, hz1, hz2⟩ := info_parts info_u8
  have hB := h.hB
  refine wpList_append_sl hgd s x 22 ho B 5 i0 _ Tryz.underlying22 hi hz0 hz1 hz2 rfl v bs.length (Lib.byteCells bs) hs h.own B1 A m c t hx ht hl hB ?_
  intro v' w1 hown hgrow
  obtain ⟨g, cap, rfl, _, _⟩ := hown.form (by omega)
  have hb : Below B w w1 := (Below.refl B w).grown hgrow hB (fun k hk => (h.own.lt k hk).1)
  have hk : Lib.OthersKept 5 none w w1 := (Lib.OthersKept.refl _ _ w).grown hgrow (Lib.ownsRow_kind h.own)
  have hp := h.blk_kept hk
  obtain ⟨h1, h2⟩ := h.put (m := t) hb hk hown
  exact hK g _ cap w1 (by rw [cell_of_row w1 p 0 _ _ (0, 0) hp]; rfl) (by simp [World.frozen?, hp]) h1 h2

theorem Writer_Bool (B p : Nat) (b : Bool) (v : Value) (bs : List UInt8) (w : World) (h : WR w B p v bs) (hl : bs.length + 1 ≤ 140737488355328) :
    Calls Tryz.prog 44 #[.pointer (some ⟨p, 0, none⟩), .bool b] w fun x w' => ∃ v', x = .returned (.pointer (some ⟨p, 0, none⟩)) ∧ WR w' B p v' (bs ++ lBool b) ∧ KP B p w w' := by
  have hc0 := h.cell
  have H := Lib.hid h
  clear h
  cases b
  · go_enter Tryz.func44, Tryz.ntmps44
    go_wp2_with (at_builtin; go_must (refine wpList_wr1 rfl _ _ rfl H.out 122 (by omega) (by rfl) _ rfl (by rfl) ?_; intro g n1 cap w1 hc hf hw hk; have HW := Lib.hid hw; have HK1 := Lib.hid hk; clear hw hk))
    go_ret
    exact ⟨_, rfl, HW.out, HK1.out⟩
  · go_enter Tryz.func44, Tryz.ntmps44
    go_wp2_with (at_builtin; go_must (refine wpList_wr1 rfl _ _ rfl H.out 121 (by omega) (by rfl) _ rfl (by rfl) ?_; intro g n1 cap w1 hc hf hw hk; have HW := Lib.hid hw; have HK1 := Lib.hid hk; clear hw hk))
    go_ret
    exact ⟨_, rfl, HW.out, HK1.out⟩


theorem lHead_len (letter : UInt8) (n : Nat) (hn : n < 18446744073709551616) : 0 < (lHead letter n).length ∧ (lHead letter n).length ≤ 22 := by
  have := digits_le n hn
  simp [lHead]
  omega


theorem Writer_Bytes (B p : Nat) (A : Option Addr) (n c : Nat) (t : List UInt8) (B1 : Nat) (hB1 : B1 ≤ B) (v : Value) (bs : List UInt8) (w : World) (hs : StdG w) (hB6 : 6 ≤ B) (h : WR w B p v bs) (ht : Sl w B1 (.slice A n c) t) (hl : bs.length + 23 + t.length ≤ 140737488355328) :
    Calls Tryz.prog 45 #[.pointer (some ⟨p, 0, none⟩), .slice A n c] w fun x w' => ∃ v', x = .returned (.pointer (some ⟨p, 0, none⟩)) ∧ WR w' B p v' (bs ++ lBytes t) ∧ KP B p w w' := by
  obtain ⟨hn, _, _⟩ := ht.len
  have c1 := Lib.hid (Writer_head B p n 98 (by omega) v bs w hs hB6 h (by omega))
  have hz := lHead_len 98 n (by omega)
  have hts := Lib.hid hn
  have HZ := Lib.hid hz
  have HT := Lib.hid ht
  have hln : bs.length + 23 + n ≤ 140737488355328 := by omega
  clear h hz hn ht hl
  go_enter Tryz.func45, Tryz.ntmps45
  go_wp2_with fail
  refine c1.out.mono ?_
  rintro x w1 ⟨v1, rfl, h1, hk1⟩
  have hc1 := h1.cell
  have hl1 : 0 < (bs ++ lHead 98 n).length := by rw [List.length_append]; have := HZ.out; omega
  have hl2 : (bs ++ lHead 98 n).length + t.length ≤ 140737488355328 := by rw [List.length_append]; have := HZ.out; have := hts.out; omega
  have H1 := Lib.hid h1
  have HK1 := Lib.hid hk1
  have HL1 := Lib.hid hl1
  have HL2 := Lib.hid hl2
  have HS := Lib.hid (HT.out.below (hk1.below.mono hB1))
  clear h1 hk1 hl1 hl2
  go_wp2_with (at_builtin; go_must (refine wpList_wrB rfl _ _ rfl H1.out B1 A n c t HS.out HL1.out HL2.out (by rfl) (by rfl) ?_; intro g n1 cap w2 hc hf hw hk; have HW := Lib.hid hw; have HK2 := Lib.hid hk; clear hw hk))
  go_ret
  have hfin := HW.out
  rw [hts.out, List.append_assoc] at hfin
  exact ⟨_, rfl, hfin, HK1.out.trans HK2.out⟩

theorem copied_any (A : Option Addr) (n c : Nat) (bs : List UInt8) (w : World) (B : Nat) (h : Sl w B (.slice A n c) bs) (hl : bs.length ≤ 140737488355328) :
    Calls Tryz.prog 58 #[.slice A n c] w fun x w' => ∃ v, x = .returned v ∧ w'.ownsRow w.heap.size 5 1 v bs.length (Lib.byteCells bs) ∧ Below w.heap.size w w' := by
  obtain ⟨i0, hi, hz0, hz1, hz2⟩ := info_parts info_u8
  have H := Lib.hid h
  clear h
  go_enter Tryz.func58, Tryz.ntmps58
  go_wp2_with (at_builtin; go_must (refine wpList_append_sl rfl _ _ 22 rfl w.heap.size 5 i0 _ Tryz.underlying22 hi hz0 hz1 hz2 rfl (.slice none 0 0) 0 [] rfl (World.ownsRow_nil _ _ _ _) B A n c bs rfl H.out (by omega) (Nat.le_refl _) ?_; intro v' w1 hown hgrow))
  go_ret
  refine ⟨v', rfl, by simpa using hown, (Below.refl _ _).grown hgrow (Nat.le_refl _) (by simp [Value.ownBlock])⟩


theorem Writer_Done (B p : Nat) (v : Value) (bs : List UInt8) (w : World) (h : WR w B p v bs) (hl : bs.length ≤ 140737488355328) :
    Calls Tryz.prog 47 #[.pointer (some ⟨p, 0, none⟩)] w fun x w' => ∃ u, x = .returned u ∧ w'.ownsRow w.heap.size 5 1 u bs.length (Lib.byteCells bs) ∧ Below w.heap.size w w' := by
  have hc0 := h.cell
  have hS : Sl w w.heap.size v bs := Sl.of_own h.own _ fun g hg => (h.own.lt g hg).2
  clear h
  obtain ⟨A, c, rfl, hx⟩ := hS
  have c1 := Lib.hid (copied_any A bs.length c bs w w.heap.size ⟨A, c, rfl, hx⟩ hl)
  clear hx
  go_enter Tryz.func47, Tryz.ntmps47
  go_wp2_with (go_at_call 58; refine c1.out.mono ?_; rintro x w' ⟨u, rfl, hown, hb⟩; have HO := Lib.hid hown; have HB := Lib.hid hb; clear hown hb)
  go_ret
  exact ⟨u, rfl, HO.out, HB.out⟩

end Go.Proofs.YtfblgkcipnkhaaaGreatDoor.pk

/-
  The package pack's writer: bytes that lie in blocks of their own, laid behind: what a call leaves, block by block.
-/
namespace Go.Proofs.YtfblgkcipnkhaaaGreatDoor.pk
open Go Go.RowKit Go.Sort
set_option maxRecDepth 100000

/-- What a writer's call leaves: every block that was there, but the writer's and its row's. -/
structure Kq (w w' : World) (p : Option Nat) (v v' : Value) : Prop where
  blk : ∀ k, k < w.heap.size → p ≠ some k → v.ownBlock ≠ some k → w'.heap[k]? = w.heap[k]?
  at_ : v'.ownBlock = v.ownBlock ∨ ∃ k, v'.ownBlock = some k ∧ w.heap.size ≤ k
  size : w.heap.size ≤ w'.heap.size
theorem Kq.trans {a b c : World} {p : Option Nat} {u v x : Value} (h : Kq a b p u v) (k : Kq b c p v x) : Kq a c p u x := by
  refine ⟨fun i hi hp hu => ?_, ?_, Nat.le_trans h.size k.size⟩
  · refine (k.blk i (Nat.lt_of_lt_of_le hi h.size) hp fun e => ?_).trans (h.blk i hi hp hu)
    rcases h.at_ with h1 | ⟨q, h1, h2⟩
    · exact hu (h1.symm.trans e)
    · rw [h1] at e; injection e with e; omega
  · rcases k.at_ with h1 | ⟨q, h1, h2⟩
    · rw [h1]; exact h.at_
    · exact Or.inr ⟨q, h1, Nat.le_trans h.size h2⟩
theorem place_of {w : World} {v v' : Value} (h : v'.ownBlock = v.ownBlock ∨ v'.ownBlock = some w.heap.size) : v'.ownBlock = v.ownBlock ∨ ∃ k, v'.ownBlock = some k ∧ w.heap.size ≤ k := h.imp_right fun h => ⟨_, h, Nat.le_refl _⟩
theorem Kq.of_grown {w w' : World} {v v' : Value} (hg : w.grownBy w' v.ownBlock) (ha : v'.ownBlock = v.ownBlock ∨ ∃ k, v'.ownBlock = some k ∧ w.heap.size ≤ k) : Kq w w' none v v' :=
  ⟨fun k hk _ hv => hg.block k hk fun e => hv e.symm, ha, hg.size⟩
theorem Kq.ahead {a b c : World} {p : Option Nat} {u v : Value} (hb : Below a.heap.size a b) (h : Kq b c p u v) : Kq a c p u v := by
  refine ⟨fun k hk hp hv => (h.blk k (Nat.lt_of_lt_of_le hk hb.size) hp hv).trans (hb.block k hk), ?_, Nat.le_trans hb.size h.size⟩
  rcases h.at_ with h1 | ⟨q, h1, h2⟩
  · exact Or.inl h1
  · exact Or.inr ⟨q, h1, Nat.le_trans hb.size h2⟩
theorem Kq.store {w w' : World} {p : Nat} {v v' : Value} {i : Nat} (h : Kq w w' none v v') (u : Value) : Kq w (w'.setCell ⟨p, i, none⟩ u) (some p) v v' :=
  ⟨fun k hk hp hv => (Below.heap_setCell _ _ _ _ (fun e => hp (by rw [e]))).trans (h.blk k hk (by simp) hv), h.at_, by rw [World.size_setCell]; exact h.size⟩

/-- 'append(b, s...)' of a text: where the row is then. -/
theorem string_at {P : Program} {w w' : World} {base : Nat} {t u ty e : TypeId} {i : TypeInfo} (ht : P.underlying t = some (.slice e)) (hu : P.underlying u = some .string) (hi : P.info? e = some i) (hz : i.zero = some (.int .u8 0)) (hsize : i.size = 1) (hby : i.bytes = 1)
    {v v' : Value} {n : Nat} {xs : List Value} (hown : w.ownsRow base e 1 v n xs) {s : ByteArray} (h63 : n + s.size ≤ 140737488355328)
    (hr : (Builtin.append_ #[t, u] ty #[v, .string s]).run P w = .ok v' w') : v'.ownBlock = v.ownBlock ∨ v'.ownBlock = some w.heap.size := by
  rcases hown.2 with ⟨rfl, rfl⟩ | ⟨g, cap, cur, rfl, _, hg, hnc, hcm, hcs, _⟩
  · by_cases h0 : s.size = 0
    · have hf := Lib.run_firstCells_string (P := P) w 1 s
      rw [h0] at hf
      simp [Builtin.append_, run_underlying ht, run_underlying hu, sizeOf, typeInfo, hi, hsize, Builtin.lenOf, h0, hf] at hr
      exact Or.inl (by rw [← hr.1])
    · rw [run_append_nil_string (P := P) w t u ty e i (.int .u8 0) ht hu hi hz s (by omega) (by omega) (by rw [hby]; omega)] at hr
      injection hr with h1 h2
      exact Or.inr (by rw [← h1]; rfl)
  · by_cases hroom : n + s.size ≤ cap
    · rw [Lib.run_append_room_string (P := P) w t u ty e i ht hu hi hsize g n cap cur hg s hroom (by omega)] at hr
      injection hr with h1 h2
      exact Or.inl (by rw [← h1]; rfl)
    · rw [Lib.run_append_grow_string (P := P) w t u ty e i (.int .u8 0) ht hu hi hz ⟨g, 0, none⟩ n cap xs (by rw [hsize]; simpa using hown.1) (hown.cells (g := g) rfl) s (by omega) (by omega) (by rw [hby]; exact growslice_fits (by omega) (by omega))] at hr
      injection hr with h1 h2
      exact Or.inr (by rw [← h1]; rfl)
theorem wpList_text_at {w : World} {ops : Array Oper} {rest : List Oper} {o : Oper} {a : Act} {Q : Exit → Act → World → Prop} (hgd : o.guard = none) (sl x : Operand)
    (ho : o.op = .call { callee := .builtin .append, args := #[sl, x], argTypes := #[22, 9] }) (B n : Nat) (v : Value) (xs : List Value) (hs : a.eval sl = v) (hown : w.ownsRow B 5 1 v n xs) (l : List UInt8) (hx : a.eval x = .string ⟨l.toArray⟩)
    (hb : n + l.length ≤ 140737488355328) (hB : B ≤ w.heap.size)
    (h : ∀ v' w', w'.ownsRow B 5 1 v' (n + l.length) (xs ++ Lib.byteCells l) → w.grownBy w' v.ownBlock → (v'.ownBlock = v.ownBlock ∨ v'.ownBlock = some w.heap.size) → wpList Tryz.prog ops Q rest (a.put o.dst v') w') : wpList Tryz.prog ops Q (o :: rest) a w := by
  obtain ⟨i0, hi, hz0, hz1, hz2⟩ := info_parts info_u8
  have hsz : (⟨l.toArray⟩ : ByteArray).size = l.length := by simp [ByteArray.size]
  refine wpList_plain hgd fun K hK => ?_
  obtain ⟨v', w', hr, h2, h3, -⟩ := Lib.run_append_own_string (P := Tryz.prog) w B 22 9 o.type 5 i0 Tryz.underlying22 Tryz.underlying9 hi hz0 hz1 hz2 v n xs hown ⟨l.toArray⟩ (by rw [hsz]; simp only [maxLen]; omega) (by rw [hsz]; omega) hB
  have h4 := string_at Tryz.underlying22 Tryz.underlying9 hi hz0 hz1 hz2 hown (by rw [hsz]; omega) hr
  rw [hsz, strCells_mk] at h2
  unfold Oper.wp execOp
  simp only [ho, resolve, invoke, builtin, Sem.run_bind, Sem.run_pure, Result.andThen_ok, List.map_toArray, List.map_cons, List.map_nil, hs, hx, hr]
  exact hK _ _ (h v' w' h2 h3 h4)

set_option maxHeartbeats 2000000 in
theorem auSmall (B n u : Nat) (hu : u < 100) (v : Value) (xs : List Value) (w : World) (hown : w.ownsRow B 5 1 v n xs) (hB : B ≤ w.heap.size) (hl : n + 20 ≤ 140737488355328) :
    Calls Tryz.prog 101 #[v, .int .u64 (u : Int), .int .i64 10] w fun e w' => ∃ v', e = .returned v' ∧ w'.ownsRow B 5 1 v' (n + (Lib.decDigits u).length) (xs ++ Lib.byteCells (Lib.decDigits u)) ∧ w.grownBy w' v.ownBlock ∧ (v'.ownBlock = v.ownBlock ∨ ∃ k, v'.ownBlock = some k ∧ w.heap.size ≤ k) := by
  have C := Lib.hid fun W => Tryz.internal_strconv_small u hu W
  have HD := Lib.hid (digits_le u (by omega))
  have HO := Lib.hid (And.intro hown (And.intro hB hl))
  have i1 : (u : Int) < 100 := by omega
  have i0 : (0 : Int) ≤ (u : Int) := by omega
  have iw : IntKind.i64.wrap (u : Int) = (u : Int) := by rw [IntKind.wrap_i64]; omega
  clear hown hB hl
  go_enter Tryz.func101, Tryz.ntmps101
  go_wp2_with (first
    | (go_at_call 104; go_must (refine (C.out _).mono ?_; rintro y w1 ⟨rfl, rfl⟩))
    | (at_builtin; go_must (refine wpList_text_at rfl _ _ rfl B n v xs rfl HO.out.1 (Lib.decDigits u) rfl (by have := HD.out; have := HO.out.2.2; omega) HO.out.2.1 ?_; intro v' w1 ho hg ha; have H1 := Lib.hid (And.intro ho (And.intro hg (place_of ha))); clear ho hg ha)))
  go_ret
  exact ⟨v', rfl, H1.out.1, H1.out.2⟩

set_option maxHeartbeats 8000000 in
theorem auBig (B n u : Nat) (hu : 100 ≤ u) (hu64 : u < 18446744073709551616) (v : Value) (xs : List Value) (w : World) (hs : StdG w) (hown : w.ownsRow B 5 1 v n xs) (hB : B ≤ w.heap.size) (hl : n + 20 ≤ 140737488355328) :
    Calls Tryz.prog 101 #[v, .int .u64 (u : Int), .int .i64 10] w fun e w' => ∃ v', e = .returned v' ∧ w'.ownsRow B 5 1 v' (n + (Lib.decDigits u).length) (xs ++ Lib.byteCells (Lib.decDigits u)) ∧ w.grownBy w' v.ownBlock ∧ (v'.ownBlock = v.ownBlock ∨ ∃ k, v'.ownBlock = some k ∧ w.heap.size ≤ k) := by
  obtain ⟨i0, hi, hz0, hz1, hz2⟩ := info_parts info_u8
  have hdl := Lib.decDigits_length u
  have hd20 := digits_le u hu64
  rw [hdl] at hd20
  have hal : Tryz.prog.arrayLen 172 = 24 := by kernel_rfl
  have hsl : ∀ W, (Instr.sliceAt 172 (.pointer (some ⟨w.heap.size, 0, none⟩)) none (some (.int .i64 (Lib.nDigits u : Int))) none).run Tryz.prog W = .ok (.slice (some ⟨w.heap.size, 0, none⟩) (Lib.nDigits u) 24) W := fun W => by
    rw [run_sliceAt_array_h W 172 ⟨w.heap.size, 0, none⟩ (by kernel_rfl) .i64 (Lib.nDigits u : Int) (by omega) (by rw [hal]; omega)]
    go_simp
  have hz := Lib.holds_zero0 w 172 (Lib.nDigits u) (by omega)
  have CF := Tryz.internal_strconv_formatBase10 w.heap.size 0 24 u (Array.replicate (Lib.nDigits u) 0) (w.alloc (.cells Lib.zeros24 172)) hz (by rw [Array.size_replicate]; exact Lib.lt_pow_nDigits u) hu64 (by rw [Array.size_replicate]; omega)
  rw [Array.size_replicate] at CF
  have CN := Lib.hid (Tryz.internal_strconv_numDigits u (by omega) hu64 (w.alloc (.cells Lib.zeros24 172)) (Lib.tabIs_alloc hs.tab _))
  have iu : ¬ (u : Int) < 100 := by omega
  have HZ := Lib.hid hz
  clear hz hal
  go_enter Tryz.func101, Tryz.ntmps101
  go_wp2_with (go_at_call 105; go_must (refine CN.out.mono ?_; rintro y w1 ⟨rfl, rfl⟩))
  go_at_call 106
  refine CF.mono ?_
  rintro e w2 ⟨rfl, k, v2, dk, rfl, hF⟩
  obtain ⟨W2, hW2⟩ : ∃ W, W = (putRow (fun (b : UInt8) => Value.int .u8 (b.toNat : Int)) (w.alloc (.cells Lib.zeros24 172)) w.heap.size 0 dk).drewN k := ⟨_, rfl⟩
  have hcell : ∀ j x, (Lib.byteCells (Lib.decDigits u))[j]? = some x → W2.cell? ((⟨w.heap.size, 0, none⟩ : Addr).add j) = some x := by
    intro j x hj
    have hjl : j < (Lib.decDigits u).length := by
      have h5 := (List.getElem?_eq_some_iff.1 hj).1
      rwa [Lib.byteCells_length] at h5
    have hx : x = Value.int .u8 ((Lib.decDigits u)[j].toNat : Int) := by
      simp [Lib.byteCells, hjl] at hj
      exact hj.symm
    subst hx
    rw [hW2, Lib.row_is_numeral hF j hjl, Lib.add_plain, World.cell?_drewN]
    exact cell?_putRow (fun (b : UInt8) => Value.int .u8 (b.toNat : Int)) _ w.heap.size 0 _ dk HZ.out (by rw [hF.size, Array.size_replicate]) j (by rw [hF.size]; omega)
  obtain ⟨os, eo⟩ := Lib.fin_at w (.cells Lib.zeros24 172) dk k 0
  rw [← hW2] at eo ⊢
  have hown2 : W2.ownsRow B 5 1 v n xs := by rw [eo]; exact Lib.ownsRow_grow hown k os
  have hb2 : Below w.heap.size w W2 := by rw [eo]; exact Lib.below_grow w.heap.size w (Nat.le_refl _) k os
  have HO := Lib.hid (And.intro hown2 (And.intro hb2 (And.intro (And.intro hB hl) hcell)))
  have hbc : (Lib.byteCells (Lib.decDigits u)).length = Lib.nDigits u * 1 := by rw [Lib.byteCells_length, Lib.decDigits_length, Nat.mul_one]
  have HC := Lib.hid (And.intro hbc hd20)
  clear eo CF hF hW2 hcell hown2 hb2 hown hB hl hs hdl hd20 hbc
  go_wp2_with (at_builtin; go_must (refine wpList_append_own_at _ rfl _ _ 22 rfl B 5 i0 (.int .u8 0) 1 1 Tryz.underlying22 hi hz0 hz1 hz2 rfl (by decide) v n xs rfl HO.out.1 ⟨w.heap.size, 0, none⟩ (Lib.nDigits u) 24 (Lib.byteCells (Lib.decDigits u)) rfl HC.out.1 HO.out.2.2.2 (by intro x hx; simp only [Lib.byteCells, List.mem_map] at hx; obtain ⟨b, _, rfl⟩ := hx; rfl) (by have h1 := HO.out.2.2.1.2; have h2 := HC.out.2; simp only [maxLen]; omega) (by have h1 := HO.out.2.2.1.2; have h2 := HC.out.2; omega) (Nat.le_trans HO.out.2.2.1.1 HO.out.2.1.size) ?_; intro v' w3 ho hg _ ha; have H1 := Lib.hid (And.intro ho (And.intro hg (place_of ha))); clear ho hg ha))
  go_ret
  exact ⟨v', rfl, by rw [Lib.decDigits_length]; exact H1.out.1, grown_trans (grown_below HO.out.2.1 _) H1.out.2.1, H1.out.2.2.imp_right fun ⟨k, h1, h2⟩ => ⟨k, h1, Nat.le_trans HO.out.2.1.size h2⟩⟩

theorem au_any (B n u : Nat) (hu64 : u < 18446744073709551616) (v : Value) (xs : List Value) (w : World) (hs : StdG w) (hown : w.ownsRow B 5 1 v n xs) (hB : B ≤ w.heap.size) (hl : n + 20 ≤ 140737488355328) :
    Calls Tryz.prog 101 #[v, .int .u64 (u : Int), .int .i64 10] w fun e w' => ∃ v', e = .returned v' ∧ w'.ownsRow B 5 1 v' (n + (Lib.decDigits u).length) (xs ++ Lib.byteCells (Lib.decDigits u)) ∧ w.grownBy w' v.ownBlock ∧ (v'.ownBlock = v.ownBlock ∨ ∃ k, v'.ownBlock = some k ∧ w.heap.size ≤ k) := by
  by_cases hu : u < 100
  · exact auSmall B n u hu v xs w hown hB hl
  · exact auBig B n u (by omega) hu64 v xs w hs hown hB hl

set_option maxHeartbeats 2000000 in
theorem ai_any (B n u : Nat) (hu : u ≤ 9223372036854775807) (v : Value) (xs : List Value) (w : World) (hs : StdG w) (hown : w.ownsRow B 5 1 v n xs) (hB : B ≤ w.heap.size) (hl : n + 20 ≤ 140737488355328) :
    Calls Tryz.prog 93 #[v, .int .i64 (u : Int), .int .i64 10] w fun e w' => ∃ v', e = .returned v' ∧ w'.ownsRow B 5 1 v' (n + (Lib.decDigits u).length) (xs ++ Lib.byteCells (Lib.decDigits u)) ∧ w.grownBy w' v.ownBlock ∧ (v'.ownBlock = v.ownBlock ∨ ∃ k, v'.ownBlock = some k ∧ w.heap.size ≤ k) := by
  have C := Lib.hid (au_any B n u (by omega) v xs w hs hown hB hl)
  have i0 : ¬ (u : Int) < 0 := by omega
  have iw : IntKind.u64.wrap (u : Int) = (u : Int) := by rw [IntKind.wrap_u64]; omega
  have D : Hid (Calls Tryz.prog 102 #[v, .int .i64 (u : Int), .int .i64 10] w fun e w' => ∃ v', e = .returned v' ∧ w'.ownsRow B 5 1 v' (n + (Lib.decDigits u).length) (xs ++ Lib.byteCells (Lib.decDigits u)) ∧ w.grownBy w' v.ownBlock ∧ (v'.ownBlock = v.ownBlock ∨ ∃ k, v'.ownBlock = some k ∧ w.heap.size ≤ k)) := by
    apply Lib.hid
    clear hs hown hB hl hu
    go_enter Tryz.func102, Tryz.ntmps102
    go_wp2_with (go_at_call 101; go_must (refine C.out.mono ?_; rintro y w1 ⟨v', rfl, h1, h2⟩; have H1 := Lib.hid (And.intro h1 h2); clear h1 h2))
    go_ret
    exact ⟨v', rfl, H1.out.1, H1.out.2⟩
  clear hs hown hB hl hu iw i0 C
  go_enter Tryz.func93, Tryz.ntmps93
  go_wp2_with (go_at_call 102; go_must (refine D.out.mono ?_; rintro y w1 ⟨v', rfl, h1, h2⟩; have H1 := Lib.hid (And.intro h1 h2); clear h1 h2))
  go_ret
  exact ⟨v', rfl, H1.out.1, H1.out.2⟩

/-- 'append(w.b, c)' at a writer's row: what it leaves, too. -/
theorem wpList_wr1q {w : World} {B p : Nat} {v : Value} {bs : List UInt8} {ops : Array Oper} {rest : List Oper} {o : Oper} {a : Act} {Q : Exit → Act → World → Prop} (hgd : o.guard = none) (s x : Operand)
    (ho : o.op = .call { callee := .builtin .append, args := #[s, x], argTypes := #[22, 22] }) (h : WR w B p v bs) (c : UInt8) (hl : bs.length + 1 ≤ 140737488355328)
    (hs : a.eval s = v) (H : Nat) (hH : w.heap.size = H) (hx : a.eval x = .slice (some ⟨H, 0, none⟩) 1 1)
    (hK : ∀ g n cap w1, w1.cell? ⟨p, 0, none⟩ = some v → w1.frozen? ⟨p, 0, none⟩ = false →
      WR (w1.setCell ⟨p, 0, none⟩ (.slice (some ⟨g, 0, none⟩) n cap)) B p (.slice (some ⟨g, 0, none⟩) n cap) (bs ++ [c]) → KP B p w (w1.setCell ⟨p, 0, none⟩ (.slice (some ⟨g, 0, none⟩) n cap)) → Kq w (w1.setCell ⟨p, 0, none⟩ (.slice (some ⟨g, 0, none⟩) n cap)) (some p) v (.slice (some ⟨g, 0, none⟩) n cap) →
      wpList Tryz.prog ops Q rest (a.put o.dst (.slice (some ⟨g, 0, none⟩) n cap)) w1) :
    wpList Tryz.prog ops Q (o :: rest) a (w.alloc (.cells #[.int .u8 (c.toNat : Int)] 5)) := by
  obtain ⟨i0, hi, hz0, hz1, hz2⟩ := info_parts info_u8
  have hB := h.hB
  subst hH
  refine wpList_append_lies _ hgd s x 22 ho B 5 i0 _ 1 1 Tryz.underlying22 hi hz0 hz1 hz2 rfl (by omega) v bs.length (Lib.byteCells bs) hs (h.own.alloc _) ⟨w.heap.size, 0, none⟩ 1 1 [.int .u8 (c.toNat : Int)] hx rfl (cell_one_new _ _ _)
    (by intro u hu; simp at hu; subst hu; rfl) (by omega) (by simp only [maxLen]; omega) (by omega) (by simp; omega) _ rfl ?_
  intro g cap w1 hown hgrow hat _
  obtain ⟨hb, hk⟩ := h.grown1 hgrow
  have hp := h.blk_kept hk
  obtain ⟨h1, h2⟩ := h.put (m := [c]) hb hk hown
  have hq : Kq (w.alloc (.cells #[.int .u8 (c.toNat : Int)] 5)) w1 none v (.slice (some ⟨g, 0, none⟩) (bs.length + 1) cap) :=
    Kq.of_grown hgrow (hat.imp (fun e => e.symm) fun e => ⟨g, rfl, by rw [e]; exact Nat.le_refl _⟩)
  exact hK g _ cap w1 (by rw [cell_of_row w1 p 0 _ _ (0, 0) hp]; rfl) (by simp [World.frozen?, hp]) h1 h2 ((Kq.ahead (below_alloc w _) hq).store _)

set_option maxHeartbeats 2000000 in
theorem headQ (B p n : Nat) (letter : UInt8) (hn : n ≤ 9223372036854775807) (v : Value) (bs : List UInt8) (w : World) (hs : StdG w) (hB6 : 6 ≤ B) (h : WR w B p v bs) (hl : bs.length + 23 ≤ 140737488355328) :
    Calls Tryz.prog 75 #[.pointer (some ⟨p, 0, none⟩), .int .u8 (letter.toNat : Int), .int .i64 (n : Int)] w fun x w' => ∃ v', x = .returned (.tuple #[]) ∧ WR w' B p v' (bs ++ lHead letter n) ∧ KP B p w w' ∧ Kq w w' (some p) v v' := by
  have hc0 := h.cell
  have H := Lib.hid h
  have hlt := h.lt
  have HD := Lib.hid (digits_le n (by omega))
  clear h
  go_enter Tryz.func75, Tryz.ntmps75
  go_wp2_with (at_builtin; go_must (refine wpList_wr1q rfl _ _ rfl H.out letter (by omega) (by rfl) _ rfl (by rfl) ?_; intro g n1 cap w1 hc hf hw hk hq; have HW := Lib.hid hw; have HK1 := Lib.hid (And.intro hk hq); clear hw hk hq))
  generalize World.setCell w1 ⟨p, 0, none⟩ (Value.slice (some ⟨g, 0, none⟩) n1 cap) = W1 at HW HK1 ⊢
  go_at_call 93
  refine (ai_any B (bs ++ [letter]).length n hn _ _ W1 (hs.low hB6 HK1.out.1.below) HW.out.own HW.out.hB (by simp; omega)).mono ?_
  rintro e w2 ⟨v2, rfl, hown2, hg2, ha2⟩
  have hb2 : Below B W1 w2 := (Below.refl B W1).grown hg2 HW.out.hB fun k hk => (HW.out.own.lt k hk).1
  have hk2 : Lib.OthersKept 5 none W1 w2 := (Lib.OthersKept.refl _ _ W1).grown hg2 (Lib.ownsRow_kind HW.out.own)
  obtain ⟨g2, n2, c2, rfl, hc2, hf2, hw2, hk3⟩ := HW.out.next hb2 hk2 (digits_pos n) hown2
  have HW2 := Lib.hid hw2
  have HK2 := Lib.hid (And.intro hk3 ((Kq.of_grown hg2 ha2).store (p := p) (i := 0) (.slice (some ⟨g2, 0, none⟩) n2 c2)))
  clear hown2 hb2 hk2 hw2 hk3 hc hf hc0 hg2 ha2
  have hl1 := Lib.hid (show (bs ++ [letter]).length = bs.length + 1 by simp)
  go_wp2_with (at_builtin; go_must (refine wpList_wr1q rfl _ _ rfl HW2.out 58 (by rw [List.length_append, hl1.out]; have := HD.out; omega) (by rfl) w2.heap.size (by simp [World.setCell]) (by rfl) ?_; intro g3 n3 cap3 w3 hc3 hf3 hw4 hk4 hq4; have HW3 := Lib.hid hw4; have HK4 := Lib.hid (And.intro hk4 hq4); clear hw4 hk4 hq4))
  go_end0
  exact ⟨_, rfl, by simpa [lHead] using HW3.out, (HK1.out.1.trans HK2.out.1).trans HK4.out.1, (HK1.out.2.trans HK2.out.2).trans HK4.out.2⟩

/-- 'Bytes(b)', b in blocks that are neither the writer's nor its row's. -/
theorem Writer_BytesQ (B p : Nat) (A : Option Addr) (n c : Nat) (t : List UInt8) (v : Value) (bs : List UInt8) (w : World) (hs : StdG w) (hB6 : 6 ≤ B) (h : WR w B p v bs) (ht : SlT w (fun q => q < w.heap.size ∧ q ≠ p ∧ v.ownBlock ≠ some q) (.slice A n c) t) (hl : bs.length + 23 + t.length ≤ 140737488355328) :
    Calls Tryz.prog 45 #[.pointer (some ⟨p, 0, none⟩), .slice A n c] w fun x w' => ∃ v', x = .returned (.pointer (some ⟨p, 0, none⟩)) ∧ WR w' B p v' (bs ++ lBytes t) ∧ KP B p w w' := by
  obtain ⟨hn, _, _⟩ := ht.sl.len
  have c1 := Lib.hid (headQ B p n 98 (by omega) v bs w hs hB6 h (by omega))
  have hz := lHead_len 98 n (by omega)
  have hts := Lib.hid hn
  have HZ := Lib.hid hz
  have HT := Lib.hid ht
  have hln : bs.length + 23 + n ≤ 140737488355328 := by omega
  clear h hz hn ht hl
  go_enter Tryz.func45, Tryz.ntmps45
  go_wp2_with fail
  refine c1.out.mono ?_
  rintro x w1 ⟨v1, rfl, h1, hk1, hq1⟩
  have hc1 := h1.cell
  have hl1 : 0 < (bs ++ lHead 98 n).length := by rw [List.length_append]; have := HZ.out; omega
  have hl2 : (bs ++ lHead 98 n).length + t.length ≤ 140737488355328 := by rw [List.length_append]; have := HZ.out; have := hts.out; omega
  have H1 := Lib.hid h1
  have HK1 := Lib.hid hk1
  have HL1 := Lib.hid hl1
  have HL2 := Lib.hid hl2
  have HS := Lib.hid ((HT.out.kept (w' := w1) fun k hk _ => hq1.blk k hk.1 (fun e => hk.2.1 (by injection e with e; exact e.symm)) hk.2.2).sl)
  clear h1 hk1 hl1 hl2 hq1
  go_wp2_with (at_builtin; go_must (refine wpList_wrB rfl _ _ rfl H1.out w1.heap.size A n c t HS.out HL1.out HL2.out (by rfl) (by rfl) ?_; intro g n1 cap w2 hc hf hw hk; have HW := Lib.hid hw; have HK2 := Lib.hid hk; clear hw hk))
  go_ret
  have hfin := HW.out
  rw [hts.out, List.append_assoc] at hfin
  exact ⟨_, rfl, hfin, HK1.out.trans HK2.out⟩

end Go.Proofs.YtfblgkcipnkhaaaGreatDoor.pk

/-
  The functions of the package pack that take a thing off the begin of bytes: each gives what the plain functions on lists give; nothing that was there changes.
-/
namespace Go.Proofs.YtfblgkcipnkhaaaGreatDoor.pk
open Go Go.RowKit
set_option maxRecDepth 100000

theorem takeLetter_ok (A : Option Addr) (n c : Nat) (l : UInt8) (r : List UInt8) (w : World) {B : Nat} (h : Sl w B (.slice A n c) (l :: r)) :
    Calls Tryz.prog 98 #[.slice A n c, .int .u8 (l.toNat : Int)] w fun e w' => ∃ A' c', e = .returned (.tuple #[.slice A' r.length c', .nilIface]) ∧ Sl w B (.slice A' r.length c') r ∧ w = w' := by
  have hcut := h.cut (k := 1) (by simp)
  obtain ⟨A0, c0, hv, h1, h2, h3⟩ := h
  injection hv with e1 e2 e3
  subst e1; subst e2; subst e3
  rcases h3 with h3 | ⟨b, off, rfl, hb, hc⟩
  · cases h3
  have hc0 := hc 0 (by simp)
  simp only [List.getD_cons_zero, Nat.add_zero] at hc0
  simp only [List.length_cons] at h1
  have hl : (1 : Int) ≤ (c : Int) := by omega
  have hn : (1 : Int) ≤ ((r.length + 1 : Nat) : Int) := by omega
  go_enter Tryz.func98, Tryz.ntmps98
  go_wp2
  all_goals go_ret2
  all_goals exact ⟨_, _, rfl, by simpa [*, Addr.add] using hcut, rfl⟩

theorem takeLetter_end (A : Option Addr) (c : Nat) (l : UInt8) (w : World) :
    Calls Tryz.prog 98 #[.slice A 0 c, .int .u8 (l.toNat : Int)] w fun e w' => e = .returned (.tuple #[.slice none 0 0, .iface 60 (.int .i64 12)]) ∧ w = w' := by
  go_enter Tryz.func98, Tryz.ntmps98
  go_wp2
  all_goals go_ret2
  exact ⟨rfl, rfl⟩

theorem takeLetter_form (A : Option Addr) (n c : Nat) (l d : UInt8) (r : List UInt8) (w : World) {B : Nat} (h : Sl w B (.slice A n c) (d :: r)) (hne : d ≠ l) :
    Calls Tryz.prog 98 #[.slice A n c, .int .u8 (l.toNat : Int)] w fun e w' => e = .returned (.tuple #[.slice none 0 0, .iface 60 (.int .i64 3)]) ∧ w = w' := by
  obtain ⟨A0, c0, hv, h1, h2, h3⟩ := h
  injection hv with e1 e2 e3
  subst e1; subst e2; subst e3
  rcases h3 with h3 | ⟨b, off, rfl, hb, hc⟩
  · cases h3
  have hc0 := hc 0 (by simp)
  simp only [List.getD_cons_zero, Nat.add_zero] at hc0
  simp only [List.length_cons] at h1
  have hn : (1 : Int) ≤ ((r.length + 1 : Nat) : Int) := by omega
  have hx : (d.toNat : Int) ≠ (l.toNat : Int) := fun e => hne (UInt8.toNat_inj.1 (by omega))
  have hy : ((d.toNat : Int) != (l.toNat : Int)) = true := by simpa using hx
  clear hc hx hne
  go_enter Tryz.func98, Tryz.ntmps98
  go_wp2
  all_goals go_ret2
  exact ⟨rfl, rfl⟩

theorem number_nought (A : Option Addr) (n c : Nat) (r : List UInt8) (w : World) {B : Nat} (h : Sl w B (.slice A n c) (48 :: r)) (hr : r ≠ []) :
    Calls Tryz.prog 103 #[.slice A n c] w fun e w' => e = .returned (.tuple #[.int .u64 0, .iface 60 (.int .i64 3)]) ∧ w = w' := by
  obtain ⟨A0, c0, hv, h1, h2, h3⟩ := h
  injection hv with e1 e2 e3
  subst e1; subst e2; subst e3
  rcases h3 with h3 | ⟨b, off, rfl, hb, hc⟩
  · cases h3
  have hc0 : w.cell? ⟨b, off, none⟩ = some (.int .u8 48) := hc 0 (by simp)
  simp only [List.length_cons] at h1
  have hl : 0 < r.length := List.length_pos_iff.2 hr
  have hn : (2 : Int) ≤ ((r.length + 1 : Nat) : Int) := by omega
  clear hc hr
  go_enter Tryz.func103, Tryz.ntmps103
  go_wp2
  all_goals go_ret2
  exact ⟨rfl, rfl⟩

/-- What a call leaves that lays bytes at most. -/
theorem below_bytes {w w' : World} {s : ByteArray} (h : w' = w ∨ w' = Lib.bytesWorld w 5 s) : Below w.heap.size w w' := by
  rcases h with rfl | rfl
  · exact Below.refl _ _
  · exact Lib.bytesWorld_below _ _ _

theorem number_ok (A : Option Addr) (n c u : Nat) (ds : List UInt8) (w : World) {B : Nat} (h : Sl w B (.slice A n c) ds) (hl : ds.length ≤ 20) (hu : numOf ds = some u) :
    Calls Tryz.prog 103 #[.slice A n c] w fun e w' => e = .returned (.tuple #[.int .u64 (u : Int), .nilIface]) ∧ Below w.heap.size w w' := by
  have hcv := conv_bytes h
  obtain ⟨hnn, hp⟩ := numOf_some hu
  have hsz : (⟨ds.toArray⟩ : ByteArray).size = ds.length := by simp [ByteArray.size]
  have Hcall := Lib.hid (Tryz.strconv_ParseUint_10_at64_ok ⟨ds.toArray⟩ (by rw [hsz]; omega) u hp)
  obtain ⟨A0, c0, hv, h1, h2, h3⟩ := h
  injection hv with e1 e2 e3
  subst e1; subst e2; subst e3
  clear hp hsz hu
  generalize (⟨ds.toArray⟩ : ByteArray) = s at hcv Hcall
  rcases ds with _ | ⟨d, r⟩
  · clear h3 hnn hl
    simp only [List.length_nil] at hcv h1 ⊢
    go_enter Tryz.func103, Tryz.ntmps103
    go_wp2_with (go_at_call 108; refine (Hcall.out _).mono ?_; rintro e w' ⟨rfl, hw⟩)
    go_ret2
    exact ⟨rfl, below_bytes hw⟩
  · rcases h3 with h3 | ⟨b, off, rfl, hb, hc⟩
    · cases h3
    have hc0 := hc 0 (by simp)
    simp only [List.getD_cons_zero, Nat.add_zero] at hc0
    simp only [List.length_cons] at h1 hl hnn hcv ⊢
    clear hc
    by_cases hr : r = []
    · subst hr
      simp only [List.length_nil, Nat.zero_add] at *
      clear hnn
      go_enter Tryz.func103, Tryz.ntmps103
      go_wp2_with (go_at_call 108; refine (Hcall.out _).mono ?_; rintro e w' ⟨rfl, hw⟩)
      go_ret2
      exact ⟨rfl, below_bytes hw⟩
    · have hl : 0 < r.length := List.length_pos_iff.2 hr
      have hd : d ≠ 48 := fun e => hnn ⟨by omega, by rw [e]; rfl⟩
      have hx : (d.toNat : Int) ≠ 48 := fun e => hd (UInt8.toNat_inj.1 (by show d.toNat = 48; omega))
      have hy : ((d.toNat : Int) == 48) = false := by simpa using hx
      have hn : (2 : Int) ≤ ((r.length + 1 : Nat) : Int) := by omega
      clear hnn hr hd hx
      go_enter Tryz.func103, Tryz.ntmps103
      go_wp2_with (go_at_call 108; refine (Hcall.out _).mono ?_; rintro e w' ⟨rfl, hw⟩)
      go_ret2
      exact ⟨rfl, below_bytes hw⟩

theorem number_err (A : Option Addr) (n c : Nat) (ds : List UInt8) (w : World) (hs : StdP w) {B : Nat} (h : Sl w B (.slice A n c) ds) (hl : ds.length ≤ 20) (hu : numOf ds = none) :
    Calls Tryz.prog 103 #[.slice A n c] w fun e w' => e = .returned (.tuple #[.int .u64 0, .iface 60 (.int .i64 3)]) ∧ Below w.heap.size w w' := by
  by_cases hnn : 1 < ds.length ∧ ds.head? = some 48
  · rcases ds with _ | ⟨d, r⟩
    · simp at hnn
    · obtain ⟨h1, h2⟩ := hnn
      simp only [List.head?_cons, Option.some.injEq] at h2
      subst h2
      refine (number_nought A n c r w h (fun e => by subst e; simp at h1)).mono ?_
      rintro e w' ⟨rfl, rfl⟩
      exact ⟨rfl, Below.refl _ _⟩
  have hcv := conv_bytes h
  have hsz : (⟨ds.toArray⟩ : ByteArray).size = ds.length := by simp [ByteArray.size]
  have Hex : Hid (∃ m : Int, ∀ w, StdP w → Calls Tryz.prog 108 #[.string ⟨ds.toArray⟩, .int .i64 10, .int .i64 64] w fun e w' => ∃ N, e = .returned (.tuple #[.int .u64 m, .iface 187 (.pointer (some ⟨N, 0, none⟩))]) ∧ Below w.heap.size w w') := by
    rcases numOf_none hu hnn with hp | hp
    · refine Lib.hid ⟨0, fun w hs => ?_⟩
      obtain ⟨tp, p, hv⟩ := hs.syn
      refine (Tryz.parse_bad ⟨ds.toArray⟩ (by rw [hsz]; omega) hp tp p w hv).mono ?_
      rintro e w' ⟨N, he, _, _, hb⟩
      exact ⟨N, he, hb⟩
    · refine Lib.hid ⟨18446744073709551615, fun w hs => ?_⟩
      obtain ⟨tp, p, hv⟩ := hs.rng
      refine (Tryz.strconv_ParseUint_10_at64_range_var ⟨ds.toArray⟩ (by rw [hsz]; omega) hp tp p w hv).mono ?_
      rintro e w' ⟨N, he, _, _, hb⟩
      exact ⟨N, he, hb⟩
  obtain ⟨m, hcall⟩ := Hex.out
  have Hcall := Lib.hid hcall
  clear hcall Hex
  obtain ⟨A0, c0, hv, h1, h2, h3⟩ := h
  injection hv with e1 e2 e3
  subst e1; subst e2; subst e3
  clear hsz hu
  generalize (⟨ds.toArray⟩ : ByteArray) = s at hcv Hcall
  rcases ds with _ | ⟨d, r⟩
  · clear h3 hnn hl
    simp only [List.length_nil] at hcv h1 ⊢
    go_enter Tryz.func103, Tryz.ntmps103
    go_wp2_with (go_at_call 108; go_must (refine (Hcall.out _ hs).mono ?_; rintro e w' ⟨N, rfl, hw⟩))
    go_ret2
    exact ⟨rfl, hw⟩
  · rcases h3 with h3 | ⟨b, off, rfl, hb, hc⟩
    · cases h3
    have hc0 := hc 0 (by simp)
    simp only [List.getD_cons_zero, Nat.add_zero] at hc0
    simp only [List.length_cons] at h1 hl hnn hcv ⊢
    clear hc
    by_cases hr : r = []
    · subst hr
      simp only [List.length_nil, Nat.zero_add] at *
      clear hnn
      go_enter Tryz.func103, Tryz.ntmps103
      go_wp2_with (go_at_call 108; go_must (refine (Hcall.out _ hs).mono ?_; rintro e w' ⟨N, rfl, hw⟩))
      go_ret2
      exact ⟨rfl, hw⟩
    · have hl : 0 < r.length := List.length_pos_iff.2 hr
      have hd : d ≠ 48 := fun e => hnn ⟨by omega, by rw [e]; rfl⟩
      have hx : (d.toNat : Int) ≠ 48 := fun e => hd (UInt8.toNat_inj.1 (by show d.toNat = 48; omega))
      have hy : ((d.toNat : Int) == 48) = false := by simpa using hx
      have hn : (2 : Int) ≤ ((r.length + 1 : Nat) : Int) := by omega
      clear hnn hr hd hx
      go_enter Tryz.func103, Tryz.ntmps103
      go_wp2_with (go_at_call 108; go_must (refine (Hcall.out _ hs).mono ?_; rintro e w' ⟨N, rfl, hw⟩))
      go_ret2
      exact ⟨rfl, hw⟩

theorem takeDigits_any (A : Option Addr) (n c : Nat) (e : UInt8) (bs : List UInt8) (w : World) (hs : StdP w) {B : Nat} (hB : B ≤ w.heap.size) (h : Sl w B (.slice A n c) bs) (he : isDg e = false)
    (k m : Nat) (rest : List UInt8) (hr : scan e [] bs = (k, m, rest)) :
    Calls Tryz.prog 99 #[.slice A n c, .int .u8 (e.toNat : Int)] w fun x w' => ∃ v', x = .returned (.tuple #[.int .u64 (m : Int), v', ev k]) ∧ Sl w' B v' rest ∧ Below w.heap.size w w' := by
  have H := Lib.hid h
  have HR := Lib.hid hr
  clear hr
  obtain ⟨A0, c0, hv, h1, h2, h3⟩ := h
  injection hv with e1 e2 e3
  subst e1; subst e2; subst e3
  have hcell : ∀ j, j < bs.length → ∃ b off, A = some ⟨b, off, none⟩ ∧ w.cell? ⟨b, off + j, none⟩ = some (.int .u8 ((bs.getD j 0).toNat : Int)) := by
    intro j hj
    rcases h3 with h3 | ⟨b, off, hA, hb, hc⟩
    · subst h3; simp at hj
    · exact ⟨b, off, hA, hc j hj⟩
  have Hcell := Lib.hid hcell
  have HE := Lib.hid he
  clear h3 hcell he
  go_enter Tryz.func99, Tryz.ntmps99
  go_wp2
  go_loop [13] (fun i => ∃ j : Nat, j ≤ bs.length ∧ j ≤ 20 ∧ i = .int .i64 (j : Int) ∧ Hid (scan e [] bs = scan e (bs.take j) (bs.drop j))) (fun i => bs.length - (intOf i).toNat)
  case atStart => exact ⟨0, by omega, by omega, rfl, by simp [Hid]⟩
  case round =>
    obtain ⟨j, hj, hj20, rfl, HS⟩ := hrel
    by_cases hlt : j < bs.length
    · obtain ⟨b, off, rfl, hc⟩ := Hcell.out j hlt
      have hdrop : bs.drop j = bs[j] :: bs.drop (j + 1) := List.drop_eq_getElem_cons hlt
      have hget : bs.getD j 0 = bs[j] := by simp [List.getD, List.getElem?_eq_getElem hlt]
      rw [hget] at hc
      have htk : bs.take (j + 1) = bs.take j ++ [bs[j]] := by rw [List.take_succ_eq_append_getElem hlt]
      have hsc := HS.out
      rw [hdrop] at hsc
      have hd256 : (bs[j].toNat : Int) < 256 := by have := bs[j].toNat_lt; omega
      generalize bs[j] = d at hc hsc htk hd256
      rw [scan_cons] at hsc
      have htl : (bs.take j).length = j := by rw [List.length_take]; omega
      by_cases hde : d = e
      · subst hde
        rw [if_pos rfl] at hsc
        cases hn : numOf (bs.take j) with
        | none =>
          rw [hn, HR.out] at hsc
          simp only [Prod.mk.injEq] at hsc
          obtain ⟨rfl, rfl, rfl⟩ := hsc
          have hcall := Lib.hid (number_err (some ⟨b, off, none⟩) j c (bs.take j) w hs (H.out.front hj) (by omega) hn)
          clear htk hdrop hget HS hn htl
          go_wp2_with (go_at_call 103; refine hcall.out.mono ?_; rintro e w' ⟨rfl, hw⟩)
          go_ret3
          exact ⟨_, rfl, Sl.nil_ _ _, hw⟩
        | some u =>
          rw [hn, HR.out] at hsc
          simp only [Prod.mk.injEq] at hsc
          obtain ⟨rfl, rfl, rfl⟩ := hsc
          have hcall := Lib.hid (number_ok (some ⟨b, off, none⟩) j c m (bs.take j) w (H.out.front hj) (by omega) hn)
          have hcut := Lib.hid (H.out.cut (k := j + 1) (by omega))
          have i1 : (1 : Int) ≤ (j : Int) + 1 := by omega
          have i2 : (j : Int) + 1 ≤ (bs.length : Int) := by omega
          have i3 : (bs.length : Int) ≤ (c : Int) := by omega
          clear htk hdrop hget HS hn htl
          by_cases hcj : c = j + 1
          · subst hcj
            rw [if_pos rfl] at hcut
            go_wp2_with (go_at_call 103; refine hcall.out.mono ?_; rintro e w' ⟨rfl, hw⟩)
            go_quiet (fail)
            go_wp2
            go_ret3
            refine ⟨_, rfl, ?_, below_drewN hw _⟩
            have hz := Sl.below hcut.out (hw.mono hB)
            have e0 : bs.length - (j + 1) = 0 := by omega
            have e1 : j + 1 - (j + 1) = 0 := by omega
            rw [e0, e1] at hz
            exact hz
          · rw [if_neg hcj] at hcut
            go_wp2_with (go_at_call 103; refine hcall.out.mono ?_; rintro e w' ⟨rfl, hw⟩)
            go_quiet (fail)
            go_wp2
            go_ret3
            refine ⟨_, rfl, ?_, below_drewN hw _⟩
            have hz := Sl.below hcut.out (hw.mono hB)
            have e0 : (some (⟨b, off, none⟩ : Addr)).map (·.add (j + 1)) = some ⟨b, off + (j + 1), none⟩ := by simp [Addr.add]
            rw [e0] at hz
            exact hz
      · rw [if_neg hde] at hsc
        have hx : (d.toNat : Int) ≠ (e.toNat : Int) := fun h => hde (UInt8.toNat_inj.1 (by omega))
        have hy : ((d.toNat : Int) == (e.toNat : Int)) = false := by simpa using hx
        have HD := Lib.hid hde
        clear hde hx
        by_cases hdg : isDg d = false ∨ (bs.take j).length = 20
        · rw [if_pos hdg, HR.out] at hsc
          simp only [Prod.mk.injEq] at hsc
          obtain ⟨rfl, rfl, rfl⟩ := hsc
          by_cases h48 : (d.toNat : Int) < 48
          · clear htk hdrop hget HS htl hdg
            go_wp2
            go_ret3
            exact ⟨_, rfl, Sl.nil_ _ _, Below.refl _ _⟩
          · by_cases h57 : (57 : Int) < (d.toNat : Int)
            · clear htk hdrop hget HS htl hdg
              go_wp2
              go_ret3
              exact ⟨_, rfl, Sl.nil_ _ _, Below.refl _ _⟩
            · have hj' : j = 20 := by
                rcases hdg with h | h
                · simp [isDg] at h; omega
                · omega
              subst hj'
              clear htk hdrop hget HS htl hdg
              go_wp2
              go_ret3
              exact ⟨_, rfl, Sl.nil_ _ _, Below.refl _ _⟩
        · rw [if_neg hdg, ← htk] at hsc
          have HN := Lib.hid hsc
          have h48 : (48 : Int) ≤ (d.toNat : Int) := by simp [isDg] at hdg; omega
          have h57 : (d.toNat : Int) ≤ 57 := by simp [isDg] at hdg; omega
          have hj' : (j : Int) ≤ 19 := by simp [isDg] at hdg; omega
          have hjb : ((j : Int) == 20) = false := by simp; omega
          clear htk hdrop hget HS htl hdg hsc
          go_wp2
          go_round
          case rel => exact ⟨j + 1, by omega, by omega, by go_num, HN⟩
          case measure => simp [intOf]; omega
    · have hj' : j = bs.length := by omega
      subst hj'
      have hsc := HS.out
      rw [HR.out, List.drop_eq_nil_of_le (by omega)] at hsc
      simp only [scan, Prod.mk.injEq] at hsc
      obtain ⟨rfl, rfl, rfl⟩ := hsc
      clear HS
      go_wp2
      go_ret3
      exact ⟨_, rfl, Sl.nil_ _ _, Below.refl _ _⟩

theorem takeDigits_ok (A : Option Addr) (n c : Nat) (e : UInt8) (bs : List UInt8) (w : World) (hs : StdP w) {B : Nat} (hB : B ≤ w.heap.size) (h : Sl w B (.slice A n c) bs) (he : isDg e = false)
    (m : Nat) (rest : List UInt8) (hr : scan e [] bs = (0, m, rest)) :
    Calls Tryz.prog 99 #[.slice A n c, .int .u8 (e.toNat : Int)] w fun x w' => ∃ A' c', x = .returned (.tuple #[.int .u64 (m : Int), .slice A' rest.length c', .nilIface]) ∧ Sl w' B (.slice A' rest.length c') rest ∧ Below w.heap.size w w' := by
  refine (takeDigits_any A n c e bs w hs hB h he 0 m rest hr).mono ?_
  rintro x w' ⟨v, rfl, hv, hb⟩
  obtain ⟨A', c', rfl, r⟩ := hv
  exact ⟨A', c', rfl, ⟨A', c', rfl, r⟩, hb⟩

theorem takeDigits_err (A : Option Addr) (n c : Nat) (e : UInt8) (bs : List UInt8) (w : World) (hs : StdP w) {B : Nat} (hB : B ≤ w.heap.size) (h : Sl w B (.slice A n c) bs) (he : isDg e = false)
    (k m : Nat) (rest : List UInt8) (hr : scan e [] bs = (k, m, rest)) (hk : k ≠ 0) :
    Calls Tryz.prog 99 #[.slice A n c, .int .u8 (e.toNat : Int)] w fun x w' => ∃ v, x = .returned (.tuple #[.int .u64 0, v, .iface 60 (.int .i64 (k : Int))]) ∧ Below w.heap.size w w' := by
  obtain ⟨_, rfl, rfl⟩ := scan_err bs [] hr hk
  refine (takeDigits_any A n c e bs w hs hB h he k 0 [] hr).mono ?_
  rintro x w' ⟨v, rfl, hv, hb⟩
  exact ⟨v, by unfold ev; rw [if_neg hk]; rfl, hb⟩

theorem takeHead_ok (A : Option Addr) (n c : Nat) (l e : UInt8) (bs : List UInt8) (w : World) (hs : StdP w) {B : Nat} (hB : B ≤ w.heap.size) (h : Sl w B (.slice A n c) bs) (he : isDg e = false)
    (m : Nat) (rest : List UInt8) (hr : hd l e bs = (0, m, rest)) :
    Calls Tryz.prog 84 #[.slice A n c, .int .u8 (l.toNat : Int), .int .u8 (e.toNat : Int)] w fun x w' => ∃ A' c', x = .returned (.tuple #[.int .u64 (m : Int), .slice A' rest.length c', .nilIface]) ∧ Sl w' B (.slice A' rest.length c') rest ∧ Below w.heap.size w w' := by
  rcases bs with _ | ⟨d, r⟩
  · simp [hd] at hr
  · rw [hd_cons] at hr
    by_cases hd' : d = l
    · subst hd'
      rw [if_pos rfl] at hr
      have c1 := Lib.hid (takeLetter_ok A n c d r w h)
      have HR := Lib.hid hr
      have HE := Lib.hid he
      clear h hr he
      go_enter Tryz.func84, Tryz.ntmps84
      go_wp2_with (first
        | (go_at_call 98; refine c1.out.mono ?_; rintro x w' ⟨A1, k1, rfl, h1, rfl⟩; have H1 := Lib.hid h1; clear h1)
        | (go_at_call 99; refine (takeDigits_ok _ _ _ e r _ hs hB H1.out HE.out m rest HR.out).mono ?_; rintro x w' ⟨A2, k2, rfl, h2, hb⟩))
      go_ret3
      exact ⟨A2, k2, rfl, h2, hb⟩
    · rw [if_neg hd'] at hr
      simp at hr

theorem takeHead_err (A : Option Addr) (n c : Nat) (l e : UInt8) (bs : List UInt8) (w : World) (hs : StdP w) {B : Nat} (hB : B ≤ w.heap.size) (h : Sl w B (.slice A n c) bs) (he : isDg e = false)
    (k m : Nat) (rest : List UInt8) (hr : hd l e bs = (k, m, rest)) (hk : k ≠ 0) :
    Calls Tryz.prog 84 #[.slice A n c, .int .u8 (l.toNat : Int), .int .u8 (e.toNat : Int)] w fun x w' => ∃ v, x = .returned (.tuple #[.int .u64 0, v, .iface 60 (.int .i64 (k : Int))]) ∧ Below w.heap.size w w' := by
  rcases bs with _ | ⟨d, r⟩
  · obtain ⟨A', c', hv, _⟩ := h
    injection hv with e1 e2 e3
    subst e1; subst e2; subst e3
    simp only [hd, Prod.mk.injEq] at hr
    obtain ⟨rfl, rfl, rfl⟩ := hr
    have c1 := Lib.hid (takeLetter_end A c l w)
    clear he
    simp only [List.length_nil]
    go_enter Tryz.func84, Tryz.ntmps84
    go_wp2_with (first
        | (go_at_call 98; refine c1.out.mono ?_; rintro x w' ⟨rfl, rfl⟩))
    go_ret3
    exact ⟨_, rfl, Below.refl _ _⟩
  · rw [hd_cons] at hr
    by_cases hd' : d = l
    · subst hd'
      rw [if_pos rfl] at hr
      have c1 := Lib.hid (takeLetter_ok A n c d r w h)
      have HR := Lib.hid hr
      have HE := Lib.hid he
      have HK := Lib.hid hk
      clear h hr he hk
      go_enter Tryz.func84, Tryz.ntmps84
      go_wp2_with (first
        | (go_at_call 98; refine c1.out.mono ?_; rintro x w' ⟨A1, k1, rfl, h1, rfl⟩; have H1 := Lib.hid h1; clear h1)
        | (go_at_call 99; refine (takeDigits_err _ _ _ e r _ hs hB H1.out HE.out k m rest HR.out HK.out).mono ?_; rintro x w' ⟨v2, rfl, hb⟩))
      go_ret3
      exact ⟨v2, rfl, hb⟩
    · rw [if_neg hd'] at hr
      simp only [Prod.mk.injEq] at hr
      obtain ⟨rfl, rfl, rfl⟩ := hr
      have c1 := Lib.hid (takeLetter_form A n c l d r w h hd')
      have HD := Lib.hid hd'
      clear h he hd'
      go_enter Tryz.func84, Tryz.ntmps84
      go_wp2_with (first
        | (go_at_call 98; refine c1.out.mono ?_; rintro x w' ⟨rfl, rfl⟩))
      go_ret3
      exact ⟨_, rfl, Below.refl _ _⟩

end Go.Proofs.YtfblgkcipnkhaaaGreatDoor.pk

/-
  The functions of the package pack that take a whole thing off the begin of bytes: a number, an int, a truth, bytes.
-/
namespace Go.Proofs.YtfblgkcipnkhaaaGreatDoor.pk
open Go Go.RowKit
set_option maxRecDepth 100000

theorem takeUint_ok (A : Option Addr) (n c most m : Nat) (bs rest : List UInt8) (w : World) (hs : StdP w) {B : Nat} (hB : B ≤ w.heap.size) (h : Sl w B (.slice A n c) bs) (hr : rdUint most bs = (0, m, rest)) :
    Calls Tryz.prog 60 #[.slice A n c, .int .u64 (most : Int)] w fun x w' => ∃ A' c', x = .returned (.tuple #[.int .u64 (m : Int), .slice A' rest.length c', .nilIface]) ∧ Sl w' B (.slice A' rest.length c') rest ∧ Below w.heap.size w w' := by
  obtain ⟨hh, hm⟩ := rdUint_ok hr
  have c1 := Lib.hid (takeHead_ok A n c 110 59 bs w hs hB h (by decide) m rest hh)
  have hi : (m : Int) ≤ (most : Int) := by omega
  clear hr h hh hm
  go_enter Tryz.func60, Tryz.ntmps60
  go_wp2_with (go_at_call 84; refine c1.out.mono ?_; rintro x w' ⟨A1, k1, rfl, h1, hb⟩; have H1 := Lib.hid h1; clear h1)
  go_ret3
  exact ⟨A1, k1, rfl, H1.out, hb⟩

theorem takeUint_err (A : Option Addr) (n c most k m : Nat) (bs rest : List UInt8) (w : World) (hs : StdP w) {B : Nat} (hB : B ≤ w.heap.size) (h : Sl w B (.slice A n c) bs) (hr : rdUint most bs = (k, m, rest)) (hk : k ≠ 0) :
    Calls Tryz.prog 60 #[.slice A n c, .int .u64 (most : Int)] w fun x w' => x = .returned (.tuple #[.int .u64 0, .slice none 0 0, .iface 60 (.int .i64 (k : Int))]) ∧ Below w.heap.size w w' := by
  rcases rdUint_err hr hk with ⟨n1, r1, hh⟩ | ⟨rfl, n1, r1, hh, hm⟩
  · have c1 := Lib.hid (takeHead_err A n c 110 59 bs w hs hB h (by decide) k n1 r1 hh hk)
    clear hr h hh hk
    go_enter Tryz.func60, Tryz.ntmps60
    go_wp2_with (go_at_call 84; refine c1.out.mono ?_; rintro x w' ⟨v1, rfl, hb⟩)
    go_ret3
    exact ⟨rfl, hb⟩
  · have c1 := Lib.hid (takeHead_ok A n c 110 59 bs w hs hB h (by decide) n1 r1 hh)
    have hi : (most : Int) < (n1 : Int) := by omega
    clear hr h hh hk hm
    go_enter Tryz.func60, Tryz.ntmps60
    go_wp2_with (go_at_call 84; refine c1.out.mono ?_; rintro x w' ⟨A1, k1, rfl, h1, hb⟩; clear h1)
    go_ret3
    exact ⟨rfl, hb⟩

theorem takeBool_end (A : Option Addr) (c : Nat) (w : World) :
    Calls Tryz.prog 62 #[.slice A 0 c] w fun x w' => x = .returned (.tuple #[.bool false, .slice none 0 0, .iface 60 (.int .i64 12)]) ∧ w = w' := by
  go_enter Tryz.func62, Tryz.ntmps62
  go_wp2
  go_ret3
  exact ⟨rfl, rfl⟩

theorem takeBool_ok (A : Option Addr) (n c : Nat) (b : Bool) (bs rest : List UInt8) (w : World) {B : Nat} (h : Sl w B (.slice A n c) bs) (hr : rdBool bs = (0, b, rest)) :
    Calls Tryz.prog 62 #[.slice A n c] w fun x w' => ∃ A' c', x = .returned (.tuple #[.bool b, .slice A' rest.length c', .nilIface]) ∧ Sl w' B (.slice A' rest.length c') rest ∧ Below w.heap.size w w' := by
  rcases bs with _ | ⟨d, r⟩
  · simp [rdBool] at hr
  · have hcase : (d = 121 ∧ b = true ∧ rest = r) ∨ (d = 122 ∧ b = false ∧ rest = r) := by
      rw [rdBool_cons] at hr
      by_cases h1 : d = 121
      · rw [if_pos h1] at hr
        simp only [Prod.mk.injEq, true_and] at hr
        exact Or.inl ⟨h1, hr.1.symm, hr.2.symm⟩
      · rw [if_neg h1] at hr
        by_cases h2 : d = 122
        · rw [if_pos h2] at hr
          simp only [Prod.mk.injEq, true_and] at hr
          exact Or.inr ⟨h2, hr.1.symm, hr.2.symm⟩
        · rw [if_neg h2] at hr; simp at hr
    clear hr
    obtain ⟨b0, off, rfl, hb0, rfl, hn, hc, hcell⟩ := h.head
    have H := Lib.hid h
    clear h hb0
    have i1 : (1 : Int) ≤ (r.length : Int) + 1 := by omega
    have i2 : (r.length : Int) + 1 ≤ (c : Int) := by omega
    have HB := Below.refl w.heap.size w
    by_cases hc1 : c = 1
    · subst hc1
      obtain rfl : r = [] := List.eq_nil_of_length_eq_zero (by omega)
      have HT := Lib.hid H.out.tail_one
      rcases hcase with ⟨rfl, rfl, rfl⟩ | ⟨rfl, rfl, rfl⟩
      all_goals
        replace hcell : w.cell? ⟨b0, off, none⟩ = some (.int .u8 _) := hcell
        go_enter Tryz.func62, Tryz.ntmps62
        go_wp2
        go_quiet (fail)
        go_wp2
        go_ret3
        exact ⟨_, _, rfl, HT.out, below_drewN HB _⟩
    · have HT := Lib.hid (H.out.tail_more hc1)
      rcases hcase with ⟨rfl, rfl, rfl⟩ | ⟨rfl, rfl, rfl⟩
      all_goals
        replace hcell : w.cell? ⟨b0, off, none⟩ = some (.int .u8 _) := hcell
        go_enter Tryz.func62, Tryz.ntmps62
        go_wp2
        go_quiet (fail)
        go_wp2
        go_ret3
        exact ⟨_, _, rfl, HT.out, below_drewN HB _⟩

theorem takeBool_err (A : Option Addr) (n c k : Nat) (b : Bool) (bs rest : List UInt8) (w : World) {B : Nat} (h : Sl w B (.slice A n c) bs) (hr : rdBool bs = (k, b, rest)) (hk : k ≠ 0) :
    Calls Tryz.prog 62 #[.slice A n c] w fun x w' => x = .returned (.tuple #[.bool false, .slice none 0 0, .iface 60 (.int .i64 (k : Int))]) ∧ Below w.heap.size w w' := by
  rcases bs with _ | ⟨d, r⟩
  · obtain ⟨rfl, _, _⟩ := h.len
    simp only [rdBool, Prod.mk.injEq] at hr
    obtain ⟨rfl, rfl, rfl⟩ := hr
    refine (takeBool_end A c w).mono ?_
    rintro x w' ⟨rfl, rfl⟩
    exact ⟨rfl, Below.refl _ _⟩
  · have hcase : d ≠ 121 ∧ d ≠ 122 ∧ k = 3 := by
      rw [rdBool_cons] at hr
      by_cases h1 : d = 121
      · rw [if_pos h1] at hr
        simp only [Prod.mk.injEq] at hr
        exact absurd hr.1.symm hk
      · rw [if_neg h1] at hr
        by_cases h2 : d = 122
        · rw [if_pos h2] at hr
          simp only [Prod.mk.injEq] at hr
          exact absurd hr.1.symm hk
        · rw [if_neg h2] at hr
          simp only [Prod.mk.injEq] at hr
          exact ⟨h1, h2, hr.1.symm⟩
    obtain ⟨h1, h2, rfl⟩ := hcase
    clear hr
    obtain ⟨b0, off, rfl, hb0, rfl, hn, hc, hcell⟩ := h.head
    have y1 : ((d.toNat : Int) == 121) = false := by
      rw [beq_eq_false_iff_ne]; intro e; exact h1 (UInt8.toNat_inj.1 (by show d.toNat = 121; omega))
    have y2 : ((d.toNat : Int) == 122) = false := by
      rw [beq_eq_false_iff_ne]; intro e; exact h2 (UInt8.toNat_inj.1 (by show d.toNat = 122; omega))
    have HB := Below.refl w.heap.size w
    clear h hb0 h1 h2 hk
    go_enter Tryz.func62, Tryz.ntmps62
    go_wp2
    go_ret3
    exact ⟨rfl, HB⟩

theorem takeBytes_ok (A : Option Addr) (n c : Nat) (letter : UInt8) (most : Int) (bs s rest : List UInt8) (w : World) (hs : StdP w) (hm : most ≤ 9223372036854775807) {B : Nat} (hB : B ≤ w.heap.size) (h : Sl w B (.slice A n c) bs) (hr : rdBytes letter most bs = (0, s, rest)) :
    Calls Tryz.prog 63 #[.slice A n c, .int .u8 (letter.toNat : Int), .int .i64 most] w fun x w' => ∃ A1 c1 A' c', x = .returned (.tuple #[.slice A1 s.length c1, .slice A' rest.length c', .nilIface]) ∧ Sl w' B (.slice A1 s.length c1) s ∧ Sl w' B (.slice A' rest.length c') rest ∧ Below w.heap.size w w' := by
  obtain ⟨h0, m, r, hh, hmm, hmr, rfl, rfl⟩ := rdBytes_ok hr
  have c1 := Lib.hid (takeHead_ok A n c letter 58 bs w hs hB h (by decide) m r hh)
  have i0 : (0 : Int) ≤ (m : Int) := by omega
  have i1 : (m : Int) ≤ (r.length : Int) := by omega
  clear hr h hh
  go_enter Tryz.func63, Tryz.ntmps63
  go_wp2_with fail
  refine c1.out.mono ?_
  rintro x w' ⟨A1, k1, rfl, h1, hb⟩
  obtain ⟨_, hl1, hl2⟩ := h1.len
  have i2 : (r.length : Int) ≤ (k1 : Int) := by omega
  have i3 : (r.length : Int) ≤ 9223372036854775807 := by omega
  have hf := h1.front hmr
  have hcut := h1.cut (k := m) hmr
  have e1 : (r.take m).length = m := by rw [List.length_take]; omega
  have e2 : (r.drop m).length = r.length - m := by rw [List.length_drop]
  have HF := Lib.hid hf
  have E1 := Lib.hid e1
  have E2 := Lib.hid e2
  by_cases hk : k1 = m
  · obtain rfl : m = r.length := by omega
    subst hk
    rw [if_pos rfl] at hcut
    have e0 : r.length - r.length = 0 := by omega
    rw [e0, List.drop_eq_nil_of_le (Nat.le_refl _)] at hcut
    have E0 := Lib.hid (List.drop_eq_nil_of_le (Nat.le_refl r.length))
    have HC := Lib.hid hcut
    clear h1 hf hcut e1 e2 e0
    go_wp2
    go_quiet (fail)
    go_wp2
    go_ret3
    refine ⟨A1, r.length, A1, 0, ?_, ?_, ?_, below_drewN hb _⟩
    · rw [E1.out, E0.out]; rfl
    · rw [E1.out]; exact HF.out
    · rw [E0.out]; exact HC.out
  · rw [if_neg hk] at hcut
    have HC := Lib.hid hcut
    clear h1 hf hcut e1 e2
    go_wp2
    go_quiet (fail)
    go_wp2
    go_ret3
    refine ⟨A1, k1, A1.map (·.add m), k1 - m, ?_, ?_, ?_, below_drewN hb _⟩
    · rw [E1.out, E2.out]; rfl
    · rw [E1.out]; exact HF.out
    · rw [E2.out]; exact HC.out

theorem takeBytes_err (A : Option Addr) (n c k : Nat) (letter : UInt8) (most : Int) (bs s rest : List UInt8) (w : World) (hs : StdP w) (hm : most ≤ 9223372036854775807) {B : Nat} (hB : B ≤ w.heap.size) (h : Sl w B (.slice A n c) bs) (hr : rdBytes letter most bs = (k, s, rest)) (hk : k ≠ 0) :
    Calls Tryz.prog 63 #[.slice A n c, .int .u8 (letter.toNat : Int), .int .i64 most] w fun x w' => x = .returned (.tuple #[.slice none 0 0, .slice none 0 0, .iface 60 (.int .i64 (k : Int))]) ∧ Below w.heap.size w w' := by
  have HB := Below.refl w.heap.size w
  rcases rdBytes_err hr hk with ⟨rfl, h0⟩ | ⟨h0, ⟨m, r, hh⟩ | ⟨m, r, hh, ⟨rfl, h1⟩ | ⟨rfl, h1, h2⟩⟩⟩
  · clear h hr hk
    go_enter Tryz.func63, Tryz.ntmps63
    go_wp2
    go_ret3
    exact ⟨rfl, HB⟩
  · have c1 := Lib.hid (takeHead_err A n c letter 58 bs w hs hB h (by decide) k m r hh hk)
    clear h hr hh hk
    go_enter Tryz.func63, Tryz.ntmps63
    go_wp2_with (go_at_call 84; refine c1.out.mono ?_; rintro x w' ⟨v1, rfl, hb⟩)
    go_ret3
    exact ⟨rfl, hb⟩
  · have c1 := Lib.hid (takeHead_ok A n c letter 58 bs w hs hB h (by decide) m r hh)
    clear h hr hh hk
    go_enter Tryz.func63, Tryz.ntmps63
    go_wp2_with (go_at_call 84; refine c1.out.mono ?_; rintro x w' ⟨A1, k1, rfl, hx, hb⟩; clear hx)
    go_ret3
    exact ⟨rfl, hb⟩
  · have c1 := Lib.hid (takeHead_ok A n c letter 58 bs w hs hB h (by decide) m r hh)
    have i1 : (r.length : Int) < (m : Int) := by omega
    clear h hr hh hk h2
    go_enter Tryz.func63, Tryz.ntmps63
    go_wp2_with fail
    refine c1.out.mono ?_
    rintro x w' ⟨A1, k1, rfl, hx, hb⟩
    obtain ⟨_, hl1, hl2⟩ := hx.len
    have i3 : (r.length : Int) ≤ 9223372036854775807 := by omega
    clear hx
    go_wp2
    go_ret3
    exact ⟨rfl, hb⟩

end Go.Proofs.YtfblgkcipnkhaaaGreatDoor.pk

/-
  The package pack's reader: making one, and what it tells.
-/
namespace Go.Proofs.YtfblgkcipnkhaaaGreatDoor.pk
open Go Go.RowKit
set_option maxRecDepth 100000

/-- A reader in block p: what is left, and the first error's number (0: none). -/
def RD (w : World) (p : Nat) (v : Value) (bs : List UInt8) (k : Nat) : Prop := w.heap[p]? = some (.cells #[v, ev k] 102 (0, 0)) ∧ Sl w p v bs

theorem RD.lt {w : World} {p : Nat} {v : Value} {bs : List UInt8} {k : Nat} (h : RD w p v bs k) : p < w.heap.size := by
  rcases Nat.lt_or_ge p w.heap.size with hlt | hge
  · exact hlt
  · have := h.1; rw [Array.getElem?_eq_none hge] at this; cases this
theorem RD.c0 {w : World} {p : Nat} {v : Value} {bs : List UInt8} {k : Nat} (h : RD w p v bs k) : w.cell? ⟨p, 0, none⟩ = some v := by
  rw [cell_of_row w p 0 _ _ (0, 0) h.1]; rfl
theorem RD.c1 {w : World} {p : Nat} {v : Value} {bs : List UInt8} {k : Nat} (h : RD w p v bs k) : w.cell? ⟨p, 1, none⟩ = some (ev k) := by
  rw [cell_of_row w p 1 _ _ (0, 0) h.1]; rfl
theorem RD.fz {w : World} {p : Nat} {v : Value} {bs : List UInt8} {k : Nat} (h : RD w p v bs k) (i : Nat) : w.frozen? ⟨p, i, none⟩ = false := by
  simp [World.frozen?, h.1]
theorem RD.below {w w' : World} {p B : Nat} {v : Value} {bs : List UInt8} {k : Nat} (h : RD w p v bs k) (hb : Below B w w') (hp : p < B) : RD w' p v bs k :=
  ⟨(hb.block p hp).trans h.1, h.2.below (hb.mono (by omega))⟩
theorem RD.set0 {w : World} {p : Nat} {v v' : Value} {bs bs' : List UInt8} {k : Nat} (h : RD w p v bs k) (hv : Sl w p v' bs') : RD (w.setCell ⟨p, 0, none⟩ v') p v' bs' k := by
  refine ⟨?_, hv.keep fun q hq => World.cell?_setCell_other w _ q v' (fun e => by subst e; simp at hq)⟩
  have := h.1
  simp [World.setCell, Array.getElem?_modify, this]
theorem RD.set1 {w : World} {p : Nat} {v : Value} {bs : List UInt8} {k k' : Nat} (h : RD w p v bs k) : RD (w.setCell ⟨p, 1, none⟩ (ev k')) p v bs k' := by
  refine ⟨?_, h.2.keep fun q hq => World.cell?_setCell_other w _ q _ (fun e => by subst e; simp at hq)⟩
  have := h.1
  simp [World.setCell, Array.getElem?_modify, this]

theorem Read_any (A : Option Addr) (n c : Nat) (bs : List UInt8) (w : World) (B : Nat) (h : Sl w B (.slice A n c) bs) (hl : bs.length ≤ 140737488355328) :
    Calls Tryz.prog 24 #[.slice A n c] w fun x w' => ∃ p v, x = .returned (.pointer (some ⟨p, 0, none⟩)) ∧ w.heap.size ≤ p ∧ RD w' p v bs 0 ∧ Below w.heap.size w w' := by
  have c1 := Lib.hid (copied_any A n c bs w B h hl)
  clear h
  go_enter Tryz.func24, Tryz.ntmps24
  go_wp2_with fail
  refine c1.out.mono ?_
  rintro x w' ⟨v, rfl, hown, hb⟩
  have hS : Sl w' w'.heap.size v bs := Sl.of_own hown _ fun g hg => (hown.lt g hg).2
  obtain ⟨A', c', rfl, hrest⟩ := hS
  have HS := Lib.hid (show Sl w' w'.heap.size (.slice A' bs.length c') bs from ⟨A', c', rfl, hrest⟩)
  have HB := Lib.hid hb
  clear hown hb hrest
  go_wp2
  go_ret
  refine ⟨w'.heap.size, .slice A' bs.length c', rfl, HB.out.size, ⟨heap_alloc_new w' _, ?_⟩, HB.out.alloc HB.out.size _⟩
  exact HS.out.keep fun q hq => World.cell?_alloc_lt w' _ q hq

theorem stopped_no (p : Nat) (v : Value) (bs : List UInt8) (w : World) (h : RD w p v bs 0) :
    Calls Tryz.prog 59 #[.pointer (some ⟨p, 0, none⟩)] w fun x w' => x = .returned (.bool false) ∧ w = w' := by
  have hc : w.cell? ⟨p, 1, none⟩ = some .nilIface := h.c1
  clear h
  go_enter Tryz.func59, Tryz.ntmps59
  go_wp2
  go_ret
  exact ⟨rfl, rfl⟩
theorem ev_ne {k : Nat} (hk : k ≠ 0) : ev k = .iface 60 (.int .i64 (k : Int)) := by unfold ev; rw [if_neg hk]
theorem stopped_yes (p k : Nat) (v : Value) (bs : List UInt8) (w : World) (h : RD w p v bs k) (hk : k ≠ 0) :
    Calls Tryz.prog 59 #[.pointer (some ⟨p, 0, none⟩)] w fun x w' => x = .returned (.bool true) ∧ w = w' := by
  have hc := h.c1
  rw [ev_ne hk] at hc
  clear h hk
  go_enter Tryz.func59, Tryz.ntmps59
  go_wp2
  go_ret
  exact ⟨rfl, rfl⟩

theorem settle_ok (p n c : Nat) (A : Option Addr) (v : Value) (bs rest : List UInt8) (w : World) (h : RD w p v bs 0) (hv : Sl w p (.slice A n c) rest) :
    Calls Tryz.prog 61 #[.pointer (some ⟨p, 0, none⟩), .slice A n c, .nilIface] w fun x w' => x = .returned (.tuple #[]) ∧ RD w' p (.slice A n c) rest 0 ∧ w.grownBy w' (some p) := by
  have hc0 := h.c0
  have hf := h.fz 0
  have H := Lib.hid (h.set0 hv)
  obtain ⟨_, c0, rfl, _⟩ := h.2
  clear h hv
  go_enter Tryz.func61, Tryz.ntmps61
  go_wp2
  go_end0
  exact ⟨rfl, H.out, grown_set _⟩
theorem settle_err (p k : Nat) (v v1 : Value) (bs : List UInt8) (w : World) (h : RD w p v bs 0) (hk : k ≠ 0) :
    Calls Tryz.prog 61 #[.pointer (some ⟨p, 0, none⟩), v1, .iface 60 (.int .i64 (k : Int))] w fun x w' => x = .returned (.tuple #[]) ∧ RD w' p v bs k ∧ w.grownBy w' (some p) := by
  have hc1 : w.cell? ⟨p, 1, none⟩ = some .nilIface := h.c1
  have hf := h.fz 1
  have H := Lib.hid (h.set1 (k' := k))
  rw [ev_ne hk] at H
  clear h hk
  go_enter Tryz.func61, Tryz.ntmps61
  go_wp2
  refine bodyPost_ret (results_none rfl _ _ _) rfl ?_
  exact ⟨rfl, H.out, grown_set _⟩

theorem Uint_stop (p k : Nat) (most : Nat) (v : Value) (bs : List UInt8) (w : World) (h : RD w p v bs k) (hk : k ≠ 0) :
    Calls Tryz.prog 26 #[.pointer (some ⟨p, 0, none⟩), .int .u64 (most : Int)] w fun x w' => x = .returned (.int .u64 0) ∧ w = w' := by
  have c1 := Lib.hid (stopped_yes p k v bs w h hk)
  clear h hk
  go_enter Tryz.func26, Tryz.ntmps26
  go_wp2_with (go_at_call 59; refine c1.out.mono ?_; rintro x w' ⟨rfl, rfl⟩)
  go_ret
  exact ⟨rfl, rfl⟩
theorem Uint_ok (p : Nat) (most : Nat) (v : Value) (bs rest : List UInt8) (m : Nat) (w : World) (hs : StdP w) (h : RD w p v bs 0) (hr : rdUint most bs = (0, m, rest)) :
    Calls Tryz.prog 26 #[.pointer (some ⟨p, 0, none⟩), .int .u64 (most : Int)] w fun x w' => ∃ v', x = .returned (.int .u64 (m : Int)) ∧ RD w' p v' rest 0 ∧ w.grownBy w' (some p) := by
  have hc0 := h.c0
  have hlt := h.lt
  have H := Lib.hid h
  have c1 := Lib.hid (stopped_no p v bs w h)
  have h2 := h.2
  have hB := Nat.le_of_lt hlt
  clear h
  obtain ⟨A, c, rfl, hx⟩ := h2
  have h2 : Sl w p (.slice A bs.length c) bs := ⟨A, c, rfl, hx⟩
  have c2 := Lib.hid (takeUint_ok A bs.length c most m bs rest w hs hB h2 hr)
  clear hr hx h2
  go_enter Tryz.func26, Tryz.ntmps26
  go_wp2_with (first
    | (go_at_call 59; refine c1.out.mono ?_; rintro x w' ⟨rfl, rfl⟩)
    | (go_at_call 60; refine c2.out.mono ?_; rintro x w1 ⟨A1, k1, rfl, h3, hb⟩; have H3 := Lib.hid h3; have HB := Lib.hid hb; clear h3 hb hc0)
    | (go_at_call 61; refine (settle_ok p _ _ _ _ bs rest _ (H.out.below HB.out hlt) H3.out).mono ?_; rintro x w2 ⟨rfl, h4, hg⟩; have H4 := Lib.hid h4; have HG := Lib.hid hg; clear h4 hg))
  go_ret
  exact ⟨_, rfl, H4.out, grown_trans (grown_below HB.out _) HG.out⟩
theorem Uint_err (p k : Nat) (most : Nat) (v : Value) (bs rest : List UInt8) (m : Nat) (w : World) (hs : StdP w) (h : RD w p v bs 0) (hr : rdUint most bs = (k, m, rest)) (hk : k ≠ 0) :
    Calls Tryz.prog 26 #[.pointer (some ⟨p, 0, none⟩), .int .u64 (most : Int)] w fun x w' => x = .returned (.int .u64 0) ∧ RD w' p v bs k ∧ w.grownBy w' (some p) := by
  have hc0 := h.c0
  have hlt := h.lt
  have H := Lib.hid h
  have HK := Lib.hid hk
  have c1 := Lib.hid (stopped_no p v bs w h)
  have h2 := h.2
  have hB := Nat.le_of_lt hlt
  clear h
  obtain ⟨A, c, rfl, hx⟩ := h2
  have h2 : Sl w p (.slice A bs.length c) bs := ⟨A, c, rfl, hx⟩
  have c2 := Lib.hid (takeUint_err A bs.length c most k m bs rest w hs hB h2 hr hk)
  clear hr hk hx h2
  go_enter Tryz.func26, Tryz.ntmps26
  go_wp2_with (first
    | (go_at_call 59; refine c1.out.mono ?_; rintro x w' ⟨rfl, rfl⟩)
    | (go_at_call 60; refine c2.out.mono ?_; rintro x w1 ⟨rfl, hb⟩; have HB := Lib.hid hb; clear hb hc0)
    | (go_at_call 61; refine (settle_err p k _ _ bs _ (H.out.below HB.out hlt) HK.out).mono ?_; rintro x w2 ⟨rfl, h4, hg⟩; have H4 := Lib.hid h4; have HG := Lib.hid hg; clear h4 hg))
  go_ret
  exact ⟨rfl, H4.out, grown_trans (grown_below HB.out _) HG.out⟩

theorem Bool_stop (p k : Nat) (v : Value) (bs : List UInt8) (w : World) (h : RD w p v bs k) (hk : k ≠ 0) :
    Calls Tryz.prog 27 #[.pointer (some ⟨p, 0, none⟩)] w fun x w' => x = .returned (.bool false) ∧ w = w' := by
  have c1 := Lib.hid (stopped_yes p k v bs w h hk)
  clear h hk
  go_enter Tryz.func27, Tryz.ntmps27
  go_wp2_with (go_at_call 59; refine c1.out.mono ?_; rintro x w' ⟨rfl, rfl⟩)
  go_ret
  exact ⟨rfl, rfl⟩
theorem Bool_ok (p : Nat) (v : Value) (bs rest : List UInt8) (m : Bool) (w : World) (h : RD w p v bs 0) (hr : rdBool bs = (0, m, rest)) :
    Calls Tryz.prog 27 #[.pointer (some ⟨p, 0, none⟩)] w fun x w' => ∃ v', x = .returned (.bool m) ∧ RD w' p v' rest 0 ∧ w.grownBy w' (some p) := by
  have hc0 := h.c0
  have hlt := h.lt
  have H := Lib.hid h
  have c1 := Lib.hid (stopped_no p v bs w h)
  have h2 := h.2
  have hB := Nat.le_of_lt hlt
  clear h
  obtain ⟨A, c, rfl, hx⟩ := h2
  have h2 : Sl w p (.slice A bs.length c) bs := ⟨A, c, rfl, hx⟩
  have c2 := Lib.hid (takeBool_ok A bs.length c m bs rest w h2 hr)
  clear hr hx h2
  go_enter Tryz.func27, Tryz.ntmps27
  go_wp2_with (first
    | (go_at_call 59; refine c1.out.mono ?_; rintro x w' ⟨rfl, rfl⟩)
    | (go_at_call 62; refine c2.out.mono ?_; rintro x w1 ⟨A1, k1, rfl, h3, hb⟩; have H3 := Lib.hid h3; have HB := Lib.hid hb; clear h3 hb hc0)
    | (go_at_call 61; refine (settle_ok p _ _ _ _ bs rest _ (H.out.below HB.out hlt) H3.out).mono ?_; rintro x w2 ⟨rfl, h4, hg⟩; have H4 := Lib.hid h4; have HG := Lib.hid hg; clear h4 hg))
  go_ret
  exact ⟨_, rfl, H4.out, grown_trans (grown_below HB.out _) HG.out⟩
theorem Bool_err (p k : Nat) (v : Value) (bs rest : List UInt8) (m : Bool) (w : World) (h : RD w p v bs 0) (hr : rdBool bs = (k, m, rest)) (hk : k ≠ 0) :
    Calls Tryz.prog 27 #[.pointer (some ⟨p, 0, none⟩)] w fun x w' => x = .returned (.bool false) ∧ RD w' p v bs k ∧ w.grownBy w' (some p) := by
  have hc0 := h.c0
  have hlt := h.lt
  have H := Lib.hid h
  have HK := Lib.hid hk
  have c1 := Lib.hid (stopped_no p v bs w h)
  have h2 := h.2
  have hB := Nat.le_of_lt hlt
  clear h
  obtain ⟨A, c, rfl, hx⟩ := h2
  have h2 : Sl w p (.slice A bs.length c) bs := ⟨A, c, rfl, hx⟩
  have c2 := Lib.hid (takeBool_err A bs.length c k m bs rest w h2 hr hk)
  clear hr hk hx h2
  go_enter Tryz.func27, Tryz.ntmps27
  go_wp2_with (first
    | (go_at_call 59; refine c1.out.mono ?_; rintro x w' ⟨rfl, rfl⟩)
    | (go_at_call 62; refine c2.out.mono ?_; rintro x w1 ⟨rfl, hb⟩; have HB := Lib.hid hb; clear hb hc0)
    | (go_at_call 61; refine (settle_err p k _ _ bs _ (H.out.below HB.out hlt) HK.out).mono ?_; rintro x w2 ⟨rfl, h4, hg⟩; have H4 := Lib.hid h4; have HG := Lib.hid hg; clear h4 hg))
  go_ret
  exact ⟨rfl, H4.out, grown_trans (grown_below HB.out _) HG.out⟩

end Go.Proofs.YtfblgkcipnkhaaaGreatDoor.pk

/-
  The package pack's reader: texts and bytes, the next letter, what is left, the first error; each of the calls in one statement over the reader's state.
-/
namespace Go.Proofs.YtfblgkcipnkhaaaGreatDoor.pk
open Go Go.RowKit
set_option maxRecDepth 100000

theorem Sl.grown {w w' : World} {B p : Nat} {v : Value} {bs : List UInt8} (h : Sl w B v bs) (hg : w.grownBy w' (some p)) (hB : B ≤ p) (hs : B ≤ w.heap.size) : Sl w' B v bs :=
  h.keep fun q hq => World.cell?_of_block (hg.block q.block (by omega) (fun e => by injection e with e; omega))

theorem Bytes_stop (p k : Nat) (most : Int) (v : Value) (bs : List UInt8) (w : World) (h : RD w p v bs k) (hk : k ≠ 0) :
    Calls Tryz.prog 28 #[.pointer (some ⟨p, 0, none⟩), .int .i64 most] w fun x w' => x = .returned (.slice none 0 0) ∧ w = w' := by
  have c1 := Lib.hid (stopped_yes p k v bs w h hk)
  clear h hk
  go_enter Tryz.func28, Tryz.ntmps28
  go_wp2_with (go_at_call 59; refine c1.out.mono ?_; rintro x w' ⟨rfl, rfl⟩)
  go_ret
  exact ⟨rfl, rfl⟩
theorem Bytes_ok (p : Nat) (most : Int) (v : Value) (bs rest m : List UInt8) (w : World) (hs : StdP w) (hm : most ≤ 9223372036854775807) (h : RD w p v bs 0) (hr : rdBytes 98 most bs = (0, m, rest)) (hl : m.length ≤ 140737488355328) :
    Calls Tryz.prog 28 #[.pointer (some ⟨p, 0, none⟩), .int .i64 most] w fun x w' => ∃ v' u, x = .returned u ∧ SlT w' (fun q => w.heap.size ≤ q ∧ q < w'.heap.size) u m ∧ RD w' p v' rest 0 ∧ w.grownBy w' (some p) := by
  have hc0 := h.c0
  have hlt := h.lt
  have H := Lib.hid h
  have c1 := Lib.hid (stopped_no p v bs w h)
  have h2 := h.2
  have hB := Nat.le_of_lt hlt
  clear h
  obtain ⟨A, c, rfl, hx⟩ := h2
  have h2 : Sl w p (.slice A bs.length c) bs := ⟨A, c, rfl, hx⟩
  have c2 := Lib.hid (takeBytes_ok A bs.length c 98 most bs m rest w hs hm hB h2 hr)
  clear hr hx h2 hm
  go_enter Tryz.func28, Tryz.ntmps28
  go_wp2_with (first
    | (go_at_call 59; refine c1.out.mono ?_; rintro x w' ⟨rfl, rfl⟩)
    | (go_at_call 63; refine c2.out.mono ?_; rintro x w1 ⟨A1, k1, A2, k2, rfl, h3, h5, hb⟩; have H3 := Lib.hid h3; have H5 := Lib.hid h5; have HB := Lib.hid hb; clear h3 h5 hb hc0)
    | (go_at_call 61; refine (settle_ok p _ _ _ _ bs rest _ (H.out.below HB.out hlt) H5.out).mono ?_; rintro x w2 ⟨rfl, h4, hg⟩; have H4 := Lib.hid h4; have HG := Lib.hid hg; clear h4 hg)
    | (go_at_call 58; refine (copied_any _ _ _ m _ _ (H3.out.grown HG.out (Nat.le_refl _) (Nat.le_trans hB HB.out.size)) hl).mono ?_; rintro x w3 ⟨u, rfl, hown, hb3⟩; have HO := Lib.hid hown; have HB3 := Lib.hid hb3; clear hown hb3))
  go_ret
  exact ⟨_, u, rfl, SlT.of_own HO.out _ (fun g hg => ⟨Nat.le_trans (Nat.le_trans HB.out.size HG.out.size) (HO.out.lt g hg).1, (HO.out.lt g hg).2⟩), H4.out.below HB3.out H4.out.lt, grown_trans (grown_below HB.out _) (grown_trans HG.out (grown_below HB3.out _))⟩
theorem Bytes_err (p k : Nat) (most : Int) (v : Value) (bs rest m : List UInt8) (w : World) (hs : StdP w) (hm : most ≤ 9223372036854775807) (h : RD w p v bs 0) (hr : rdBytes 98 most bs = (k, m, rest)) (hk : k ≠ 0) :
    Calls Tryz.prog 28 #[.pointer (some ⟨p, 0, none⟩), .int .i64 most] w fun x w' => ∃ u, x = .returned u ∧ SlT w' (fun q => w.heap.size ≤ q ∧ q < w'.heap.size) u [] ∧ RD w' p v bs k ∧ w.grownBy w' (some p) := by
  have hc0 := h.c0
  have hlt := h.lt
  have H := Lib.hid h
  have HK := Lib.hid hk
  have c1 := Lib.hid (stopped_no p v bs w h)
  have h2 := h.2
  have hB := Nat.le_of_lt hlt
  clear h
  obtain ⟨A, c, rfl, hx⟩ := h2
  have h2 : Sl w p (.slice A bs.length c) bs := ⟨A, c, rfl, hx⟩
  have c2 := Lib.hid (takeBytes_err A bs.length c k 98 most bs m rest w hs hm hB h2 hr hk)
  clear hr hx h2 hm hk
  go_enter Tryz.func28, Tryz.ntmps28
  go_wp2_with (first
    | (go_at_call 59; refine c1.out.mono ?_; rintro x w' ⟨rfl, rfl⟩)
    | (go_at_call 63; refine c2.out.mono ?_; rintro x w1 ⟨rfl, hb⟩; have HB := Lib.hid hb; clear hb hc0)
    | (go_at_call 61; refine (settle_err p k _ _ bs _ (H.out.below HB.out hlt) HK.out).mono ?_; rintro x w2 ⟨rfl, h4, hg⟩; have H4 := Lib.hid h4; have HG := Lib.hid hg; clear h4 hg)
    | (go_at_call 58; refine (copied_any _ _ _ [] _ 0 (Sl.nil_ _ _) (by simp)).mono ?_; rintro x w3 ⟨u, rfl, hown, hb3⟩; have HO := Lib.hid hown; have HB3 := Lib.hid hb3; clear hown hb3))
  go_ret
  exact ⟨u, rfl, SlT.of_own HO.out _ (fun g hg => ⟨Nat.le_trans (Nat.le_trans HB.out.size HG.out.size) (HO.out.lt g hg).1, (HO.out.lt g hg).2⟩), H4.out.below HB3.out H4.out.lt, grown_trans (grown_below HB.out _) (grown_trans HG.out (grown_below HB3.out _))⟩

theorem Done_err (p k : Nat) (v : Value) (bs : List UInt8) (w : World) (h : RD w p v bs k) (hk : k ≠ 0) :
    Calls Tryz.prog 31 #[.pointer (some ⟨p, 0, none⟩)] w fun x w' => x = .returned (.iface 60 (.int .i64 (k : Int))) ∧ w = w' := by
  have hc1 := h.c1
  rw [ev_ne hk] at hc1
  clear h hk
  go_enter Tryz.func31, Tryz.ntmps31
  go_wp2
  go_ret
  exact ⟨rfl, rfl⟩
theorem Done_left (p : Nat) (v : Value) (bs : List UInt8) (w : World) (h : RD w p v bs 0) (hb : bs ≠ []) :
    Calls Tryz.prog 31 #[.pointer (some ⟨p, 0, none⟩)] w fun x w' => x = .returned (.iface 60 (.int .i64 3)) ∧ w = w' := by
  have hc0 := h.c0
  have hc1 : w.cell? ⟨p, 1, none⟩ = some .nilIface := h.c1
  obtain ⟨A, c, rfl, _⟩ := h.2
  have hl : (0 : Int) < (bs.length : Int) := by have := List.length_pos_iff.2 hb; omega
  clear h hb
  go_enter Tryz.func31, Tryz.ntmps31
  go_wp2
  go_ret
  exact ⟨rfl, rfl⟩
theorem Done_none (p : Nat) (v : Value) (w : World) (h : RD w p v [] 0) :
    Calls Tryz.prog 31 #[.pointer (some ⟨p, 0, none⟩)] w fun x w' => x = .returned .nilIface ∧ w = w' := by
  have hc0 := h.c0
  have hc1 : w.cell? ⟨p, 1, none⟩ = some .nilIface := h.c1
  obtain ⟨A, c, rfl, _⟩ := h.2
  clear h
  go_enter Tryz.func31, Tryz.ntmps31
  go_wp2
  go_ret
  exact ⟨rfl, rfl⟩

/-- The error's number that Done tells. -/
def dn (s : List UInt8 × Nat) : Nat := if s.2 = 0 then (if s.1 = [] then 0 else 3) else s.2
theorem Done_any (p : Nat) (s : List UInt8 × Nat) (v : Value) (w : World) (h : RD w p v s.1 s.2) :
    Calls Tryz.prog 31 #[.pointer (some ⟨p, 0, none⟩)] w fun x w' => x = .returned (ev (dn s)) ∧ w = w' := by
  obtain ⟨bs, k⟩ := s
  by_cases hk : k = 0
  · subst hk
    by_cases hb : bs = []
    · subst hb
      refine (Done_none p v w h).mono ?_
      rintro x w' ⟨rfl, rfl⟩
      exact ⟨rfl, rfl⟩
    · refine (Done_left p v bs w h hb).mono ?_
      rintro x w' ⟨rfl, rfl⟩
      exact ⟨by unfold dn; rw [if_pos rfl, if_neg hb]; rfl, rfl⟩
  · refine (Done_err p k v bs w h hk).mono ?_
    rintro x w' ⟨rfl, rfl⟩
    exact ⟨by unfold dn; rw [if_neg hk, ev_ne hk], rfl⟩

/-! ### Each call in one statement. -/
theorem Uint_any (p most : Nat) (s : List UInt8 × Nat) (v : Value) (w : World) (hs : StdP w) (h : RD w p v s.1 s.2) :
    Calls Tryz.prog 26 #[.pointer (some ⟨p, 0, none⟩), .int .u64 (most : Int)] w fun x w' => ∃ v', x = .returned (.int .u64 ((rUint most s).2 : Int)) ∧ RD w' p v' (rUint most s).1.1 (rUint most s).1.2 ∧ w.grownBy w' (some p) := by
  obtain ⟨bs, k⟩ := s
  unfold rUint
  by_cases hk : k = 0
  · subst hk
    rw [if_pos rfl]
    rcases hr : rdUint most bs with ⟨k1, m, rest⟩
    by_cases hk1 : k1 = 0
    · subst hk1
      simp only [if_pos]
      exact Uint_ok p most v bs rest m w hs h hr
    · simp only [if_neg hk1]
      refine (Uint_err p k1 most v bs rest m w hs h hr hk1).mono ?_
      rintro x w' ⟨rfl, h1, h2⟩
      exact ⟨v, rfl, h1, h2⟩
  · rw [if_neg hk]
    refine (Uint_stop p k most v bs w h hk).mono ?_
    rintro x w' ⟨rfl, rfl⟩
    exact ⟨v, rfl, h, World.grownBy.refl w _⟩
theorem Bool_any (p : Nat) (s : List UInt8 × Nat) (v : Value) (w : World) (h : RD w p v s.1 s.2) :
    Calls Tryz.prog 27 #[.pointer (some ⟨p, 0, none⟩)] w fun x w' => ∃ v', x = .returned (.bool (rBool s).2) ∧ RD w' p v' (rBool s).1.1 (rBool s).1.2 ∧ w.grownBy w' (some p) := by
  obtain ⟨bs, k⟩ := s
  unfold rBool
  by_cases hk : k = 0
  · subst hk
    rw [if_pos rfl]
    rcases hr : rdBool bs with ⟨k1, m, rest⟩
    by_cases hk1 : k1 = 0
    · subst hk1
      simp only [if_pos]
      exact Bool_ok p v bs rest m w h hr
    · simp only [if_neg hk1]
      refine (Bool_err p k1 v bs rest m w h hr hk1).mono ?_
      rintro x w' ⟨rfl, h1, h2⟩
      exact ⟨v, rfl, h1, h2⟩
  · rw [if_neg hk]
    refine (Bool_stop p k v bs w h hk).mono ?_
    rintro x w' ⟨rfl, rfl⟩
    exact ⟨v, rfl, h, World.grownBy.refl w _⟩
theorem Bytes_any (p : Nat) (most : Int) (s : List UInt8 × Nat) (v : Value) (w : World) (hs : StdP w) (hm : most ≤ 9223372036854775807) (h : RD w p v s.1 s.2) (hl : s.1.length ≤ 140737488355328) :
    Calls Tryz.prog 28 #[.pointer (some ⟨p, 0, none⟩), .int .i64 most] w fun x w' => ∃ v' u, x = .returned u ∧ SlT w' (fun q => w.heap.size ≤ q ∧ q < w'.heap.size) u (rBytes 98 most s).2 ∧ RD w' p v' (rBytes 98 most s).1.1 (rBytes 98 most s).1.2 ∧ w.grownBy w' (some p) := by
  obtain ⟨bs, k⟩ := s
  unfold rBytes
  by_cases hk : k = 0
  · subst hk
    rw [if_pos rfl]
    rcases hr : rdBytes 98 most bs with ⟨k1, m, rest⟩
    by_cases hk1 : k1 = 0
    · subst hk1
      simp only [if_pos]
      exact Bytes_ok p most v bs rest m w hs hm h hr (Nat.le_trans (rdBytes_len hr) hl)
    · simp only [if_neg hk1]
      refine (Bytes_err p k1 most v bs rest m w hs hm h hr hk1).mono ?_
      rintro x w' ⟨u, rfl, h0, h1, h2⟩
      exact ⟨v, u, rfl, h0, h1, h2⟩
  · rw [if_neg hk]
    refine (Bytes_stop p k most v bs w h hk).mono ?_
    rintro x w' ⟨rfl, rfl⟩
    exact ⟨v, _, rfl, SlT.nil_ _ _, h, World.grownBy.refl w _⟩

end Go.Proofs.YtfblgkcipnkhaaaGreatDoor.pk

/-
  The package pack's reader: a count.
-/
namespace Go.Proofs.YtfblgkcipnkhaaaGreatDoor.pk
open Go Go.RowKit
set_option maxRecDepth 100000

theorem takeCount_err (A : Option Addr) (n c most k m : Nat) (hm : most ≤ 1000000) (bs rest : List UInt8) (w : World) (hs : StdP w) {B : Nat} (hB : B ≤ w.heap.size) (h : Sl w B (.slice A n c) bs) (hr : rdUint most bs = (k, m, rest)) (hk : k ≠ 0) :
    Calls Tryz.prog 64 #[.slice A n c, .int .i64 (most : Int)] w fun x w' => x = .returned (.tuple #[.int .i64 0, .slice none 0 0, .iface 60 (.int .i64 (k : Int))]) ∧ Below w.heap.size w w' := by
  have c1 := Lib.hid (takeUint_err A n c most k m bs rest w hs hB h hr hk)
  have i0 : (0 : Int) ≤ (most : Int) := by omega
  have i1 : (most : Int) ≤ 1000000 := by omega
  have hmax : max (most : Int) 0 = (most : Int) := by omega
  have hw : IntKind.u64.wrap (most : Int) = (most : Int) := by rw [IntKind.wrap_u64]; omega
  clear hr h hk hm
  go_enter Tryz.func64, Tryz.ntmps64
  go_wp2_with (go_at_call 60; go_must (refine c1.out.mono ?_; rintro x w' ⟨rfl, hb⟩))
  go_ret3
  exact ⟨rfl, hb⟩
theorem takeCount_ok (A : Option Addr) (n c most m : Nat) (hm : most ≤ 1000000) (bs rest : List UInt8) (w : World) (hs : StdP w) {B : Nat} (hB : B ≤ w.heap.size) (h : Sl w B (.slice A n c) bs) (hr : rdUint most bs = (0, m, rest)) (hl : m ≤ 1000000) (hf : m ≤ rest.length) :
    Calls Tryz.prog 64 #[.slice A n c, .int .i64 (most : Int)] w fun x w' => ∃ A' c', x = .returned (.tuple #[.int .i64 (m : Int), .slice A' rest.length c', .nilIface]) ∧ Sl w' B (.slice A' rest.length c') rest ∧ Below w.heap.size w w' := by
  have c1 := Lib.hid (takeUint_ok A n c most m bs rest w hs hB h hr)
  have i0 : (0 : Int) ≤ (most : Int) := by omega
  have i1 : (most : Int) ≤ 1000000 := by omega
  have hmax : max (most : Int) 0 = (most : Int) := by omega
  have hw : IntKind.u64.wrap (most : Int) = (most : Int) := by rw [IntKind.wrap_u64]; omega
  have hrb : rest.length ≤ 9223372036854775807 := by
    have hx := rdUint_inv hr
    obtain ⟨A', c', hv, h1, h2, _⟩ := h
    have := congrArg List.length hx.1
    rw [List.length_append] at this
    omega
  obtain ⟨q, hq⟩ : ∃ q, q = rest.length := ⟨_, rfl⟩
  rw [← hq] at c1 hrb hf ⊢
  have i2 : (0 : Int) ≤ (m : Int) := by omega
  have i3 : (m : Int) ≤ 1000000 := by omega
  have i4 : ¬ (q : Int) < (m : Int) := by omega
  have i5 : (q : Int) ≤ 9223372036854775807 := by omega
  have hw2 : IntKind.u64.wrap (q : Int) = (q : Int) := by rw [IntKind.wrap_u64]; omega
  have hw3 : IntKind.i64.wrap (m : Int) = (m : Int) := by rw [IntKind.wrap_i64]; omega
  clear hr h hm hl hf hrb hq
  go_enter Tryz.func64, Tryz.ntmps64
  go_wp2_with (go_at_call 60; go_must (refine c1.out.mono ?_; rintro x w' ⟨A1, k1, rfl, h1, hb⟩; have H1 := Lib.hid (And.intro h1 hb); clear h1 hb))
  go_ret3
  exact ⟨_, _, rfl, H1.out.1, H1.out.2⟩
theorem takeCount_long (A : Option Addr) (n c most m : Nat) (hm : most ≤ 1000000) (bs rest : List UInt8) (w : World) (hs : StdP w) {B : Nat} (hB : B ≤ w.heap.size) (h : Sl w B (.slice A n c) bs) (hr : rdUint most bs = (0, m, rest)) (hl : m ≤ 1000000) (hf : rest.length < m) :
    Calls Tryz.prog 64 #[.slice A n c, .int .i64 (most : Int)] w fun x w' => x = .returned (.tuple #[.int .i64 0, .slice none 0 0, .iface 60 (.int .i64 2)]) ∧ Below w.heap.size w w' := by
  have c1 := Lib.hid (takeUint_ok A n c most m bs rest w hs hB h hr)
  have i0 : (0 : Int) ≤ (most : Int) := by omega
  have i1 : (most : Int) ≤ 1000000 := by omega
  have hmax : max (most : Int) 0 = (most : Int) := by omega
  have hw : IntKind.u64.wrap (most : Int) = (most : Int) := by rw [IntKind.wrap_u64]; omega
  obtain ⟨q, hq⟩ : ∃ q, q = rest.length := ⟨_, rfl⟩
  rw [← hq] at c1 hf
  have i4 : (q : Int) < (m : Int) := by omega
  have i5 : (q : Int) ≤ 1000000 := by omega
  have hw2 : IntKind.u64.wrap (q : Int) = (q : Int) := by rw [IntKind.wrap_u64]; omega
  clear hr h hm hl hf hq
  go_enter Tryz.func64, Tryz.ntmps64
  go_wp2_with (go_at_call 60; go_must (refine c1.out.mono ?_; rintro x w' ⟨A1, k1, rfl, h1, hb⟩; have H1 := Lib.hid hb; clear h1 hb))
  go_ret3
  exact ⟨rfl, H1.out⟩

theorem Count_stop (p k : Nat) (most : Nat) (v : Value) (bs : List UInt8) (w : World) (h : RD w p v bs k) (hk : k ≠ 0) :
    Calls Tryz.prog 29 #[.pointer (some ⟨p, 0, none⟩), .int .i64 (most : Int)] w fun x w' => x = .returned (.int .i64 0) ∧ w = w' := by
  have c1 := Lib.hid (stopped_yes p k v bs w h hk)
  clear h hk
  go_enter Tryz.func29, Tryz.ntmps29
  go_wp2_with (go_at_call 59; go_must (refine c1.out.mono ?_; rintro x w' ⟨rfl, rfl⟩))
  go_ret
  exact ⟨rfl, rfl⟩
/-- What Count does, out of what takeCount does: well, or not. -/
theorem Count_okof (p m : Nat) (most : Nat) (v : Value) (bs rest : List UInt8) (w : World) (h : RD w p v bs 0)
    (hc : ∀ A c, v = .slice A bs.length c → Calls Tryz.prog 64 #[.slice A bs.length c, .int .i64 (most : Int)] w fun x w' => ∃ A' c', x = .returned (.tuple #[.int .i64 (m : Int), .slice A' rest.length c', .nilIface]) ∧ Sl w' p (.slice A' rest.length c') rest ∧ Below w.heap.size w w') :
    Calls Tryz.prog 29 #[.pointer (some ⟨p, 0, none⟩), .int .i64 (most : Int)] w fun x w' => ∃ v', x = .returned (.int .i64 (m : Int)) ∧ RD w' p v' rest 0 ∧ w.grownBy w' (some p) := by
  have hc0 := h.c0
  have hlt := h.lt
  have H := Lib.hid h
  have c1 := Lib.hid (stopped_no p v bs w h)
  have h2 := h.2
  clear h
  obtain ⟨A, c, rfl, hx⟩ := h2
  have c2 := Lib.hid (hc A c rfl)
  clear hx hc
  go_enter Tryz.func29, Tryz.ntmps29
  go_wp2_with (first
    | (go_at_call 59; go_must (refine c1.out.mono ?_; rintro x w' ⟨rfl, rfl⟩))
    | (go_at_call 64; go_must (refine c2.out.mono ?_; rintro x w1 ⟨A1, k1, rfl, h3, hb⟩; have H3 := Lib.hid h3; have HB := Lib.hid hb; clear h3 hb hc0))
    | (go_at_call 61; go_must (refine (settle_ok p _ _ _ _ bs rest _ (H.out.below HB.out hlt) H3.out).mono ?_; rintro x w2 ⟨rfl, h4, hg⟩; have H4 := Lib.hid h4; have HG := Lib.hid hg; clear h4 hg)))
  go_ret
  exact ⟨_, rfl, H4.out, grown_trans (grown_below HB.out _) HG.out⟩
theorem Count_errof (p k : Nat) (hk : k ≠ 0) (most : Nat) (v : Value) (bs : List UInt8) (w : World) (h : RD w p v bs 0)
    (hc : ∀ A c, v = .slice A bs.length c → Calls Tryz.prog 64 #[.slice A bs.length c, .int .i64 (most : Int)] w fun x w' => x = .returned (.tuple #[.int .i64 0, .slice none 0 0, .iface 60 (.int .i64 (k : Int))]) ∧ Below w.heap.size w w') :
    Calls Tryz.prog 29 #[.pointer (some ⟨p, 0, none⟩), .int .i64 (most : Int)] w fun x w' => x = .returned (.int .i64 0) ∧ RD w' p v bs k ∧ w.grownBy w' (some p) := by
  have hc0 := h.c0
  have hlt := h.lt
  have H := Lib.hid h
  have HK := Lib.hid hk
  have c1 := Lib.hid (stopped_no p v bs w h)
  have h2 := h.2
  clear h
  obtain ⟨A, c, rfl, hx⟩ := h2
  have c2 := Lib.hid (hc A c rfl)
  clear hx hc hk
  go_enter Tryz.func29, Tryz.ntmps29
  go_wp2_with (first
    | (go_at_call 59; go_must (refine c1.out.mono ?_; rintro x w' ⟨rfl, rfl⟩))
    | (go_at_call 64; go_must (refine c2.out.mono ?_; rintro x w1 ⟨rfl, hb⟩; have HB := Lib.hid hb; clear hb hc0))
    | (go_at_call 61; go_must (refine (settle_err p k _ _ bs _ (H.out.below HB.out hlt) HK.out).mono ?_; rintro x w2 ⟨rfl, h4, hg⟩; have H4 := Lib.hid h4; have HG := Lib.hid hg; clear h4 hg)))
  go_ret
  exact ⟨rfl, H4.out, grown_trans (grown_below HB.out _) HG.out⟩
theorem Count_any (p most : Nat) (hm : most ≤ 1000000) (s : List UInt8 × Nat) (v : Value) (w : World) (hs : StdP w) (h : RD w p v s.1 s.2) :
    Calls Tryz.prog 29 #[.pointer (some ⟨p, 0, none⟩), .int .i64 (most : Int)] w fun x w' => ∃ v', x = .returned (.int .i64 ((rCount most s).2 : Int)) ∧ RD w' p v' (rCount most s).1.1 (rCount most s).1.2 ∧ w.grownBy w' (some p) := by
  obtain ⟨bs, k⟩ := s
  unfold rCount
  by_cases hk : k = 0
  · subst hk
    rw [if_pos rfl]
    rcases hr : rdUint most bs with ⟨k1, m, rest⟩
    have hB := Nat.le_of_lt h.lt
    have h2 := h.2
    by_cases hk1 : k1 = 0
    · subst hk1
      simp only [ne_eq, not_true_eq_false, if_false]
      have hle := (rdUint_inv hr).2.1
      by_cases hf : rest.length < m
      · rw [if_pos hf]
        refine (Count_errof p 2 (by decide) most v bs w h fun A c hv => takeCount_long A _ c most m hm bs rest w hs hB (by rw [← hv]; exact h2) hr (by omega) hf).mono ?_
        rintro x w' ⟨rfl, h1, h2⟩
        exact ⟨v, rfl, h1, h2⟩
      · rw [if_neg hf]
        exact Count_okof p m most v bs rest w h fun A c hv => takeCount_ok A _ c most m hm bs rest w hs hB (by rw [← hv]; exact h2) hr (by omega) (by omega)
    · simp only [ne_eq, hk1, not_false_eq_true, if_true]
      refine (Count_errof p k1 hk1 most v bs w h fun A c hv => takeCount_err A _ c most k1 m hm bs rest w hs hB (by rw [← hv]; exact h2) hr hk1).mono ?_
      rintro x w' ⟨rfl, h1, h2⟩
      exact ⟨v, rfl, h1, h2⟩
  · rw [if_neg hk]
    refine (Count_stop p k most v bs w h hk).mono ?_
    rintro x w' ⟨rfl, rfl⟩
    exact ⟨v, rfl, h, World.grownBy.refl w _⟩

end Go.Proofs.YtfblgkcipnkhaaaGreatDoor.pk

/-
  The program's own entry: whether it may be.
-/
namespace Go.Proofs.YtfblgkcipnkhaaaGreatDoor.pk
open Go Go.RowKit
set_option maxRecDepth 100000

def cntE (n : Int) : Bool := decide (1 ≤ n ∧ n ≤ 1099511627776)
def kndE (n : Int) : Bool := decide (0 ≤ n ∧ n ≤ 2)
theorem cntE_true {n : Int} : cntE n = true ↔ 1 ≤ n ∧ n ≤ 1099511627776 := by unfold cntE; exact decide_eq_true_iff
theorem cntE_false {n : Int} : cntE n = false ↔ ¬ (1 ≤ n ∧ n ≤ 1099511627776) := by unfold cntE; exact decide_eq_false_iff_not
theorem kndE_true {n : Int} : kndE n = true ↔ 0 ≤ n ∧ n ≤ 2 := by unfold kndE; exact decide_eq_true_iff
theorem kndE_false {n : Int} : kndE n = false ↔ ¬ (0 ≤ n ∧ n ≤ 2) := by unfold kndE; exact decide_eq_false_iff_not
theorem fitM_false {e : En} : fitM e = false ↔ ¬ (1 ≤ e.index ∧ e.index ≤ 1099511627776 ∧ 1 ≤ e.term ∧ e.term ≤ 1099511627776 ∧ 0 ≤ e.kind ∧ e.kind ≤ 2 ∧ e.data.length ≤ 4096) := by unfold fitM; exact decide_eq_false_iff_not

theorem counts_any (n : Int) (w : World) (b : Bool) (hb : b = cntE n) : Calls Tryz.prog 85 #[.int .i64 n] w fun y w' => y = .returned (.bool b) ∧ w = w' := by
  have HB := Lib.hid hb
  clear hb
  have hc : ¬ 1 ≤ n ∨ (1 ≤ n ∧ ¬ n ≤ 1099511627776) ∨ (1 ≤ n ∧ n ≤ 1099511627776) := by omega
  rcases hc with h1 | ⟨h1, h2⟩ | ⟨h1, h2⟩
  all_goals
    go_enter Tryz.func85, Tryz.ntmps85
    go_wp2_with fail
    go_ret
    exact ⟨ret_bool (by rw [HB.out]; first | exact (cntE_true.2 (by omega)).symm | exact (cntE_false.2 (by omega)).symm), rfl⟩
theorem isKind_any (n : Int) (w : World) (b : Bool) (hb : b = kndE n) : Calls Tryz.prog 86 #[.int .i64 n] w fun y w' => y = .returned (.bool b) ∧ w = w' := by
  have HB := Lib.hid hb
  clear hb
  have hc : ¬ 0 ≤ n ∨ (0 ≤ n ∧ ¬ n ≤ 2) ∨ (0 ≤ n ∧ n ≤ 2) := by omega
  rcases hc with h1 | ⟨h1, h2⟩ | ⟨h1, h2⟩
  all_goals
    go_enter Tryz.func86, Tryz.ntmps86
    go_wp2_with fail
    go_ret
    exact ⟨ret_bool (by rw [HB.out]; first | exact (kndE_true.2 (by omega)).symm | exact (kndE_false.2 (by omega)).symm), rfl⟩

set_option maxHeartbeats 4000000 in
theorem emay_any (e : En) (A : Option Addr) (n c : Nat) (w : World) (hn : n = e.data.length) (hn2 : n ≤ 9223372036854775807) (b : Bool) (hb : b = fitM e) :
    Calls Tryz.prog 65 #[.agg #[.int .i64 e.index, .int .i64 e.term, .int .i64 e.kind, .slice A n c]] w fun y w' => y = .returned (.bool b) ∧ Below w.heap.size w w' := by
  obtain ⟨W1, g, hW1, hg, hb1, hq, hsz⟩ := one_box w (.cells #[.int .i64 e.index, .int .i64 e.term, .int .i64 e.kind, .slice A n c] 57)
  have HW := Lib.hid (And.intro hW1 hg)
  have HE := Lib.hid (And.intro hb1 (And.intro hq hsz))
  obtain ⟨x0, x1, x2, x3⟩ := cells4 hq
  have C0 := Lib.hid fun n => counts_any n W1 _ rfl
  have C2 := Lib.hid fun n => isKind_any n W1 _ rfl
  have in1 : (n : Int) ≤ 9223372036854775807 := by omega
  have hcase : (cntE e.index = false ∧ b = false) ∨ (cntE e.index = true ∧ cntE e.term = false ∧ b = false) ∨ (cntE e.index = true ∧ cntE e.term = true ∧ kndE e.kind = false ∧ b = false) ∨ (cntE e.index = true ∧ cntE e.term = true ∧ kndE e.kind = true ∧ ¬ (n : Int) ≤ 4096 ∧ b = false) ∨ (cntE e.index = true ∧ cntE e.term = true ∧ kndE e.kind = true ∧ (n : Int) ≤ 4096 ∧ b = true) := by
    rw [hb]
    by_cases h : fitM e = true
    · have h1 := fitM_iff.1 h
      exact Or.inr (Or.inr (Or.inr (Or.inr ⟨cntE_true.2 ⟨h1.1, h1.2.1⟩, cntE_true.2 ⟨h1.2.2.1, h1.2.2.2.1⟩, kndE_true.2 ⟨h1.2.2.2.2.1, h1.2.2.2.2.2.1⟩, by omega, h⟩)))
    · have h := Bool.eq_false_iff.2 h
      have h1 := fitM_false.1 h
      cases h2 : cntE e.index with
      | false => exact Or.inl ⟨rfl, h⟩
      | true =>
        cases h3 : cntE e.term with
        | false => exact Or.inr (Or.inl ⟨rfl, rfl, h⟩)
        | true =>
          cases h4 : kndE e.kind with
          | false => exact Or.inr (Or.inr (Or.inl ⟨rfl, rfl, rfl, h⟩))
          | true =>
            have := cntE_true.1 h2
            have := cntE_true.1 h3
            have := kndE_true.1 h4
            exact Or.inr (Or.inr (Or.inr (Or.inl ⟨rfl, rfl, rfl, by omega, h⟩)))
  clear hW1 hg hb1 hq hsz hb hn
  rcases hcase with ⟨h0, rfl⟩ | ⟨h0, h1, rfl⟩ | ⟨h0, h1, h2, rfl⟩ | ⟨h0, h1, h2, h3, rfl⟩ | ⟨h0, h1, h2, h3, rfl⟩
  all_goals
    go_enter Tryz.func65, Tryz.ntmps65
    go_upto_region 1 with fail
    rw [← HW.out.1, ← HW.out.2]
    go_wp2_with (first
      | (go_at_call 85; go_must (refine (C0.out _).mono ?_; rintro y w1 ⟨rfl, rfl⟩))
      | (go_at_call 86; go_must (refine (C2.out _).mono ?_; rintro y w1 ⟨rfl, rfl⟩)))
    go_ret
    exact ⟨by first | rfl | exact ret_bool (decide_eq_false (by omega)) | exact ret_bool (decide_eq_true (by omega)), HE.out.1⟩


end Go.Proofs.YtfblgkcipnkhaaaGreatDoor.pk

/-
  The program's own bytes of an entry, where it lays Index, Term and Kind by Uint and the data by Bytes, one call behind the other in one statement.
-/
namespace Go.Proofs.YtfblgkcipnkhaaaGreatDoor.pk
open Go Go.RowKit
set_option maxRecDepth 100000

set_option maxHeartbeats 4000000 in
theorem EEncT_any (e : En) (A : Option Addr) (n c : Nat) (w : World) (hs : StdG w) (h : Bys w (.slice A n c) e.data) (hn : n ≤ 100000) (m : Nat) (hm : m = (encE e).length) :
    Calls Tryz.prog 46 #[.agg #[.int .i64 e.index, .int .i64 e.term, .int .i64 e.kind, .slice A n c]] w fun x w' => ∃ A1 c1, x = .returned (.slice A1 m c1) ∧ SlT w' (fun q => w.heap.size ≤ q ∧ q < w'.heap.size) (.slice A1 m c1) (encE e) ∧ Below w.heap.size w w' := by
  obtain ⟨W1, g, hW1, hg, hb1, hq, hsz⟩ := one_box w (.cells #[.int .i64 e.index, .int .i64 e.term, .int .i64 e.kind, .slice A n c] 57)
  have hln := h.len_
  have HW := Lib.hid (And.intro hW1 hg)
  have HE := Lib.hid (And.intro hb1 hq)
  obtain ⟨u0, hu0⟩ : ∃ u, u = u64 e.index := ⟨_, rfl⟩
  obtain ⟨u1, hu1⟩ : ∃ u, u = u64 e.term := ⟨_, rfl⟩
  obtain ⟨u2, hu2⟩ : ∃ u, u = u64 e.kind := ⟨_, rfl⟩
  have k0 := wrap_u64 e.index
  have k1 := wrap_u64 e.term
  have k2 := wrap_u64 e.kind
  rw [← hu0] at k0
  rw [← hu1] at k1
  rw [← hu2] at k2
  have hl0 : u0 < 18446744073709551616 := by rw [hu0]; exact u64_lt _
  have hl1 : u1 < 18446744073709551616 := by rw [hu1]; exact u64_lt _
  have hl2 : u2 < 18446744073709551616 := by rw [hu2]; exact u64_lt _
  have hlen : ∀ u, u < 18446744073709551616 → (lUint u).length ≤ 22 := fun u hu => by have := decDigits_le u hu; unfold lUint; simp; omega
  obtain ⟨b1, hb1'⟩ : ∃ b, b = [] ++ lUint u0 := ⟨_, rfl⟩
  obtain ⟨b2, hb2'⟩ : ∃ b, b = b1 ++ lUint u1 := ⟨_, rfl⟩
  obtain ⟨b3, hb3'⟩ : ∃ b, b = b2 ++ lUint u2 := ⟨_, rfl⟩
  have hfin : encE e = b3 ++ lBytes e.data := by unfold encE; rw [hb3', hb2', hb1', ← hu0, ← hu1, ← hu2, List.nil_append]
  have hz1 : b1.length ≤ 22 := by rw [hb1', List.nil_append]; exact hlen _ hl0
  have hz2 : b2.length ≤ 44 := by rw [hb2', List.length_append]; have := hlen _ hl1; omega
  have hz3 : b3.length ≤ 66 := by rw [hb3', List.length_append]; have := hlen _ hl2; omega
  have hz4 : (encE e).length ≤ 140737488355328 := by have := encE_len (e := e) (by omega); omega
  have hd0 : Below W1.heap.size W1 W1.drew := (Below.refl _ _).drew
  have hs0 : StdG W1.drew := hs.below (hb1.trans (hd0.mono hb1.size))
  obtain ⟨B, hB⟩ : ∃ B, B = W1.drew.heap.size := ⟨_, rfl⟩
  have hGB : 6 ≤ B := by rw [hB]; exact hs0.size
  have hBW : W1.heap.size = B := by rw [hB]; rfl
  have C0 := Lib.hid (New_any W1.drew)
  rw [← hB] at C0
  have C1 := Lib.hid fun v W hsW hw => Writer_Uint B B u0 hl0 v [] W hsW hGB hw (by simp)
  have C2 := Lib.hid fun v W hsW hw => Writer_Uint B B u1 hl1 v b1 W hsW hGB hw (by omega)
  have C3 := Lib.hid fun v W hsW hw => Writer_Uint B B u2 hl2 v b2 W hsW hGB hw (by omega)
  have C4 := Lib.hid fun v W hsW hw ht => Writer_Bytes B B A n c e.data B (Nat.le_refl _) v b3 W hsW hGB hw ht (by omega)
  have C5 := Lib.hid fun v W hw => Writer_Done B B v (encE e) W hw hz4
  rw [← hb1'] at C1
  rw [← hb2'] at C2
  rw [← hb3'] at C3
  rw [← hfin] at C4
  have HN := Lib.hid (And.intro h (And.intro hs (And.intro hm hBW)))
  have HS := Lib.hid fun W (hW : Below B W1 W) => hs.below (hb1.trans (hW.mono (by rw [← hBW]; exact hb1.size)))
  clear h hs hn hm hW1 hg hb1 hq hsz hu0 hu1 hu2 hl0 hl1 hl2 hlen hfin hz1 hz2 hz3 hz4 hb1' hb2' hb3' hs0 hB hGB hln
  rw [hBW] at hd0
  go_enter Tryz.func46, Tryz.ntmps46
  go_upto_region 1 with fail
  rw [← HW.out.1, ← HW.out.2]
  refine wp_region_held_drew (S := fun W => Below B W1 W) (by kernel_rfl) hd0 (fun hHeld => ?_)
  have HCL := Lib.hid fun W (hW : Below B W1 W) => cells4 ((hW.block g (by rw [← hBW]; exact obj_lt HE.out.2)).trans HE.out.2)
  clear hBW
  refine wpAnyH_take (i := 1) (oi := { dst := Option.some 4, op := Op.fieldAddr 57 (Operand.tmp 1) 0, type := 0, pos := "bytes.go:10", after := #[], guard := Option.none }) (v := .pointer (some ⟨g, 0, none⟩)) rfl (by kernel_rfl) (by kernel_rfl) (by kernel_rfl) (fun _ _ _ h => h) (Or.inl ⟨by rfl, ?_⟩) hHeld ?_
  · intro W hSw
    obtain ⟨z0, z1, z2, z3⟩ := HCL.out _ hSw
    go_simp
  simp only [Act.put, List.setIfInBounds_toArray, List.set_cons_zero, List.set_cons_succ]
  refine wpAnyH_take (i := 2) (oi := { dst := Option.some 5, op := Op.load 3 (Operand.tmp 4), type := 3, pos := "bytes.go:10", after := #[{ on := 1, ground := Ground.data }], guard := Option.none }) (v := .int .i64 e.index) rfl (by kernel_rfl) (by kernel_rfl) (by kernel_rfl) (fun _ _ _ h => h) (Or.inl ⟨by rfl, ?_⟩) hHeld ?_
  · intro W hSw
    obtain ⟨z0, z1, z2, z3⟩ := HCL.out _ hSw
    go_simp
  simp only [Act.put, List.setIfInBounds_toArray, List.set_cons_zero, List.set_cons_succ]
  refine wpAnyH_take (i := 3) (oi := { dst := Option.some 6, op := Op.convert 3 51 (Operand.tmp 5), type := 51, pos := "bytes.go:10", after := #[{ on := 2, ground := Ground.data }], guard := Option.none }) (v := .int .u64 (u0 : Int)) rfl (by kernel_rfl) (by kernel_rfl) (by kernel_rfl) (fun _ _ _ h => h) (Or.inl ⟨by rfl, ?_⟩) hHeld ?_
  · intro W hSw
    obtain ⟨z0, z1, z2, z3⟩ := HCL.out _ hSw
    go_simp
  simp only [Act.put, List.setIfInBounds_toArray, List.set_cons_zero, List.set_cons_succ]
  refine wpAnyH_take (i := 5) (oi := { dst := Option.some 8, op := Op.fieldAddr 57 (Operand.tmp 1) 1, type := 0, pos := "bytes.go:10", after := #[], guard := Option.none }) (v := .pointer (some ⟨g, 1, none⟩)) rfl (by kernel_rfl) (by kernel_rfl) (by kernel_rfl) (fun _ _ _ h => h) (Or.inl ⟨by rfl, ?_⟩) hHeld ?_
  · intro W hSw
    obtain ⟨z0, z1, z2, z3⟩ := HCL.out _ hSw
    go_simp
  simp only [Act.put, List.setIfInBounds_toArray, List.set_cons_zero, List.set_cons_succ]
  refine wpAnyH_take (i := 6) (oi := { dst := Option.some 9, op := Op.load 3 (Operand.tmp 8), type := 3, pos := "bytes.go:10", after := #[{ on := 5, ground := Ground.data }], guard := Option.none }) (v := .int .i64 e.term) rfl (by kernel_rfl) (by kernel_rfl) (by kernel_rfl) (fun _ _ _ h => h) (Or.inl ⟨by rfl, ?_⟩) hHeld ?_
  · intro W hSw
    obtain ⟨z0, z1, z2, z3⟩ := HCL.out _ hSw
    go_simp
  simp only [Act.put, List.setIfInBounds_toArray, List.set_cons_zero, List.set_cons_succ]
  refine wpAnyH_take (i := 7) (oi := { dst := Option.some 10, op := Op.convert 3 51 (Operand.tmp 9), type := 51, pos := "bytes.go:10", after := #[{ on := 6, ground := Ground.data }], guard := Option.none }) (v := .int .u64 (u1 : Int)) rfl (by kernel_rfl) (by kernel_rfl) (by kernel_rfl) (fun _ _ _ h => h) (Or.inl ⟨by rfl, ?_⟩) hHeld ?_
  · intro W hSw
    obtain ⟨z0, z1, z2, z3⟩ := HCL.out _ hSw
    go_simp
  simp only [Act.put, List.setIfInBounds_toArray, List.set_cons_zero, List.set_cons_succ]
  refine wpAnyH_take (i := 9) (oi := { dst := Option.some 12, op := Op.fieldAddr 57 (Operand.tmp 1) 2, type := 0, pos := "bytes.go:10", after := #[], guard := Option.none }) (v := .pointer (some ⟨g, 2, none⟩)) rfl (by kernel_rfl) (by kernel_rfl) (by kernel_rfl) (fun _ _ _ h => h) (Or.inl ⟨by rfl, ?_⟩) hHeld ?_
  · intro W hSw
    obtain ⟨z0, z1, z2, z3⟩ := HCL.out _ hSw
    go_simp
  simp only [Act.put, List.setIfInBounds_toArray, List.set_cons_zero, List.set_cons_succ]
  refine wpAnyH_take (i := 10) (oi := { dst := Option.some 13, op := Op.load 3 (Operand.tmp 12), type := 3, pos := "bytes.go:10", after := #[{ on := 9, ground := Ground.data }], guard := Option.none }) (v := .int .i64 e.kind) rfl (by kernel_rfl) (by kernel_rfl) (by kernel_rfl) (fun _ _ _ h => h) (Or.inl ⟨by rfl, ?_⟩) hHeld ?_
  · intro W hSw
    obtain ⟨z0, z1, z2, z3⟩ := HCL.out _ hSw
    go_simp
  simp only [Act.put, List.setIfInBounds_toArray, List.set_cons_zero, List.set_cons_succ]
  refine wpAnyH_take (i := 11) (oi := { dst := Option.some 14, op := Op.convert 3 51 (Operand.tmp 13), type := 51, pos := "bytes.go:10", after := #[{ on := 10, ground := Ground.data }], guard := Option.none }) (v := .int .u64 (u2 : Int)) rfl (by kernel_rfl) (by kernel_rfl) (by kernel_rfl) (fun _ _ _ h => h) (Or.inl ⟨by rfl, ?_⟩) hHeld ?_
  · intro W hSw
    obtain ⟨z0, z1, z2, z3⟩ := HCL.out _ hSw
    go_simp
  simp only [Act.put, List.setIfInBounds_toArray, List.set_cons_zero, List.set_cons_succ]
  refine wpAnyH_take (i := 13) (oi := { dst := Option.some 16, op := Op.fieldAddr 57 (Operand.tmp 1) 3, type := 0, pos := "bytes.go:10", after := #[], guard := Option.none }) (v := .pointer (some ⟨g, 3, none⟩)) rfl (by kernel_rfl) (by kernel_rfl) (by kernel_rfl) (fun _ _ _ h => h) (Or.inl ⟨by rfl, ?_⟩) hHeld ?_
  · intro W hSw
    obtain ⟨z0, z1, z2, z3⟩ := HCL.out _ hSw
    go_simp
  simp only [Act.put, List.setIfInBounds_toArray, List.set_cons_zero, List.set_cons_succ]
  refine wpAnyH_take (i := 14) (oi := { dst := Option.some 17, op := Op.load 22 (Operand.tmp 16), type := 22, pos := "bytes.go:10", after := #[{ on := 13, ground := Ground.data }], guard := Option.none }) (v := .slice A n c) rfl (by kernel_rfl) (by kernel_rfl) (by kernel_rfl) (fun _ _ _ h => h) (Or.inl ⟨by rfl, ?_⟩) hHeld ?_
  · intro W hSw
    obtain ⟨z0, z1, z2, z3⟩ := HCL.out _ hSw
    go_simp
  simp only [Act.put, List.setIfInBounds_toArray, List.set_cons_zero, List.set_cons_succ]
  clear k0 k1 k2
  refine wpAnyH_ready (rs := [0]) (by kernel_rfl) (by simp) ?_
  refine AllReadyH.cons (o := { dst := Option.some 3, op := Op.call { callee := Callee.value (Operand.func 42), args := #[], argTypes := #[] }, type := 78, pos := "bytes.go:10", after := #[], guard := Option.none }) rfl (fun K hK => ?_) AllReadyH.nil
  go_simp
  refine C0.out.mono ?_
  rintro y w1 ⟨rfl, hw1, hb⟩
  have hb : Below B W1 w1 := hd0.trans hb
  refine hK.out _ _ hb (fun hHeld2 => ?_)
  clear hK K hHeld
  have hHeld := hHeld2
  clear hHeld2
  have H1 := Lib.hid (And.intro hw1 hb)
  clear hw1 hb hd0
  refine wpAnyH_ready (rs := [4]) (by kernel_rfl) (by simp) ?_
  refine AllReadyH.cons (o := { dst := Option.some 7, op := Op.call { callee := Callee.value (Operand.func 74), args := #[Operand.tmp 3, Operand.tmp 6], argTypes := #[78, 51] }, type := 78, pos := "bytes.go:10", after := #[{ on := 0, ground := Ground.data }, { on := 3, ground := Ground.data }, { on := 0, ground := Ground.chain }], guard := Option.none }) rfl (fun K hK => ?_) AllReadyH.nil
  go_simp
  refine (C1.out _ _ (HS.out _ H1.out.2) H1.out.1).mono ?_
  rintro y w2 ⟨v2, rfl, hw2, hk2⟩
  have hb : Below B W1 w2 := H1.out.2.trans hk2.below
  refine hK.out _ _ hb (fun hHeld2 => ?_)
  clear hK K hHeld
  have hHeld := hHeld2
  clear hHeld2
  have H2 := Lib.hid (And.intro hw2 hb)
  clear hw2 hb hk2
  refine wpAnyH_ready (rs := [8]) (by kernel_rfl) (by simp) ?_
  refine AllReadyH.cons (o := { dst := Option.some 11, op := Op.call { callee := Callee.value (Operand.func 74), args := #[Operand.tmp 7, Operand.tmp 10], argTypes := #[78, 51] }, type := 78, pos := "bytes.go:10", after := #[{ on := 4, ground := Ground.data }, { on := 7, ground := Ground.data }, { on := 4, ground := Ground.chain }], guard := Option.none }) rfl (fun K hK => ?_) AllReadyH.nil
  go_simp
  refine (C2.out _ _ (HS.out _ H2.out.2) H2.out.1).mono ?_
  rintro y w3 ⟨v3, rfl, hw3, hk3⟩
  have hb : Below B W1 w3 := H2.out.2.trans hk3.below
  refine hK.out _ _ hb (fun hHeld2 => ?_)
  clear hK K hHeld
  have hHeld := hHeld2
  clear hHeld2
  have H3 := Lib.hid (And.intro hw3 hb)
  clear hw3 hb hk3
  refine wpAnyH_ready (rs := [12]) (by kernel_rfl) (by simp) ?_
  refine AllReadyH.cons (o := { dst := Option.some 15, op := Op.call { callee := Callee.value (Operand.func 74), args := #[Operand.tmp 11, Operand.tmp 14], argTypes := #[78, 51] }, type := 78, pos := "bytes.go:10", after := #[{ on := 8, ground := Ground.data }, { on := 11, ground := Ground.data }, { on := 8, ground := Ground.chain }], guard := Option.none }) rfl (fun K hK => ?_) AllReadyH.nil
  go_simp
  refine (C3.out _ _ (HS.out _ H3.out.2) H3.out.1).mono ?_
  rintro y w4 ⟨v4, rfl, hw4, hk4⟩
  have hb : Below B W1 w4 := H3.out.2.trans hk4.below
  refine hK.out _ _ hb (fun hHeld2 => ?_)
  clear hK K hHeld
  have hHeld := hHeld2
  clear hHeld2
  have H4 := Lib.hid (And.intro hw4 hb)
  clear hw4 hb hk4
  refine wpAnyH_ready (rs := [15]) (by kernel_rfl) (by simp) ?_
  refine AllReadyH.cons (o := { dst := Option.some 18, op := Op.call { callee := Callee.value (Operand.func 45), args := #[Operand.tmp 15, Operand.tmp 17], argTypes := #[78, 22] }, type := 78, pos := "bytes.go:10", after := #[{ on := 12, ground := Ground.data }, { on := 14, ground := Ground.data }, { on := 12, ground := Ground.chain }], guard := Option.none }) rfl (fun K hK => ?_) AllReadyH.nil
  go_simp
  refine (C4.out _ _ (HS.out _ H4.out.2) H4.out.1 (((HN.out.1.below HE.out.1).sl_.more (by rw [HN.out.2.2.2]; exact Nat.le_refl _)).below H4.out.2)).mono ?_
  rintro y w5 ⟨v5, rfl, hw5, hk5⟩
  have hb : Below B W1 w5 := H4.out.2.trans hk5.below
  refine hK.out _ _ hb (fun hHeld2 => ?_)
  clear hK K hHeld
  have hHeld := hHeld2
  clear hHeld2
  have H5 := Lib.hid (And.intro hw5 hb)
  clear hw5 hb hk5
  refine wpAnyH_ready (rs := [16]) (by kernel_rfl) (by simp) ?_
  refine AllReadyH.cons (o := { dst := Option.some 19, op := Op.call { callee := Callee.value (Operand.func 47), args := #[Operand.tmp 18], argTypes := #[78] }, type := 22, pos := "bytes.go:10", after := #[{ on := 15, ground := Ground.data }, { on := 15, ground := Ground.chain }], guard := Option.none }) rfl (fun K hK => ?_) AllReadyH.nil
  go_simp
  refine (C5.out _ _ H5.out.1).mono ?_
  rintro y w6 ⟨u, rfl, ho6, hb6⟩
  have hb : Below B W1 w6 := H5.out.2.trans (hb6.mono H5.out.1.hB)
  have hI : SlT w6 (fun q => w.heap.size ≤ q ∧ q < w6.heap.size) u (encE e) := SlT.of_own ho6 _ fun g hg => ⟨Nat.le_trans (Nat.le_trans HE.out.1.size (Nat.le_trans (Nat.le_of_eq HN.out.2.2.2) H5.out.1.hB)) (ho6.lt g hg).1, (ho6.lt g hg).2⟩
  obtain ⟨A6, c6, rfl, -, -⟩ := id hI
  rw [← HN.out.2.2.1] at hI ⊢
  refine hK.out _ _ hb (fun hHeld2 => ?_)
  clear hK K hHeld
  have hHeld := hHeld2
  clear hHeld2
  have H6 := Lib.hid (And.intro hI hb)
  clear hI hb ho6 hb6
  refine wpAnyH_take (i := 17) (oi := { dst := Option.some 2, op := Op.assign (Operand.tmp 19), type := 22, pos := "bytes.go:10", after := #[{ on := 16, ground := Ground.data }, { on := 16, ground := Ground.chain }, { on := 0, ground := Ground.phase }, { on := 1, ground := Ground.phase }, { on := 2, ground := Ground.phase }, { on := 3, ground := Ground.phase }, { on := 4, ground := Ground.phase }, { on := 5, ground := Ground.phase }, { on := 6, ground := Ground.phase }, { on := 7, ground := Ground.phase }, { on := 8, ground := Ground.phase }, { on := 9, ground := Ground.phase }, { on := 10, ground := Ground.phase }, { on := 11, ground := Ground.phase }, { on := 12, ground := Ground.phase }, { on := 13, ground := Ground.phase }, { on := 14, ground := Ground.phase }, { on := 15, ground := Ground.phase }, { on := 16, ground := Ground.phase }], guard := Option.none }) (v := .slice A6 m c6) rfl (by kernel_rfl) (by kernel_rfl) (by kernel_rfl) (fun _ _ _ h => h) (Or.inl ⟨by rfl, ?_⟩) hHeld ?_
  · intro W hSw
    go_simp
  simp only [Act.put, List.setIfInBounds_toArray, List.set_cons_zero, List.set_cons_succ]
  clear hHeld
  refine wpAnyH_done (by kernel_rfl) ?_ _
  go_wp2_with fail
  go_ret
  exact ⟨A6, c6, rfl, H6.out.1, HE.out.1.trans (H6.out.2.mono (by have := HN.out.2.2.2; have := HE.out.1.size; omega))⟩

theorem EEnc_any (e : En) (A : Option Addr) (n c : Nat) (w : World) (hs : StdG w) (h : Bys w (.slice A n c) e.data) (hn : n ≤ 100000) (m : Nat) (hm : m = (encE e).length) :
    Calls Tryz.prog 46 #[.agg #[.int .i64 e.index, .int .i64 e.term, .int .i64 e.kind, .slice A n c]] w fun x w' => ∃ A1 c1, x = .returned (.slice A1 m c1) ∧ Bys w' (.slice A1 m c1) (encE e) ∧ Below w.heap.size w w' := by
  refine (EEncT_any e A n c w hs h hn m hm).mono ?_
  rintro y w' ⟨A1, c1, rfl, hi, hb⟩
  exact ⟨A1, c1, rfl, hi.mono fun k hk => hk.2, hb⟩

end Go.Proofs.YtfblgkcipnkhaaaGreatDoor.pk

/-
  The program's own reader of an entry.
-/
namespace Go.Proofs.YtfblgkcipnkhaaaGreatDoor.pk
open Go Go.RowKit
set_option maxRecDepth 100000

theorem dn_doneR (s : List UInt8 × Nat) : dn s = doneR s := by
  unfold dn doneR
  obtain ⟨l, k⟩ := s
  by_cases hk : k = 0
  · subst hk
    cases l with
    | nil => simp
    | cons a r => simp
  · simp [hk]
theorem Uint_s (p most : Nat) (s : List UInt8) (k : Nat) (s' : List UInt8) (k' u : Nat) (h1 : rUint most (s, k) = ((s', k'), u)) (v : Value) (w : World) (hs : StdP w) (h : RD w p v s k) :
    Calls Tryz.prog 26 #[.pointer (some ⟨p, 0, none⟩), .int .u64 (most : Int)] w fun x w' => ∃ v', x = .returned (.int .u64 (u : Int)) ∧ RD w' p v' s' k' ∧ w.grownBy w' (some p) := by
  have := Uint_any p most (s, k) v w hs h
  rw [h1] at this
  exact this
theorem Bool_s (p : Nat) (s : List UInt8) (k : Nat) (s' : List UInt8) (k' : Nat) (u : Bool) (h1 : rBool (s, k) = ((s', k'), u)) (v : Value) (w : World) (h : RD w p v s k) :
    Calls Tryz.prog 27 #[.pointer (some ⟨p, 0, none⟩)] w fun x w' => ∃ v', x = .returned (.bool u) ∧ RD w' p v' s' k' ∧ w.grownBy w' (some p) := by
  have := Bool_any p (s, k) v w h
  rw [h1] at this
  exact this
theorem Count_s (p most : Nat) (hm : most ≤ 1000000) (s : List UInt8) (k : Nat) (s' : List UInt8) (k' u : Nat) (h1 : rCount most (s, k) = ((s', k'), u)) (v : Value) (w : World) (hs : StdP w) (h : RD w p v s k) :
    Calls Tryz.prog 29 #[.pointer (some ⟨p, 0, none⟩), .int .i64 (most : Int)] w fun x w' => ∃ v', x = .returned (.int .i64 (u : Int)) ∧ RD w' p v' s' k' ∧ w.grownBy w' (some p) := by
  have := Count_any p most hm (s, k) v w hs h
  rw [h1] at this
  exact this
theorem Bytes_s (p : Nat) (most : Int) (hm : most ≤ 9223372036854775807) (s : List UInt8) (k : Nat) (hl : s.length ≤ 140737488355328) (s' : List UInt8) (k' : Nat) (u : List UInt8) (h1 : rBytes 98 most (s, k) = ((s', k'), u)) (m : Nat) (hu : m = u.length) (v : Value) (w : World) (hs : StdP w) (h : RD w p v s k) :
    Calls Tryz.prog 28 #[.pointer (some ⟨p, 0, none⟩), .int .i64 most] w fun x w' => ∃ v' A c, x = .returned (.slice A m c) ∧ SlT w' (fun q => w.heap.size ≤ q ∧ q < w'.heap.size) (.slice A m c) u ∧ RD w' p v' s' k' ∧ w.grownBy w' (some p) := by
  have := Bytes_any p most (s, k) v w hs hm h hl
  rw [h1] at this
  refine this.mono ?_
  rintro x w' ⟨v', y, rfl, hS, hR, hg⟩
  obtain ⟨A, c, rfl, _⟩ := id hS
  rw [← hu] at hS ⊢
  exact ⟨v', A, c, rfl, hS, hR, hg⟩
theorem Done_s (p : Nat) (s : List UInt8) (k d : Nat) (hd : d = doneR (s, k)) (v : Value) (w : World) (h : RD w p v s k) :
    Calls Tryz.prog 31 #[.pointer (some ⟨p, 0, none⟩)] w fun x w' => x = .returned (ev d) ∧ w = w' := by
  have := Done_any p (s, k) v w h
  rw [dn_doneR, ← hd] at this
  exact this
theorem er_ev (k : Nat) : er k = ev k := rfl
/-- A reader's call leaves what lay ahead of it. -/
theorem Below.rd {B : Nat} {a w w' : World} {p : Nat} (h : Below B a w) (hg : w.grownBy w' (some p)) (hB : B ≤ a.heap.size) (hp : B ≤ p) : Below B a w' := h.grown hg (Nat.le_trans hB h.size) (by intro k hk; injection hk with hk; omega)
theorem wrap_small {v : Nat} (h : v ≤ 1099511627776) : IntKind.i64.wrap (v : Int) = (v : Int) := by rw [IntKind.wrap_i64]; omega

end Go.Proofs.YtfblgkcipnkhaaaGreatDoor.pk

/-
  The program's own reader of an entry: walked.
-/
namespace Go.Proofs.YtfblgkcipnkhaaaGreatDoor.pk
open Go Go.RowKit
set_option maxRecDepth 100000

theorem rUint_small {most : Nat} {s : List UInt8 × Nat} {r : (List UInt8 × Nat) × Nat} (h : rUint most s = r) (hm : most ≤ 1099511627776) : r.2 ≤ 1099511627776 := by
  have := rUint_le most s
  rw [h] at this
  omega
theorem rUint_short {most : Nat} {s : List UInt8 × Nat} {r : (List UInt8 × Nat) × Nat} (h : rUint most s = r) : r.1.1.length ≤ s.1.length := by
  by_cases h0 : (rUint most s).1.2 = 0
  · have h1 := (rUint_inv h0).2.1
    have h2 := congrArg List.length h1
    rw [List.length_append] at h2
    rw [← h]
    omega
  · subst h
    unfold rUint at h0 ⊢
    by_cases hk : s.2 = 0
    · rw [if_pos hk] at h0 ⊢
      rcases hr : rdUint most s.1 with ⟨k1, m, rest⟩
      rw [hr] at h0
      by_cases h1 : k1 = 0
      · simp [h1] at h0
      · simp [h1]
    · rw [if_neg hk]
      exact Nat.le_refl _
theorem rBytes_short {most : Int} {s : List UInt8 × Nat} {r : (List UInt8 × Nat) × List UInt8} (h : rBytes 98 most s = r) (hs : s.1.length ≤ 140737488355328) : r.1.1.length ≤ 140737488355328 ∧ r.2.length ≤ 140737488355328 := by
  by_cases h0 : (rBytes 98 most s).1.2 = 0
  · have h1 := (rBytes_inv h0).2.1
    have h2 := congrArg List.length h1
    rw [List.length_append, List.length_append] at h2
    rw [← h]
    omega
  · subst h
    unfold rBytes at h0 ⊢
    by_cases hk : s.2 = 0
    · rw [if_pos hk] at h0 ⊢
      rcases hr : rdBytes 98 most s.1 with ⟨k1, m, rest⟩
      rw [hr] at h0
      by_cases h1 : k1 = 0
      · simp [h1] at h0
      · simp [h1]; exact hs
    · rw [if_neg hk]
      simp; exact hs

theorem put4e {w : World} {b t : Nat} {u0 u1 u2 u3 : Value} (h : w.heap[b]? = some (.cells #[u0, u1, u2, u3] t (0, 0))) (v0 v1 v2 v3 : Value) :
    ∃ F, F = (((w.setCell ⟨b, 0, none⟩ v0).setCell ⟨b, 1, none⟩ v1).setCell ⟨b, 2, none⟩ v2).setCell ⟨b, 3, none⟩ v3 ∧ F.heap[b]? = some (.cells #[v0, v1, v2, v3] t (0, 0)) ∧ (∀ B, B ≤ b → Below B w F) ∧ (∀ k, k ≠ b → F.heap[k]? = w.heap[k]?) ∧ F.heap.size = w.heap.size :=
  ⟨_, rfl, put4_own h v0 v1 v2 v3, fun B hB => put4_below (Below.refl B w) hB, fun k hk => by rw [Below.heap_setCell _ _ _ _ hk, Below.heap_setCell _ _ _ _ hk, Below.heap_setCell _ _ _ _ hk, Below.heap_setCell _ _ _ _ hk], by simp only [World.size_setCell]⟩

set_option maxHeartbeats 8000000 in
theorem EDec_walk (A : Option Addr) (n c : Nat) (b : List UInt8) (w : World) (hs : StdP w) (h : Bys w (.slice A n c) b) (hn : n ≤ 140737488355328)
    (s1 : List UInt8) (k1 v1 : Nat) (h1 : rUint 1099511627776 (b, 0) = ((s1, k1), v1)) (s2 : List UInt8) (k2 v2 : Nat) (h2 : rUint 1099511627776 (s1, k1) = ((s2, k2), v2))
    (s3 : List UInt8) (k3 v3 : Nat) (h3 : rUint 2 (s2, k2) = ((s3, k3), v3)) (hl3 : s3.length ≤ 140737488355328) (s4 : List UInt8) (k4 : Nat) (v4 : List UInt8) (h4 : rBytes 98 4096 (s3, k3) = ((s4, k4), v4))
    (l1 : v1 ≤ 1099511627776) (l2 : v2 ≤ 1099511627776) (l3 : v3 ≤ 1099511627776) (l4 : v4.length ≤ 140737488355328)
    (e : En) (f : Nat) (hr : (e, f) = if doneR (s4, k4) ≠ 0 ∨ fitM ⟨(v1 : Int), (v2 : Int), (v3 : Int), v4⟩ = false then (⟨0, 0, 0, []⟩, 3) else (⟨(v1 : Int), (v2 : Int), (v3 : Int), v4⟩, 0)) (m : Nat) (hm : m = e.data.length) :
    Calls Tryz.prog 30 #[.slice A n c] w fun y w' => ∃ A1 c1, y = .returned (.tuple #[.agg #[.int .i64 e.index, .int .i64 e.term, .int .i64 e.kind, .slice A1 m c1], er f]) ∧ SlT w' (fun q => w.heap.size ≤ q ∧ q < w'.heap.size) (.slice A1 m c1) e.data ∧ Below w.heap.size w w' := by
  obtain ⟨W0, g, hW0, hg, hb0, hz, hsz⟩ := one_box w (.cells #[.int .i64 0, .int .i64 0, .int .i64 0, .slice none 0 0] 57)
  have hln := h.len_
  have HW := Lib.hid (And.intro hW0 hg)
  have HE := Lib.hid (And.intro hb0 (And.intro hz hsz))
  have HS := Lib.hid (hs.more hb0)
  have C0 := Lib.hid (Read_any A n c b W0 W0.heap.size ((h.below hb0).sl_) (by omega))
  obtain ⟨nv, hnv⟩ : ∃ nv, nv = v4.length := ⟨_, rfl⟩
  have C1 := Lib.hid fun p v W hs h => Uint_s p 1099511627776 b 0 s1 k1 v1 h1 v W hs h
  have C2 := Lib.hid fun p v W hs h => Uint_s p 1099511627776 s1 k1 s2 k2 v2 h2 v W hs h
  have C3 := Lib.hid fun p v W hs h => Uint_s p 2 s2 k2 s3 k3 v3 h3 v W hs h
  have C4 := Lib.hid fun p v W hs h => Bytes_s p 4096 (by omega) s3 k3 hl3 s4 k4 v4 h4 nv hnv v W hs h
  obtain ⟨d, hd⟩ : ∃ d, d = doneR (s4, k4) := ⟨_, rfl⟩
  have C5 := Lib.hid fun p v W h => Done_s p s4 k4 d hd v W h
  obtain ⟨bf, hbf⟩ : ∃ bf, bf = fitM ⟨(v1 : Int), (v2 : Int), (v3 : Int), v4⟩ := ⟨_, rfl⟩
  have C6 := Lib.hid fun A c W => emay_any ⟨(v1 : Int), (v2 : Int), (v3 : Int), v4⟩ A nv c W hnv (by omega) bf hbf
  have wr1 := wrap_small l1
  have wr2 := wrap_small l2
  have wr3 := wrap_small l3
  have ww : ((1099511627776 : Nat) : Int) = 1099511627776 := rfl
  have w2 : ((2 : Nat) : Int) = 2 := rfl
  rw [ww] at C1 C2
  rw [w2] at C3
  have three : (d ≠ 0 ∧ e = ⟨0, 0, 0, []⟩ ∧ f = 3) ∨ (d = 0 ∧ bf = false ∧ e = ⟨0, 0, 0, []⟩ ∧ f = 3) ∨ (d = 0 ∧ bf = true ∧ e = ⟨(v1 : Int), (v2 : Int), (v3 : Int), v4⟩ ∧ f = 0) := by
    rw [← hd, ← hbf] at hr
    by_cases h0 : d = 0
    · cases bf with
      | false => rw [if_pos (Or.inr rfl)] at hr; injection hr with p1 p2; exact Or.inr (Or.inl ⟨h0, rfl, p1, p2⟩)
      | true => rw [if_neg (by simp [h0])] at hr; injection hr with p1 p2; exact Or.inr (Or.inr ⟨h0, rfl, p1, p2⟩)
    · rw [if_pos (Or.inl h0)] at hr; injection hr with p1 p2; exact Or.inl ⟨h0, p1, p2⟩
  have HM := Lib.hid (And.intro hm hnv)
  clear hW0 hg hb0 hz hsz hln h hn h1 h2 h3 h4 l1 l2 l3 l4 hr hd hbf hs hl3 hnv hm ww w2
  go_enter Tryz.func30, Tryz.ntmps30
  go_upto_region 1 with fail
  rw [← HW.out.1]
  try rw [← HW.out.2]
  go_upto_region 2 with (go_at_call 24; go_must (refine C0.out.mono ?_; rintro y w1 ⟨p, v, rfl, hp, hr, hb⟩; have H1 := Lib.hid (And.intro hr hb); have HP := Lib.hid hp; clear hr hb hp))
  go_upto_region 3 with (first
    | (go_at_call 28; go_must (refine (C4.out p _ _ (HS.out.more H4.out.2) H4.out.1).mono ?_; rintro y w5 ⟨v5, A5, c5, rfl, hS5, hr, hg⟩; have H5 := Lib.hid (And.intro hr (And.intro (Below.rd H4.out.2 hg (Nat.le_refl _) HP.out) (hS5.mono (T' := fun q => W0.heap.size ≤ q ∧ q < w5.heap.size) fun q hq => ⟨Nat.le_trans H4.out.2.size hq.1, hq.2⟩))); clear hr hg hS5))
    | (go_at_call 26; refine (C3.out p _ _ (HS.out.more H3.out.2) H3.out.1).mono ?_; rintro y w4 ⟨v4', rfl, hr, hg⟩; have H4 := Lib.hid (And.intro hr (Below.rd H3.out.2 hg (Nat.le_refl _) HP.out)); clear hr hg)
    | (go_at_call 26; refine (C2.out p _ _ (HS.out.more H2.out.2) H2.out.1).mono ?_; rintro y w3 ⟨v3', rfl, hr, hg⟩; have H3 := Lib.hid (And.intro hr (Below.rd H2.out.2 hg (Nat.le_refl _) HP.out)); clear hr hg)
    | (go_at_call 26; refine (C1.out p _ _ (HS.out.more H1.out.2) H1.out.1).mono ?_; rintro y w2 ⟨v2', rfl, hr, hg⟩; have H2 := Lib.hid (And.intro hr (Below.rd H1.out.2 hg (Nat.le_refl _) HP.out)); clear hr hg))
  obtain ⟨W5, g5, hW5, hg5, hb5, hq5, hsz5⟩ := one_box w5 (.cells #[.int .i64 (v1 : Int), .int .i64 (v2 : Int), .int .i64 (v3 : Int), .slice A5 nv c5] 57)
  rw [← hW5, ← hg5]
  have HB5 : Below W0.heap.size W0 W5 := H5.out.2.1.trans (hb5.mono H5.out.2.1.size)
  have R5 := H5.out.1.below hb5 H5.out.1.lt
  have S5 : SlT W5 (fun q => W0.heap.size ≤ q ∧ q < W5.heap.size) (.slice A5 nv c5) v4 := (H5.out.2.2.kept fun k hk _ => hb5.block k hk.2).mono fun k hk => ⟨hk.1, Nat.lt_of_lt_of_le hk.2 hb5.size⟩
  have Q0 := (HB5.block g (by have := HE.out.2.2; omega)).trans HE.out.2.1
  obtain ⟨z0, z1, z2, z3⟩ := cells4 Q0
  obtain ⟨y0, y1, y2, y3⟩ := cells4 hq5
  have f0 := frozen_own Q0 0
  have f1 := frozen_own Q0 1
  have f2 := frozen_own Q0 2
  have f3 := frozen_own Q0 3
  have H6 := Lib.hid (And.intro HB5 (And.intro R5 (And.intro S5 (And.intro Q0 (And.intro hq5 hsz5)))))
  clear hW5 hg5 hb5 hq5 hsz5 HB5 R5 S5 Q0
  rcases three with ⟨h0, rfl, rfl⟩ | ⟨rfl, rfl, rfl, rfl⟩ | ⟨rfl, rfl, rfl, rfl⟩
  · rw [show ev d = .iface 60 (.int .i64 (d : Int)) from ev_ne h0] at C5
    have hm0 : m = 0 := HM.out.1
    subst hm0
    go_wp2_with (go_at_call 31; go_must (refine (C5.out p _ _ H6.out.2.1).mono ?_; rintro y w7 ⟨rfl, rfl⟩))
    have T := And.intro H6.out.2.2.2.1 (Below.refl w.heap.size W5)
    obtain ⟨F, hF, hE, hbQ, hoth, hsF⟩ := put4e T.1 (.int .i64 0) (.int .i64 0) (.int .i64 0) (.slice none 0 0)
    rw [← hF]
    clear hF z0 z1 z2 z3
    obtain ⟨z0, z1, z2, z3⟩ := cells4 hE
    have hgw := HW.out.2
    have hF0 : Below w.heap.size w F := (HE.out.1.trans (H6.out.1.mono HE.out.1.size)).trans (T.2.trans (hbQ _ (by omega)))
    exact bodyPost_ret (v := .tuple #[.agg #[.int .i64 0, .int .i64 0, .int .i64 0, .slice none 0 0], .iface 60 (.int .i64 3)]) (by simp [results, Tryz.results30, go_sem, z0, z1, z2, z3]) rfl ⟨none, 0, rfl, SlT.nil_ _ _, hF0⟩
  · rw [show ev 0 = .nilIface from rfl] at C5
    have hm0 : m = 0 := HM.out.1
    subst hm0
    go_wp2_with (first
      | (go_at_call 31; go_must (refine (C5.out p _ _ H6.out.2.1).mono ?_; rintro y w7 ⟨rfl, rfl⟩))
      | (go_at_call 65; go_must (refine (C6.out A5 c5 _).mono ?_; rintro y w8 ⟨rfl, hb⟩; have Q := (hb.block g (by have := HE.out.2.2; have := H6.out.1.size; omega)).trans H6.out.2.2.2.1; clear z0 z1 z2 z3 f0 f1 f2 f3; obtain ⟨z0, z1, z2, z3⟩ := cells4 Q; have f0 := frozen_own Q 0; have f1 := frozen_own Q 1; have f2 := frozen_own Q 2; have f3 := frozen_own Q 3; have H8 := Lib.hid (And.intro Q hb); clear hb Q)))
    have T := And.intro H8.out.1 (H8.out.2.mono (show w.heap.size ≤ W5.heap.size from Nat.le_trans HE.out.1.size H6.out.1.size))
    obtain ⟨F, hF, hE, hbQ, hoth, hsF⟩ := put4e T.1 (.int .i64 0) (.int .i64 0) (.int .i64 0) (.slice none 0 0)
    rw [← hF]
    clear hF z0 z1 z2 z3
    obtain ⟨z0, z1, z2, z3⟩ := cells4 hE
    have hgw := HW.out.2
    have hF0 : Below w.heap.size w F := (HE.out.1.trans (H6.out.1.mono HE.out.1.size)).trans (T.2.trans (hbQ _ (by omega)))
    exact bodyPost_ret (v := .tuple #[.agg #[.int .i64 0, .int .i64 0, .int .i64 0, .slice none 0 0], .iface 60 (.int .i64 3)]) (by simp [results, Tryz.results30, go_sem, z0, z1, z2, z3]) rfl ⟨none, 0, rfl, SlT.nil_ _ _, hF0⟩
  · rw [show ev 0 = .nilIface from rfl] at C5
    go_wp2_with (first
      | (go_at_call 31; go_must (refine (C5.out p _ _ H6.out.2.1).mono ?_; rintro y w7 ⟨rfl, rfl⟩))
      | (go_at_call 65; go_must (refine (C6.out A5 c5 _).mono ?_; rintro y w8 ⟨rfl, hb⟩; have Q := (hb.block g (by have := HE.out.2.2; have := H6.out.1.size; omega)).trans H6.out.2.2.2.1; have Q5 := (hb.block g5 (by have := H6.out.2.2.2.2.2; omega)).trans H6.out.2.2.2.2.1; clear z0 z1 z2 z3 f0 f1 f2 f3 y0 y1 y2 y3; obtain ⟨z0, z1, z2, z3⟩ := cells4 Q; obtain ⟨y0, y1, y2, y3⟩ := cells4 Q5; have f0 := frozen_own Q 0; have f1 := frozen_own Q 1; have f2 := frozen_own Q 2; have f3 := frozen_own Q 3; have H8 := Lib.hid (And.intro Q hb); clear hb Q Q5)))
    have T := And.intro H8.out.1 (H8.out.2.mono (show w.heap.size ≤ W5.heap.size from Nat.le_trans HE.out.1.size H6.out.1.size))
    obtain ⟨F, hF, hE, hbQ, hoth, hsF⟩ := put4e T.1 (.int .i64 (v1 : Int)) (.int .i64 (v2 : Int)) (.int .i64 (v3 : Int)) (.slice A5 nv c5)
    rw [← hF]
    clear hF z0 z1 z2 z3
    obtain ⟨z0, z1, z2, z3⟩ := cells4 hE
    have hgw := HW.out.2
    have hF0 : Below w.heap.size w F := (HE.out.1.trans (H6.out.1.mono HE.out.1.size)).trans (T.2.trans (hbQ _ (by omega)))
    have hS : SlT F (fun q => w.heap.size ≤ q ∧ q < F.heap.size) (.slice A5 nv c5) v4 := (H6.out.2.2.1.kept fun k hk hk2 => (hoth k (by have := HE.out.2.2; have := hk.1; omega)).trans (H8.out.2.block k hk2)).mono fun k hk => ⟨Nat.le_trans HE.out.1.size hk.1, by rw [hsF]; exact Nat.lt_of_lt_of_le hk.2 H8.out.2.size⟩
    have hm0 : nv = m := HM.out.2.trans HM.out.1.symm
    subst hm0
    exact bodyPost_ret (v := .tuple #[.agg #[.int .i64 (v1 : Int), .int .i64 (v2 : Int), .int .i64 (v3 : Int), .slice A5 nv c5], .nilIface]) (by simp [results, Tryz.results30, go_sem, z0, z1, z2, z3]) rfl ⟨A5, c5, rfl, hS, hF0⟩

theorem EDec_any (A : Option Addr) (n c : Nat) (b : List UInt8) (w : World) (hs : StdP w) (h : Bys w (.slice A n c) b) (hn : n ≤ 140737488355328) (e : En) (f : Nat) (hr : decE b = (e, f)) (m : Nat) (hm : m = e.data.length) :
    Calls Tryz.prog 30 #[.slice A n c] w fun y w' => ∃ A1 c1, y = .returned (.tuple #[.agg #[.int .i64 e.index, .int .i64 e.term, .int .i64 e.kind, .slice A1 m c1], er f]) ∧ SlT w' (fun q => w.heap.size ≤ q ∧ q < w'.heap.size) (.slice A1 m c1) e.data ∧ Below w.heap.size w w' := by
  have hln := h.len_
  rcases h1 : rUint 1099511627776 (b, 0) with ⟨⟨s1, k1⟩, v1⟩
  rcases h2 : rUint 1099511627776 (s1, k1) with ⟨⟨s2, k2⟩, v2⟩
  rcases h3 : rUint 2 (s2, k2) with ⟨⟨s3, k3⟩, v3⟩
  rcases h4 : rBytes 98 4096 (s3, k3) with ⟨⟨s4, k4⟩, v4⟩
  have l1 := rUint_small h1 (by omega)
  have l2 := rUint_small h2 (by omega)
  have l3 := rUint_small h3 (by omega)
  have t1 := rUint_short h1
  have t2 := rUint_short h2
  have t3 := rUint_short h3
  have t4 := rBytes_short h4 (by simp only at t1 t2 t3 ⊢; omega)
  refine EDec_walk A n c b w hs h hn s1 k1 v1 h1 s2 k2 v2 h2 s3 k3 v3 h3 (by simp only at t1 t2 t3; omega) s4 k4 v4 h4 l1 l2 l3 t4.2 e f ?_ m hm
  rw [← hr]
  unfold decE takeE
  simp only [h1, h2, h3, h4]
  have hk : (v3 : Int) ≤ 2 := by have := rUint_le 2 (s2, k2); rw [h3] at this; simp only at this; omega
  by_cases hd : doneR (s4, k4) = 0
  · by_cases hf : fitM ⟨(v1 : Int), (v2 : Int), (v3 : Int), v4⟩ = true
    · have := fitM_iff.1 hf
      simp only at this
      rw [if_neg (by rintro (h0 | h0 | h0) <;> omega), if_neg (by rintro (h0 | h0); exact h0 hd; rw [hf] at h0; cases h0)]
    · have hf' := Bool.eq_false_iff.2 hf
      have h5 : v4.length ≤ 4096 := by
        have := (doneR_iff (s := (s4, k4))).1 hd
        have h6 := rBytes_inv (most := 4096) (letter := 98) (s := (s3, k3)) (by rw [h4]; exact this.1)
        rw [h4] at h6
        have := h6.2.2.1
        simp only at this
        omega
      have := fitM_false.1 hf'
      simp only at this l1 l2
      have hor : (v1 : Int) < 1 ∨ (v2 : Int) < 1 := by omega
      rw [if_pos (Or.inr hor), if_pos (Or.inr hf')]
  · rw [if_pos (Or.inl hd), if_pos (Or.inl hd)]

end Go.Proofs.YtfblgkcipnkhaaaGreatDoor.pk
