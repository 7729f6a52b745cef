/-
  Texts of the proof, joined: WrM, EgM.
-/
import Derived.Test.YtfblgkcipnkhaaaGreatDoorLayM
import Derived.Test.YtfblgkcipnkhaaaGreatDoorJd
import Derived.Test.YtfblgkcipnkhaaaGreatDoorShelf
import Derived.Deep.AppendLies
import Derived.Lib.BufferKept
import Derived.Lib.OwnKind
import Derived.Test.YtfblgkcipnkhaaaGreatDoorJf

/-
  The package pack's writer, in the words of the later stages: New, Uint, Bytes, Done.
-/
namespace Go.Proofs.YtfblgkcipnkhaaaGreatDoor.pk
open Go Go.RowKit
set_option maxRecDepth 100000

theorem StdG.low {w w' : World} {B : Nat} (h : StdG w) (hB : 6 ≤ B) (hb : Below B w w') : StdG w' := ⟨var?_below hb gTabG (by omega) h.tab, Nat.le_trans h.size hb.size⟩
theorem StdG.tabBelow {w : World} {B : Nat} (h : StdG w) (hB : 6 ≤ B) : Lib.TabBelow Tryz.prog B w "internal/strconv.uint64pow10" .u64 Lib.pow10Tab := fun _ hb => (h.low hB hb).tab

theorem grown_set {w : World} {p i : Nat} (u : Value) : w.grownBy (w.setCell ⟨p, i, none⟩ u) (some p) :=
  ⟨rfl, rfl, rfl, by simp [World.setCell], fun k _ hne => Below.heap_setCell w _ u k (fun e => hne (by rw [e]))⟩

/-- A writer in block p, what it holds in a row from block B on. -/
structure WR (w : World) (B p : Nat) (v : Value) (bs : List UInt8) : Prop where
  low : B ≤ p
  blk : w.heap[p]? = some (.cells #[v] 123 (0, 0))
  own : w.ownsRow B 5 1 v bs.length (Lib.byteCells bs)
/-- What a writer's call leaves as it was: all below B, and of the rest all that is no row of bytes, but the writer. -/
structure KP (B p : Nat) (w w' : World) : Prop where
  below : Below B w w'
  others : Lib.OthersKept 5 (some p) w w'
theorem KP.refl (B p : Nat) (w : World) : KP B p w w := ⟨Below.refl _ _, Lib.OthersKept.refl _ _ _⟩
theorem KP.trans {B p : Nat} {a b c : World} (h : KP B p a b) (k : KP B p b c) : KP B p a c := ⟨h.below.trans k.below, h.others.trans k.others⟩

theorem WR.lt {w : World} {B p : Nat} {v : Value} {bs : List UInt8} (h : WR w B p v bs) : p < w.heap.size := by
  rcases Nat.lt_or_ge p w.heap.size with hlt | hge
  · exact hlt
  · have := h.blk; rw [Array.getElem?_eq_none hge] at this; cases this
theorem WR.hB {w : World} {B p : Nat} {v : Value} {bs : List UInt8} (h : WR w B p v bs) : B ≤ w.heap.size := Nat.le_trans h.low (Nat.le_of_lt h.lt)
theorem WR.cell {w : World} {B p : Nat} {v : Value} {bs : List UInt8} (h : WR w B p v bs) : w.cell? ⟨p, 0, none⟩ = some v := by
  rw [cell_of_row w p 0 _ _ (0, 0) h.blk]; rfl
theorem WR.fz {w : World} {B p : Nat} {v : Value} {bs : List UInt8} (h : WR w B p v bs) (i : Nat) : w.frozen? ⟨p, i, none⟩ = false := by
  simp [World.frozen?, h.blk]
theorem WR.blk_kept {w w1 : World} {B p : Nat} {v : Value} {bs : List UInt8} (h : WR w B p v bs) (hk : Lib.OthersKept 5 none w w1) : w1.heap[p]? = some (.cells #[v] 123 (0, 0)) :=
  hk p _ h.blk (by simp) (fun c fz e => by injection e with _ e2; cases e2)

/-- The row has grown; it is stored back. -/
theorem WR.put {w w1 : World} {B p : Nat} {v v' : Value} {bs m : List UInt8} (h : WR w B p v bs) (hb : Below B w w1) (hk : Lib.OthersKept 5 none w w1)
    (hown : w1.ownsRow B 5 1 v' (bs.length + m.length) (Lib.byteCells bs ++ Lib.byteCells m)) :
    WR (w1.setCell ⟨p, 0, none⟩ v') B p v' (bs ++ m) ∧ KP B p w (w1.setCell ⟨p, 0, none⟩ v') := by
  have hp := h.blk_kept hk
  have hne : v'.ownBlock = none ∨ v'.ownBlock ≠ some p := by
    right
    intro e
    obtain ⟨c, fz, hc⟩ := Lib.ownsRow_kind hown p e
    rw [hp] at hc
    injection hc with hc
    injection hc with _ e2
    cases e2
  refine ⟨⟨h.low, ?_, ?_⟩, ⟨hb.setCell h.low v', ?_⟩⟩
  · simp [World.setCell, Array.getElem?_modify, hp]
  · have := hown.kept (grown_set (p := p) (i := 0) v') hne
    rw [List.length_append]
    simpa [Lib.byteCells] using this
  · have h1 : Lib.OthersKept 5 (some p) w w1 := fun k o ho _ hx => hk k o ho (by simp) hx
    exact h1.setCell _ rfl v'

/-- What an append of one byte gives. -/
theorem WR.grown1 {w w1 : World} {B p : Nat} {v : Value} {bs : List UInt8} {o : Obj} (h : WR w B p v bs) (hg : (w.alloc o).grownBy w1 v.ownBlock) : Below B w w1 ∧ Lib.OthersKept 5 none w w1 := by
  have hB := h.hB
  refine ⟨((Below.refl B w).alloc hB o).grown hg (by simp; omega) (fun k hk => (h.own.lt k hk).1), ?_⟩
  exact ((Lib.OthersKept.refl _ _ w).alloc o).grown hg (Lib.ownsRow_kind (h.own.alloc o))

/-- 'New()'. -/
theorem New_any (w : World) : Calls Tryz.prog 42 #[] w fun x w' => x = .returned (.pointer (some ⟨w.heap.size, 0, none⟩)) ∧ WR w' w.heap.size w.heap.size (.slice none 0 0) [] ∧ Below w.heap.size w w' := by
  go_enter Tryz.func42, Tryz.ntmps42
  go_wp2
  go_ret
  exact ⟨rfl, ⟨Nat.le_refl _, heap_alloc_new w _, World.ownsRow_nil _ _ _ _⟩, (Below.refl _ _).alloc (Nat.le_refl _) _⟩

theorem AppendUint_any (B n u : Nat) (hu64 : u < 18446744073709551616) (sv : Value) (xs : List Value) (w : World) (hs : StdG w) (hown : w.ownsRow B 5 1 sv n xs) (hBw : B ≤ w.heap.size) (hlim : n + 20 ≤ 140737488355328) :
    Calls Tryz.prog 92 #[sv, .int .u64 (u : Int), .int .i64 10] w fun e w' => ∃ v', e = .returned v' ∧ w'.ownsRow B 5 1 v' (n + (Lib.decDigits u).length) (xs ++ Lib.byteCells (Lib.decDigits u)) ∧ Below B w w' ∧ Lib.OthersKept 5 none w w' := by
  have c1 := Lib.hid (Tryz.internal_strconv_AppendUint_10 B n u hu64 sv xs w hown hBw hlim hs.tab)
  clear hown hlim hu64
  go_enter Tryz.func92, Tryz.ntmps92
  go_wp2_with (go_at_call 101; refine c1.out.mono ?_; rintro e w' ⟨v', rfl, h1, h2, h3⟩; have H1 := Lib.hid h1; have H2 := Lib.hid h2; have H3 := Lib.hid h3; clear h1 h2 h3)
  go_ret
  exact ⟨v', rfl, H1.out, H2.out, H3.out⟩

/-- 'append(w.b, c)' at a writer's row, behind the new block that holds the byte. -/
theorem wpList_wr1 {w : World} {B p : Nat} {v : Value} {bs : List UInt8} {ops : Array Oper} {rest : List Oper} {o : Oper} {a : Act} {Q : Exit → Act → World → Prop} (hgd : o.guard = none) (s x : Operand)
    (ho : o.op = .call { callee := .builtin .append, args := #[s, x], argTypes := #[22, 22] }) (h : WR w B p v bs) (c : UInt8) (hl : bs.length + 1 ≤ 140737488355328)
    (hs : a.eval s = v) (H : Nat) (hH : w.heap.size = H) (hx : a.eval x = .slice (some ⟨H, 0, none⟩) 1 1)
    (hK : ∀ g n cap w1, w1.cell? ⟨p, 0, none⟩ = some v → w1.frozen? ⟨p, 0, none⟩ = false →
      WR (w1.setCell ⟨p, 0, none⟩ (.slice (some ⟨g, 0, none⟩) n cap)) B p (.slice (some ⟨g, 0, none⟩) n cap) (bs ++ [c]) → KP B p w (w1.setCell ⟨p, 0, none⟩ (.slice (some ⟨g, 0, none⟩) n cap)) →
      wpList Tryz.prog ops Q rest (a.put o.dst (.slice (some ⟨g, 0, none⟩) n cap)) w1) :
    wpList Tryz.prog ops Q (o :: rest) a (w.alloc (.cells #[.int .u8 (c.toNat : Int)] 5)) := by
  obtain ⟨i0, hi, hz0, hz1, hz2⟩ := info_parts info_u8
  have hB := h.hB
  subst hH
  refine wpList_append_lies _ hgd s x 22 ho B 5 i0 _ 1 1 Tryz.underlying22 hi hz0 hz1 hz2 rfl (by omega) v bs.length (Lib.byteCells bs) hs (h.own.alloc _) ⟨w.heap.size, 0, none⟩ 1 1 [.int .u8 (c.toNat : Int)] hx rfl (cell_one_new _ _ _)
    (by intro u hu; simp at hu; subst hu; rfl) (by omega) (by simp only [maxLen]; omega) (by omega) (by simp; omega) _ rfl ?_
  intro g cap w1 hown hgrow _ _
  obtain ⟨hb, hk⟩ := h.grown1 hgrow
  have hp := h.blk_kept hk
  obtain ⟨h1, h2⟩ := h.put (m := [c]) hb hk hown
  exact hK g _ cap w1 (by rw [cell_of_row w1 p 0 _ _ (0, 0) hp]; rfl) (by simp [World.frozen?, hp]) h1 h2

theorem AppendInt_any (B n : Nat) (k : Int) (h0 : -9223372036854775808 ≤ k) (h1 : k ≤ 9223372036854775807) (hB6 : 6 ≤ B) (sv : Value) (xs : List Value) (w : World) (hs : StdG w) (hown : w.ownsRow B 5 1 sv n xs) (hBw : B ≤ w.heap.size) (hlim : n + 21 ≤ 140737488355328) :
    Calls Tryz.prog 93 #[sv, .int .i64 k, .int .i64 10] w fun e w' => ∃ v', e = .returned v' ∧ w'.ownsRow B 5 1 v' (n + (Lib.itoa k).length) (xs ++ Lib.byteCells (Lib.itoa k)) ∧ Below B w w' ∧ Lib.OthersKept 5 none w w' :=
  Tryz.strconv_AppendInt_10 B n k h0 h1 sv xs w hown hBw hlim (hs.tabBelow hB6)

theorem digits_pos (u : Nat) : 0 < (Lib.decDigits u).length := by
  rw [Lib.decDigits_length]; exact Lib.nDigits_pos u
theorem itoa_pos (k : Int) : 0 < (Lib.itoa k).length := by
  unfold Lib.itoa
  split
  · simp
  · exact digits_pos _
theorem digits_le (u : Nat) (hu : u < 18446744073709551616) : (Lib.decDigits u).length ≤ 20 := by
  rw [Lib.decDigits_length]; exact Lib.nDigits_le20 u hu

/-- The row behind a library's append, stored back: what the walk needs. -/
theorem WR.next {w w2 : World} {B p : Nat} {v v2 : Value} {bs m : List UInt8} (h : WR w B p v bs) (hb : Below B w w2) (hk : Lib.OthersKept 5 none w w2) (hm : 0 < m.length)
    (hown : w2.ownsRow B 5 1 v2 (bs.length + m.length) (Lib.byteCells bs ++ Lib.byteCells m)) :
    ∃ g n c, v2 = .slice (some ⟨g, 0, none⟩) n c ∧ w2.cell? ⟨p, 0, none⟩ = some v ∧ w2.frozen? ⟨p, 0, none⟩ = false ∧
      WR (w2.setCell ⟨p, 0, none⟩ (.slice (some ⟨g, 0, none⟩) n c)) B p (.slice (some ⟨g, 0, none⟩) n c) (bs ++ m) ∧ KP B p w (w2.setCell ⟨p, 0, none⟩ (.slice (some ⟨g, 0, none⟩) n c)) := by
  obtain ⟨g, c, rfl, _, _⟩ := hown.form (by omega)
  have hp := h.blk_kept hk
  obtain ⟨h1, h2⟩ := h.put (m := m) hb hk hown
  exact ⟨g, _, c, rfl, by rw [cell_of_row w2 p 0 _ _ (0, 0) hp]; rfl, by simp [World.frozen?, hp], h1, h2⟩

theorem Writer_Uint (B p u : Nat) (hu : u < 18446744073709551616) (v : Value) (bs : List UInt8) (w : World) (hs : StdG w) (hB6 : 6 ≤ B) (h : WR w B p v bs) (hl : bs.length + 22 ≤ 140737488355328) :
    Calls Tryz.prog 74 #[.pointer (some ⟨p, 0, none⟩), .int .u64 (u : Int)] w fun x w' => ∃ v', x = .returned (.pointer (some ⟨p, 0, none⟩)) ∧ WR w' B p v' (bs ++ lUint u) ∧ KP B p w w' := by
  have hc0 := h.cell
  have H := Lib.hid h
  have hlt := h.lt
  clear h
  go_enter Tryz.func74, Tryz.ntmps74
  go_wp2_with (at_builtin; go_must (refine wpList_wr1 rfl _ _ rfl H.out 110 (by omega) (by rfl) _ rfl (by rfl) ?_; intro g n1 cap w1 hc hf hw hk; have HW := Lib.hid hw; have HK1 := Lib.hid hk; clear hw hk))
  generalize World.setCell w1 ⟨p, 0, none⟩ (Value.slice (some ⟨g, 0, none⟩) n1 cap) = W1 at HW HK1 ⊢
  have HD := Lib.hid (digits_le u hu)
  go_at_call 92
  refine (AppendUint_any B (bs ++ [110]).length u hu _ _ W1 (hs.low hB6 HK1.out.below) HW.out.own HW.out.hB (by simp; omega)).mono ?_
  rintro e w2 ⟨v2, rfl, hown2, hb2, hk2⟩
  obtain ⟨g2, n2, c2, rfl, hc2, hf2, hw2, hk3⟩ := HW.out.next hb2 hk2 (digits_pos u) hown2
  have HW2 := Lib.hid hw2
  have HK2 := Lib.hid hk3
  clear hown2 hb2 hk2 hw2 hk3 hc hf hc0
  have hl1 := Lib.hid (show (bs ++ [110]).length = bs.length + 1 by simp)
  go_wp2_with (at_builtin; go_must (refine wpList_wr1 rfl _ _ rfl HW2.out 59 (by rw [List.length_append, hl1.out]; have := HD.out; omega) (by rfl) w2.heap.size (by simp [World.setCell]) (by rfl) ?_; intro g3 n3 cap3 w3 hc3 hf3 hw4 hk4; have HW3 := Lib.hid hw4; have HK4 := Lib.hid hk4; clear hw4 hk4))
  go_ret
  exact ⟨_, rfl, by simpa [lUint] using HW3.out, (HK1.out.trans HK2.out).trans HK4.out⟩

theorem itoa_le (k : Int) (h0 : -9223372036854775808 ≤ k) (h1 : k ≤ 9223372036854775807) : (Lib.itoa k).length ≤ 21 := Lib.itoa_length_le k h0 h1

theorem Writer_head (B p n : Nat) (letter : UInt8) (hn : n ≤ 9223372036854775807) (v : Value) (bs : List UInt8) (w : World) (hs : StdG w) (hB6 : 6 ≤ B) (h : WR w B p v bs) (hl : bs.length + 23 ≤ 140737488355328) :
    Calls Tryz.prog 75 #[.pointer (some ⟨p, 0, none⟩), .int .u8 (letter.toNat : Int), .int .i64 (n : Int)] w fun x w' => ∃ v', x = .returned (.tuple #[]) ∧ WR w' B p v' (bs ++ lHead letter n) ∧ KP B p w w' := by
  have hit := Lib.hid (Lib.itoa_nonneg n)
  have hc0 := h.cell
  have H := Lib.hid h
  have hlt := h.lt
  clear h
  go_enter Tryz.func75, Tryz.ntmps75
  go_wp2_with (at_builtin; go_must (refine wpList_wr1 rfl _ _ rfl H.out letter (by omega) (by rfl) _ rfl (by rfl) ?_; intro g n1 cap w1 hc hf hw hk; have HW := Lib.hid hw; have HK1 := Lib.hid hk; clear hw hk))
  generalize World.setCell w1 ⟨p, 0, none⟩ (Value.slice (some ⟨g, 0, none⟩) n1 cap) = W1 at HW HK1 ⊢
  have HD := Lib.hid (itoa_le n (by omega) (by omega))
  go_at_call 93
  refine (AppendInt_any B (bs ++ [letter]).length n (by omega) (by omega) hB6 _ _ W1 (hs.low hB6 HK1.out.below) HW.out.own HW.out.hB (by simp; omega)).mono ?_
  rintro e w2 ⟨v2, rfl, hown2, hb2, hk2⟩
  obtain ⟨g2, n2, c2, rfl, hc2, hf2, hw2, hk3⟩ := HW.out.next hb2 hk2 (itoa_pos n) hown2
  have HW2 := Lib.hid hw2
  have HK2 := Lib.hid hk3
  clear hown2 hb2 hk2 hw2 hk3 hc hf hc0
  have hl1 := Lib.hid (show (bs ++ [letter]).length = bs.length + 1 by simp)
  go_wp2_with (at_builtin; go_must (refine wpList_wr1 rfl _ _ rfl HW2.out 58 (by rw [List.length_append, hl1.out]; have := HD.out; omega) (by rfl) w2.heap.size (by simp [World.setCell]) (by rfl) ?_; intro g3 n3 cap3 w3 hc3 hf3 hw4 hk4; have HW3 := Lib.hid hw4; have HK4 := Lib.hid hk4; clear hw4 hk4))
  go_end0
  exact ⟨_, rfl, by have := HW3.out; rw [hit.out] at this; simpa [lHead] using this, (HK1.out.trans HK2.out).trans HK4.out⟩


/-- 'append(w.b, b...)' of bytes, at a writer's row. -/
theorem wpList_wrB {w : World} {B p : Nat} {v : Value} {bs : List UInt8} {ops : Array Oper} {rest : List Oper} {o : Oper} {a : Act} {Q : Exit → Act → World → Prop} (hgd : o.guard = none) (s x : Operand)
    (ho : o.op = .call { callee := .builtin .append, args := #[s, x], argTypes := #[22, 22] }) (h : WR w B p v bs) (B1 : Nat) (A : Option Addr) (m c : Nat) (t : List UInt8) (ht : Sl w B1 (.slice A m c) t) (h0 : 0 < bs.length) (hl : bs.length + t.length ≤ 140737488355328)
    (hs : a.eval s = v) (hx : a.eval x = .slice A m c)
    (hK : ∀ g n cap w1, w1.cell? ⟨p, 0, none⟩ = some v → w1.frozen? ⟨p, 0, none⟩ = false →
      WR (w1.setCell ⟨p, 0, none⟩ (.slice (some ⟨g, 0, none⟩) n cap)) B p (.slice (some ⟨g, 0, none⟩) n cap) (bs ++ t) → KP B p w (w1.setCell ⟨p, 0, none⟩ (.slice (some ⟨g, 0, none⟩) n cap)) →
      wpList Tryz.prog ops Q rest (a.put o.dst (.slice (some ⟨g, 0, none⟩) n cap)) w1) :
    wpList Tryz.prog ops Q (o :: rest) a w := by
  obtain ⟨i0, hi, hz0, hz1, hz2⟩ := info_parts info_u8
  have hB := h.hB
  refine wpList_append_sl hgd s x 22 ho B 5 i0 _ Tryz.underlying22 hi hz0 hz1 hz2 rfl v bs.length (Lib.byteCells bs) hs h.own B1 A m c t hx ht hl hB ?_
  intro v' w1 hown hgrow
  obtain ⟨g, cap, rfl, _, _⟩ := hown.form (by omega)
  have hb : Below B w w1 := (Below.refl B w).grown hgrow hB (fun k hk => (h.own.lt k hk).1)
  have hk : Lib.OthersKept 5 none w w1 := (Lib.OthersKept.refl _ _ w).grown hgrow (Lib.ownsRow_kind h.own)
  have hp := h.blk_kept hk
  obtain ⟨h1, h2⟩ := h.put (m := t) hb hk hown
  exact hK g _ cap w1 (by rw [cell_of_row w1 p 0 _ _ (0, 0) hp]; rfl) (by simp [World.frozen?, hp]) h1 h2

theorem Writer_Bool (B p : Nat) (b : Bool) (v : Value) (bs : List UInt8) (w : World) (h : WR w B p v bs) (hl : bs.length + 1 ≤ 140737488355328) :
    Calls Tryz.prog 44 #[.pointer (some ⟨p, 0, none⟩), .bool b] w fun x w' => ∃ v', x = .returned (.pointer (some ⟨p, 0, none⟩)) ∧ WR w' B p v' (bs ++ lBool b) ∧ KP B p w w' := by
  have hc0 := h.cell
  have H := Lib.hid h
  clear h
  cases b
  · go_enter Tryz.func44, Tryz.ntmps44
    go_wp2_with (at_builtin; go_must (refine wpList_wr1 rfl _ _ rfl H.out 122 (by omega) (by rfl) _ rfl (by rfl) ?_; intro g n1 cap w1 hc hf hw hk; have HW := Lib.hid hw; have HK1 := Lib.hid hk; clear hw hk))
    go_ret
    exact ⟨_, rfl, HW.out, HK1.out⟩
  · go_enter Tryz.func44, Tryz.ntmps44
    go_wp2_with (at_builtin; go_must (refine wpList_wr1 rfl _ _ rfl H.out 121 (by omega) (by rfl) _ rfl (by rfl) ?_; intro g n1 cap w1 hc hf hw hk; have HW := Lib.hid hw; have HK1 := Lib.hid hk; clear hw hk))
    go_ret
    exact ⟨_, rfl, HW.out, HK1.out⟩


theorem lHead_len (letter : UInt8) (n : Nat) (hn : n < 18446744073709551616) : 0 < (lHead letter n).length ∧ (lHead letter n).length ≤ 22 := by
  have := digits_le n hn
  simp [lHead]
  omega


theorem Writer_Bytes (B p : Nat) (A : Option Addr) (n c : Nat) (t : List UInt8) (B1 : Nat) (hB1 : B1 ≤ B) (v : Value) (bs : List UInt8) (w : World) (hs : StdG w) (hB6 : 6 ≤ B) (h : WR w B p v bs) (ht : Sl w B1 (.slice A n c) t) (hl : bs.length + 23 + t.length ≤ 140737488355328) :
    Calls Tryz.prog 45 #[.pointer (some ⟨p, 0, none⟩), .slice A n c] w fun x w' => ∃ v', x = .returned (.pointer (some ⟨p, 0, none⟩)) ∧ WR w' B p v' (bs ++ lBytes t) ∧ KP B p w w' := by
  obtain ⟨hn, _, _⟩ := ht.len
  have c1 := Lib.hid (Writer_head B p n 98 (by omega) v bs w hs hB6 h (by omega))
  have hz := lHead_len 98 n (by omega)
  have hts := Lib.hid hn
  have HZ := Lib.hid hz
  have HT := Lib.hid ht
  have hln : bs.length + 23 + n ≤ 140737488355328 := by omega
  clear h hz hn ht hl
  go_enter Tryz.func45, Tryz.ntmps45
  go_wp2_with fail
  refine c1.out.mono ?_
  rintro x w1 ⟨v1, rfl, h1, hk1⟩
  have hc1 := h1.cell
  have hl1 : 0 < (bs ++ lHead 98 n).length := by rw [List.length_append]; have := HZ.out; omega
  have hl2 : (bs ++ lHead 98 n).length + t.length ≤ 140737488355328 := by rw [List.length_append]; have := HZ.out; have := hts.out; omega
  have H1 := Lib.hid h1
  have HK1 := Lib.hid hk1
  have HL1 := Lib.hid hl1
  have HL2 := Lib.hid hl2
  have HS := Lib.hid (HT.out.below (hk1.below.mono hB1))
  clear h1 hk1 hl1 hl2
  go_wp2_with (at_builtin; go_must (refine wpList_wrB rfl _ _ rfl H1.out B1 A n c t HS.out HL1.out HL2.out (by rfl) (by rfl) ?_; intro g n1 cap w2 hc hf hw hk; have HW := Lib.hid hw; have HK2 := Lib.hid hk; clear hw hk))
  go_ret
  have hfin := HW.out
  rw [hts.out, List.append_assoc] at hfin
  exact ⟨_, rfl, hfin, HK1.out.trans HK2.out⟩

theorem copied_any (A : Option Addr) (n c : Nat) (bs : List UInt8) (w : World) (B : Nat) (h : Sl w B (.slice A n c) bs) (hl : bs.length ≤ 140737488355328) :
    Calls Tryz.prog 58 #[.slice A n c] w fun x w' => ∃ v, x = .returned v ∧ w'.ownsRow w.heap.size 5 1 v bs.length (Lib.byteCells bs) ∧ Below w.heap.size w w' := by
  obtain ⟨i0, hi, hz0, hz1, hz2⟩ := info_parts info_u8
  have H := Lib.hid h
  clear h
  go_enter Tryz.func58, Tryz.ntmps58
  go_wp2_with (at_builtin; go_must (refine wpList_append_sl rfl _ _ 22 rfl w.heap.size 5 i0 _ Tryz.underlying22 hi hz0 hz1 hz2 rfl (.slice none 0 0) 0 [] rfl (World.ownsRow_nil _ _ _ _) B A n c bs rfl H.out (by omega) (Nat.le_refl _) ?_; intro v' w1 hown hgrow))
  go_ret
  refine ⟨v', rfl, by simpa using hown, (Below.refl _ _).grown hgrow (Nat.le_refl _) (by simp [Value.ownBlock])⟩


theorem Writer_Done (B p : Nat) (v : Value) (bs : List UInt8) (w : World) (h : WR w B p v bs) (hl : bs.length ≤ 140737488355328) :
    Calls Tryz.prog 47 #[.pointer (some ⟨p, 0, none⟩)] w fun x w' => ∃ u, x = .returned u ∧ w'.ownsRow w.heap.size 5 1 u bs.length (Lib.byteCells bs) ∧ Below w.heap.size w w' := by
  have hc0 := h.cell
  have hS : Sl w w.heap.size v bs := Sl.of_own h.own _ fun g hg => (h.own.lt g hg).2
  clear h
  obtain ⟨A, c, rfl, hx⟩ := hS
  have c1 := Lib.hid (copied_any A bs.length c bs w w.heap.size ⟨A, c, rfl, hx⟩ hl)
  clear hx
  go_enter Tryz.func47, Tryz.ntmps47
  go_wp2_with (go_at_call 58; refine c1.out.mono ?_; rintro x w' ⟨u, rfl, hown, hb⟩; have HO := Lib.hid hown; have HB := Lib.hid hb; clear hown hb)
  go_ret
  exact ⟨u, rfl, HO.out, HB.out⟩

end Go.Proofs.YtfblgkcipnkhaaaGreatDoor.pk

/-
  The program's own bytes of an entry, where it lays Index, Term and Kind by Uint and the data by Bytes, one call behind the other in one statement.
-/
namespace Go.Proofs.YtfblgkcipnkhaaaGreatDoor.pk
open Go Go.RowKit
set_option maxRecDepth 100000

set_option maxHeartbeats 4000000 in
theorem EEncT_any (e : En) (A : Option Addr) (n c : Nat) (w : World) (hs : StdG w) (h : Bys w (.slice A n c) e.data) (hn : n ≤ 100000) (m : Nat) (hm : m = (encE e).length) :
    Calls Tryz.prog 46 #[.agg #[.int .i64 e.index, .int .i64 e.term, .int .i64 e.kind, .slice A n c]] w fun x w' => ∃ A1 c1, x = .returned (.slice A1 m c1) ∧ SlT w' (fun q => w.heap.size ≤ q ∧ q < w'.heap.size) (.slice A1 m c1) (encE e) ∧ Below w.heap.size w w' := by
  obtain ⟨W1, g, hW1, hg, hb1, hq, hsz⟩ := one_box w (.cells #[.int .i64 e.index, .int .i64 e.term, .int .i64 e.kind, .slice A n c] 57)
  have hln := h.len_
  have HW := Lib.hid (And.intro hW1 hg)
  have HE := Lib.hid (And.intro hb1 hq)
  obtain ⟨u0, hu0⟩ : ∃ u, u = u64 e.index := ⟨_, rfl⟩
  obtain ⟨u1, hu1⟩ : ∃ u, u = u64 e.term := ⟨_, rfl⟩
  obtain ⟨u2, hu2⟩ : ∃ u, u = u64 e.kind := ⟨_, rfl⟩
  have k0 := wrap_u64 e.index
  have k1 := wrap_u64 e.term
  have k2 := wrap_u64 e.kind
  rw [← hu0] at k0
  rw [← hu1] at k1
  rw [← hu2] at k2
  have hl0 : u0 < 18446744073709551616 := by rw [hu0]; exact u64_lt _
  have hl1 : u1 < 18446744073709551616 := by rw [hu1]; exact u64_lt _
  have hl2 : u2 < 18446744073709551616 := by rw [hu2]; exact u64_lt _
  have hlen : ∀ u, u < 18446744073709551616 → (lUint u).length ≤ 22 := fun u hu => by have := decDigits_le u hu; unfold lUint; simp; omega
  obtain ⟨b1, hb1'⟩ : ∃ b, b = [] ++ lUint u0 := ⟨_, rfl⟩
  obtain ⟨b2, hb2'⟩ : ∃ b, b = b1 ++ lUint u1 := ⟨_, rfl⟩
  obtain ⟨b3, hb3'⟩ : ∃ b, b = b2 ++ lUint u2 := ⟨_, rfl⟩
  have hfin : encE e = b3 ++ lBytes e.data := by unfold encE; rw [hb3', hb2', hb1', ← hu0, ← hu1, ← hu2, List.nil_append]
  have hz1 : b1.length ≤ 22 := by rw [hb1', List.nil_append]; exact hlen _ hl0
  have hz2 : b2.length ≤ 44 := by rw [hb2', List.length_append]; have := hlen _ hl1; omega
  have hz3 : b3.length ≤ 66 := by rw [hb3', List.length_append]; have := hlen _ hl2; omega
  have hz4 : (encE e).length ≤ 140737488355328 := by have := encE_len (e := e) (by omega); omega
  have hd0 : Below W1.heap.size W1 W1.drew := (Below.refl _ _).drew
  have hs0 : StdG W1.drew := hs.below (hb1.trans (hd0.mono hb1.size))
  obtain ⟨B, hB⟩ : ∃ B, B = W1.drew.heap.size := ⟨_, rfl⟩
  have hGB : 6 ≤ B := by rw [hB]; exact hs0.size
  have hBW : W1.heap.size = B := by rw [hB]; rfl
  have C0 := Lib.hid (New_any W1.drew)
  rw [← hB] at C0
  have C1 := Lib.hid fun v W hsW hw => Writer_Uint B B u0 hl0 v [] W hsW hGB hw (by simp)
  have C2 := Lib.hid fun v W hsW hw => Writer_Uint B B u1 hl1 v b1 W hsW hGB hw (by omega)
  have C3 := Lib.hid fun v W hsW hw => Writer_Uint B B u2 hl2 v b2 W hsW hGB hw (by omega)
  have C4 := Lib.hid fun v W hsW hw ht => Writer_Bytes B B A n c e.data B (Nat.le_refl _) v b3 W hsW hGB hw ht (by omega)
  have C5 := Lib.hid fun v W hw => Writer_Done B B v (encE e) W hw hz4
  rw [← hb1'] at C1
  rw [← hb2'] at C2
  rw [← hb3'] at C3
  rw [← hfin] at C4
  have HN := Lib.hid (And.intro h (And.intro hs (And.intro hm hBW)))
  have HS := Lib.hid fun W (hW : Below B W1 W) => hs.below (hb1.trans (hW.mono (by rw [← hBW]; exact hb1.size)))
  clear h hs hn hm hW1 hg hb1 hq hsz hu0 hu1 hu2 hl0 hl1 hl2 hlen hfin hz1 hz2 hz3 hz4 hb1' hb2' hb3' hs0 hB hGB hln
  rw [hBW] at hd0
  go_enter Tryz.func46, Tryz.ntmps46
  go_upto_region 1 with fail
  rw [← HW.out.1, ← HW.out.2]
  refine wp_region_held_drew (S := fun W => Below B W1 W) (by kernel_rfl) hd0 (fun hHeld => ?_)
  have HCL := Lib.hid fun W (hW : Below B W1 W) => cells4 ((hW.block g (by rw [← hBW]; exact obj_lt HE.out.2)).trans HE.out.2)
  clear hBW
  refine wpAnyH_take (i := 1) (oi := { dst := Option.some 4, op := Op.fieldAddr 57 (Operand.tmp 1) 0, type := 0, pos := "bytes.go:10", after := #[], guard := Option.none }) (v := .pointer (some ⟨g, 0, none⟩)) rfl (by kernel_rfl) (by kernel_rfl) (by kernel_rfl) (fun _ _ _ h => h) (Or.inl ⟨by rfl, ?_⟩) hHeld ?_
  · intro W hSw
    obtain ⟨z0, z1, z2, z3⟩ := HCL.out _ hSw
    go_simp
  simp only [Act.put, List.setIfInBounds_toArray, List.set_cons_zero, List.set_cons_succ]
  refine wpAnyH_take (i := 2) (oi := { dst := Option.some 5, op := Op.load 3 (Operand.tmp 4), type := 3, pos := "bytes.go:10", after := #[{ on := 1, ground := Ground.data }], guard := Option.none }) (v := .int .i64 e.index) rfl (by kernel_rfl) (by kernel_rfl) (by kernel_rfl) (fun _ _ _ h => h) (Or.inl ⟨by rfl, ?_⟩) hHeld ?_
  · intro W hSw
    obtain ⟨z0, z1, z2, z3⟩ := HCL.out _ hSw
    go_simp
  simp only [Act.put, List.setIfInBounds_toArray, List.set_cons_zero, List.set_cons_succ]
  refine wpAnyH_take (i := 3) (oi := { dst := Option.some 6, op := Op.convert 3 51 (Operand.tmp 5), type := 51, pos := "bytes.go:10", after := #[{ on := 2, ground := Ground.data }], guard := Option.none }) (v := .int .u64 (u0 : Int)) rfl (by kernel_rfl) (by kernel_rfl) (by kernel_rfl) (fun _ _ _ h => h) (Or.inl ⟨by rfl, ?_⟩) hHeld ?_
  · intro W hSw
    obtain ⟨z0, z1, z2, z3⟩ := HCL.out _ hSw
    go_simp
  simp only [Act.put, List.setIfInBounds_toArray, List.set_cons_zero, List.set_cons_succ]
  refine wpAnyH_take (i := 5) (oi := { dst := Option.some 8, op := Op.fieldAddr 57 (Operand.tmp 1) 1, type := 0, pos := "bytes.go:10", after := #[], guard := Option.none }) (v := .pointer (some ⟨g, 1, none⟩)) rfl (by kernel_rfl) (by kernel_rfl) (by kernel_rfl) (fun _ _ _ h => h) (Or.inl ⟨by rfl, ?_⟩) hHeld ?_
  · intro W hSw
    obtain ⟨z0, z1, z2, z3⟩ := HCL.out _ hSw
    go_simp
  simp only [Act.put, List.setIfInBounds_toArray, List.set_cons_zero, List.set_cons_succ]
  refine wpAnyH_take (i := 6) (oi := { dst := Option.some 9, op := Op.load 3 (Operand.tmp 8), type := 3, pos := "bytes.go:10", after := #[{ on := 5, ground := Ground.data }], guard := Option.none }) (v := .int .i64 e.term) rfl (by kernel_rfl) (by kernel_rfl) (by kernel_rfl) (fun _ _ _ h => h) (Or.inl ⟨by rfl, ?_⟩) hHeld ?_
  · intro W hSw
    obtain ⟨z0, z1, z2, z3⟩ := HCL.out _ hSw
    go_simp
  simp only [Act.put, List.setIfInBounds_toArray, List.set_cons_zero, List.set_cons_succ]
  refine wpAnyH_take (i := 7) (oi := { dst := Option.some 10, op := Op.convert 3 51 (Operand.tmp 9), type := 51, pos := "bytes.go:10", after := #[{ on := 6, ground := Ground.data }], guard := Option.none }) (v := .int .u64 (u1 : Int)) rfl (by kernel_rfl) (by kernel_rfl) (by kernel_rfl) (fun _ _ _ h => h) (Or.inl ⟨by rfl, ?_⟩) hHeld ?_
  · intro W hSw
    obtain ⟨z0, z1, z2, z3⟩ := HCL.out _ hSw
    go_simp
  simp only [Act.put, List.setIfInBounds_toArray, List.set_cons_zero, List.set_cons_succ]
  refine wpAnyH_take (i := 9) (oi := { dst := Option.some 12, op := Op.fieldAddr 57 (Operand.tmp 1) 2, type := 0, pos := "bytes.go:10", after := #[], guard := Option.none }) (v := .pointer (some ⟨g, 2, none⟩)) rfl (by kernel_rfl) (by kernel_rfl) (by kernel_rfl) (fun _ _ _ h => h) (Or.inl ⟨by rfl, ?_⟩) hHeld ?_
  · intro W hSw
    obtain ⟨z0, z1, z2, z3⟩ := HCL.out _ hSw
    go_simp
  simp only [Act.put, List.setIfInBounds_toArray, List.set_cons_zero, List.set_cons_succ]
  refine wpAnyH_take (i := 10) (oi := { dst := Option.some 13, op := Op.load 3 (Operand.tmp 12), type := 3, pos := "bytes.go:10", after := #[{ on := 9, ground := Ground.data }], guard := Option.none }) (v := .int .i64 e.kind) rfl (by kernel_rfl) (by kernel_rfl) (by kernel_rfl) (fun _ _ _ h => h) (Or.inl ⟨by rfl, ?_⟩) hHeld ?_
  · intro W hSw
    obtain ⟨z0, z1, z2, z3⟩ := HCL.out _ hSw
    go_simp
  simp only [Act.put, List.setIfInBounds_toArray, List.set_cons_zero, List.set_cons_succ]
  refine wpAnyH_take (i := 11) (oi := { dst := Option.some 14, op := Op.convert 3 51 (Operand.tmp 13), type := 51, pos := "bytes.go:10", after := #[{ on := 10, ground := Ground.data }], guard := Option.none }) (v := .int .u64 (u2 : Int)) rfl (by kernel_rfl) (by kernel_rfl) (by kernel_rfl) (fun _ _ _ h => h) (Or.inl ⟨by rfl, ?_⟩) hHeld ?_
  · intro W hSw
    obtain ⟨z0, z1, z2, z3⟩ := HCL.out _ hSw
    go_simp
  simp only [Act.put, List.setIfInBounds_toArray, List.set_cons_zero, List.set_cons_succ]
  refine wpAnyH_take (i := 13) (oi := { dst := Option.some 16, op := Op.fieldAddr 57 (Operand.tmp 1) 3, type := 0, pos := "bytes.go:10", after := #[], guard := Option.none }) (v := .pointer (some ⟨g, 3, none⟩)) rfl (by kernel_rfl) (by kernel_rfl) (by kernel_rfl) (fun _ _ _ h => h) (Or.inl ⟨by rfl, ?_⟩) hHeld ?_
  · intro W hSw
    obtain ⟨z0, z1, z2, z3⟩ := HCL.out _ hSw
    go_simp
  simp only [Act.put, List.setIfInBounds_toArray, List.set_cons_zero, List.set_cons_succ]
  refine wpAnyH_take (i := 14) (oi := { dst := Option.some 17, op := Op.load 22 (Operand.tmp 16), type := 22, pos := "bytes.go:10", after := #[{ on := 13, ground := Ground.data }], guard := Option.none }) (v := .slice A n c) rfl (by kernel_rfl) (by kernel_rfl) (by kernel_rfl) (fun _ _ _ h => h) (Or.inl ⟨by rfl, ?_⟩) hHeld ?_
  · intro W hSw
    obtain ⟨z0, z1, z2, z3⟩ := HCL.out _ hSw
    go_simp
  simp only [Act.put, List.setIfInBounds_toArray, List.set_cons_zero, List.set_cons_succ]
  clear k0 k1 k2
  refine wpAnyH_ready (rs := [0]) (by kernel_rfl) (by simp) ?_
  refine AllReadyH.cons (o := { dst := Option.some 3, op := Op.call { callee := Callee.value (Operand.func 42), args := #[], argTypes := #[] }, type := 78, pos := "bytes.go:10", after := #[], guard := Option.none }) rfl (fun K hK => ?_) AllReadyH.nil
  go_simp
  refine C0.out.mono ?_
  rintro y w1 ⟨rfl, hw1, hb⟩
  have hb : Below B W1 w1 := hd0.trans hb
  refine hK.out _ _ hb (fun hHeld2 => ?_)
  clear hK K hHeld
  have hHeld := hHeld2
  clear hHeld2
  have H1 := Lib.hid (And.intro hw1 hb)
  clear hw1 hb hd0
  refine wpAnyH_ready (rs := [4]) (by kernel_rfl) (by simp) ?_
  refine AllReadyH.cons (o := { dst := Option.some 7, op := Op.call { callee := Callee.value (Operand.func 74), args := #[Operand.tmp 3, Operand.tmp 6], argTypes := #[78, 51] }, type := 78, pos := "bytes.go:10", after := #[{ on := 0, ground := Ground.data }, { on := 3, ground := Ground.data }, { on := 0, ground := Ground.chain }], guard := Option.none }) rfl (fun K hK => ?_) AllReadyH.nil
  go_simp
  refine (C1.out _ _ (HS.out _ H1.out.2) H1.out.1).mono ?_
  rintro y w2 ⟨v2, rfl, hw2, hk2⟩
  have hb : Below B W1 w2 := H1.out.2.trans hk2.below
  refine hK.out _ _ hb (fun hHeld2 => ?_)
  clear hK K hHeld
  have hHeld := hHeld2
  clear hHeld2
  have H2 := Lib.hid (And.intro hw2 hb)
  clear hw2 hb hk2
  refine wpAnyH_ready (rs := [8]) (by kernel_rfl) (by simp) ?_
  refine AllReadyH.cons (o := { dst := Option.some 11, op := Op.call { callee := Callee.value (Operand.func 74), args := #[Operand.tmp 7, Operand.tmp 10], argTypes := #[78, 51] }, type := 78, pos := "bytes.go:10", after := #[{ on := 4, ground := Ground.data }, { on := 7, ground := Ground.data }, { on := 4, ground := Ground.chain }], guard := Option.none }) rfl (fun K hK => ?_) AllReadyH.nil
  go_simp
  refine (C2.out _ _ (HS.out _ H2.out.2) H2.out.1).mono ?_
  rintro y w3 ⟨v3, rfl, hw3, hk3⟩
  have hb : Below B W1 w3 := H2.out.2.trans hk3.below
  refine hK.out _ _ hb (fun hHeld2 => ?_)
  clear hK K hHeld
  have hHeld := hHeld2
  clear hHeld2
  have H3 := Lib.hid (And.intro hw3 hb)
  clear hw3 hb hk3
  refine wpAnyH_ready (rs := [12]) (by kernel_rfl) (by simp) ?_
  refine AllReadyH.cons (o := { dst := Option.some 15, op := Op.call { callee := Callee.value (Operand.func 74), args := #[Operand.tmp 11, Operand.tmp 14], argTypes := #[78, 51] }, type := 78, pos := "bytes.go:10", after := #[{ on := 8, ground := Ground.data }, { on := 11, ground := Ground.data }, { on := 8, ground := Ground.chain }], guard := Option.none }) rfl (fun K hK => ?_) AllReadyH.nil
  go_simp
  refine (C3.out _ _ (HS.out _ H3.out.2) H3.out.1).mono ?_
  rintro y w4 ⟨v4, rfl, hw4, hk4⟩
  have hb : Below B W1 w4 := H3.out.2.trans hk4.below
  refine hK.out _ _ hb (fun hHeld2 => ?_)
  clear hK K hHeld
  have hHeld := hHeld2
  clear hHeld2
  have H4 := Lib.hid (And.intro hw4 hb)
  clear hw4 hb hk4
  refine wpAnyH_ready (rs := [15]) (by kernel_rfl) (by simp) ?_
  refine AllReadyH.cons (o := { dst := Option.some 18, op := Op.call { callee := Callee.value (Operand.func 45), args := #[Operand.tmp 15, Operand.tmp 17], argTypes := #[78, 22] }, type := 78, pos := "bytes.go:10", after := #[{ on := 12, ground := Ground.data }, { on := 14, ground := Ground.data }, { on := 12, ground := Ground.chain }], guard := Option.none }) rfl (fun K hK => ?_) AllReadyH.nil
  go_simp
  refine (C4.out _ _ (HS.out _ H4.out.2) H4.out.1 (((HN.out.1.below HE.out.1).sl_.more (by rw [HN.out.2.2.2]; exact Nat.le_refl _)).below H4.out.2)).mono ?_
  rintro y w5 ⟨v5, rfl, hw5, hk5⟩
  have hb : Below B W1 w5 := H4.out.2.trans hk5.below
  refine hK.out _ _ hb (fun hHeld2 => ?_)
  clear hK K hHeld
  have hHeld := hHeld2
  clear hHeld2
  have H5 := Lib.hid (And.intro hw5 hb)
  clear hw5 hb hk5
  refine wpAnyH_ready (rs := [16]) (by kernel_rfl) (by simp) ?_
  refine AllReadyH.cons (o := { dst := Option.some 19, op := Op.call { callee := Callee.value (Operand.func 47), args := #[Operand.tmp 18], argTypes := #[78] }, type := 22, pos := "bytes.go:10", after := #[{ on := 15, ground := Ground.data }, { on := 15, ground := Ground.chain }], guard := Option.none }) rfl (fun K hK => ?_) AllReadyH.nil
  go_simp
  refine (C5.out _ _ H5.out.1).mono ?_
  rintro y w6 ⟨u, rfl, ho6, hb6⟩
  have hb : Below B W1 w6 := H5.out.2.trans (hb6.mono H5.out.1.hB)
  have hI : SlT w6 (fun q => w.heap.size ≤ q ∧ q < w6.heap.size) u (encE e) := SlT.of_own ho6 _ fun g hg => ⟨Nat.le_trans (Nat.le_trans HE.out.1.size (Nat.le_trans (Nat.le_of_eq HN.out.2.2.2) H5.out.1.hB)) (ho6.lt g hg).1, (ho6.lt g hg).2⟩
  obtain ⟨A6, c6, rfl, -, -⟩ := id hI
  rw [← HN.out.2.2.1] at hI ⊢
  refine hK.out _ _ hb (fun hHeld2 => ?_)
  clear hK K hHeld
  have hHeld := hHeld2
  clear hHeld2
  have H6 := Lib.hid (And.intro hI hb)
  clear hI hb ho6 hb6
  refine wpAnyH_take (i := 17) (oi := { dst := Option.some 2, op := Op.assign (Operand.tmp 19), type := 22, pos := "bytes.go:10", after := #[{ on := 16, ground := Ground.data }, { on := 16, ground := Ground.chain }, { on := 0, ground := Ground.phase }, { on := 1, ground := Ground.phase }, { on := 2, ground := Ground.phase }, { on := 3, ground := Ground.phase }, { on := 4, ground := Ground.phase }, { on := 5, ground := Ground.phase }, { on := 6, ground := Ground.phase }, { on := 7, ground := Ground.phase }, { on := 8, ground := Ground.phase }, { on := 9, ground := Ground.phase }, { on := 10, ground := Ground.phase }, { on := 11, ground := Ground.phase }, { on := 12, ground := Ground.phase }, { on := 13, ground := Ground.phase }, { on := 14, ground := Ground.phase }, { on := 15, ground := Ground.phase }, { on := 16, ground := Ground.phase }], guard := Option.none }) (v := .slice A6 m c6) rfl (by kernel_rfl) (by kernel_rfl) (by kernel_rfl) (fun _ _ _ h => h) (Or.inl ⟨by rfl, ?_⟩) hHeld ?_
  · intro W hSw
    go_simp
  simp only [Act.put, List.setIfInBounds_toArray, List.set_cons_zero, List.set_cons_succ]
  clear hHeld
  refine wpAnyH_done (by kernel_rfl) ?_ _
  go_wp2_with fail
  go_ret
  exact ⟨A6, c6, rfl, H6.out.1, HE.out.1.trans (H6.out.2.mono (by have := HN.out.2.2.2; have := HE.out.1.size; omega))⟩

theorem EEnc_any (e : En) (A : Option Addr) (n c : Nat) (w : World) (hs : StdG w) (h : Bys w (.slice A n c) e.data) (hn : n ≤ 100000) (m : Nat) (hm : m = (encE e).length) :
    Calls Tryz.prog 46 #[.agg #[.int .i64 e.index, .int .i64 e.term, .int .i64 e.kind, .slice A n c]] w fun x w' => ∃ A1 c1, x = .returned (.slice A1 m c1) ∧ Bys w' (.slice A1 m c1) (encE e) ∧ Below w.heap.size w w' := by
  refine (EEncT_any e A n c w hs h hn m hm).mono ?_
  rintro y w' ⟨A1, c1, rfl, hi, hb⟩
  exact ⟨A1, c1, rfl, hi.mono fun k hk => hk.2, hb⟩

end Go.Proofs.YtfblgkcipnkhaaaGreatDoor.pk
