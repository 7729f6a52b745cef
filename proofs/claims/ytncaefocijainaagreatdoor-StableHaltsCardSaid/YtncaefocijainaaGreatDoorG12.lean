import Derived.Test.YtncaefocijainaaGreatDoorG08
import Derived.Deep.DeepCutAuto
import Derived.Deep.CutBlock
import Derived.ProofKit
import Derived.Laws.OwnMore
namespace Go.Proofs.YtncaefocijainaaGreatDoor.pk
section
open Go Go.RowKit
theorem Sl.lit (w : World) (t : Nat) (bs : List UInt8) (B : Nat) (hB : w.heap.size < B) (hl : bs.length ≤ 9223372036854775807) (fz : Nat × Nat := (0, 0)) :
   Sl (w.alloc (.cells (bs.map fun b => Value.int .u8 (b.toNat : Int)).toArray t fz)) B (.slice (some ⟨w.heap.size, 0, none⟩) bs.length bs.length) bs := by
 refine ⟨some ⟨w.heap.size, 0, none⟩, bs.length, rfl, Nat.le_refl _, hl, Or.inr ⟨w.heap.size, 0, rfl, hB, fun j hj => ?_⟩⟩
 rw [cell_of_row _ w.heap.size _ _ _ fz (heap_alloc_new w _)]
 simp [List.getD, List.getElem?_eq_getElem hj]
theorem grown_below {w w' : World} (h : Below w.heap.size w w') (row : Option Nat) : w.grownBy w' row := ⟨h.os, h.tape, h.output, h.size, fun i hi _ => h.block i hi⟩
theorem grown_trans {a b c : World} {row : Option Nat} (h : a.grownBy b row) (k : b.grownBy c row) : a.grownBy c row :=
 ⟨k.os.trans h.os, k.tape.trans h.tape, k.output.trans h.output, Nat.le_trans h.size k.size, fun i hi hne => (k.block i (Nat.lt_of_lt_of_le hi h.size) hne).trans (h.block i hi hne)⟩
end
section
open Go Go.RowKit
set_option maxRecDepth 100000
def Ints (w : World) (v : Value) (zs : List Int) : Prop := IntsT w (fun k => k < w.heap.size) v zs ∧ ∀ z ∈ zs, inI z
theorem Ints.below {w w' : World} {v : Value} {zs : List Int} (h : Ints w v zs) (hb : Below w.heap.size w w') : Ints w' v zs :=
 ⟨(RowT.kept h.1 fun k hk _ => hb.block k hk).mono fun _ hk => Nat.lt_of_lt_of_le hk hb.size, h.2⟩
theorem Ints.form {w : World} {v : Value} {zs : List Int} (h : Ints w v zs) : ∃ A c, v = .slice A zs.length c ∧ zs.length ≤ c ∧ c ≤ 9223372036854775807 := RowT.form h.1
theorem Ints.at_ {w : World} {A : Option Addr} {n c : Nat} {zs : List Int} (h : Ints w (.slice A n c) zs) :
   n = zs.length ∧ n ≤ c ∧ c ≤ 9223372036854775807 ∧ (0 < n → ∃ b off, A = some ⟨b, off, none⟩ ∧ b < w.heap.size ∧ ∀ j, j < n → w.cell? ⟨b, off + j, none⟩ = some (.int .i64 (zs.getD j 0))) := by
 obtain ⟨A', c', hv, h1, h2⟩ := h.form
 injection hv with e1 e2 e3
 subst e1; subst e2; subst e3
 refine ⟨rfl, h1, h2, fun h0 => ?_⟩
 obtain ⟨-, -, -, b, off, rfl, hb, hc⟩ := RowT.at_ h.1 h0
 refine ⟨b, off, rfl, hb, fun j hj => ?_⟩
 exact hc j _ (by rw [List.getElem?_map, List.getElem?_eq_getElem hj]; simp [List.getD, List.getElem?_eq_getElem hj])
theorem Ints.len_le {w : World} {A : Option Addr} {m c : Nat} {zs : List Int} (h : Ints w (.slice A m c) zs) : m = zs.length := h.at_.1
theorem Ints.of_own {w : World} {base : Nat} {v : Value} {zs : List Int} (h : w.ownsRow base 3 1 v zs.length (zs.map (Value.int .i64))) (hi : ∀ z ∈ zs, inI z) : Ints w v zs :=
 ⟨RowT.of_own h _ fun g hg => (h.lt g hg).2, hi⟩
theorem info_int : (Tryz.prog.info? 3).map (fun i => (i.zero, i.size, i.bytes)) = some (some (.int .i64 0), 1, 8) := by kernel_rfl
theorem info_three {P : Program} {e : TypeId} {z : Value} {s b : Nat} (h : (P.info? e).map (fun i => (i.zero, i.size, i.bytes)) = some (some z, s, b)) : ∃ i, P.info? e = some i ∧ i.zero = some z ∧ i.size = s ∧ i.bytes = b := by
 cases hi : P.info? e with
 | none => rw [hi] at h; cases h
 | some i =>
   rw [hi] at h
   simp only [Option.map_some, Option.some.injEq, Prod.mk.injEq] at h
   exact ⟨i, rfl, h.1, h.2.1, h.2.2⟩
theorem below_drawn {B : Nat} {w w' : World} (h : Below B w w') (n : Nat) : Below B w (w'.drewN n) := ⟨h.os, h.tape, h.output, h.size, h.block⟩
theorem below_alloc (W : World) (bl : Obj) : Below W.heap.size W (W.alloc bl) := (Below.refl _ _).alloc (Nat.le_refl _) _
theorem RowT.lit {w : World} {g t n : Nat} {cs : List Value} {sz : Nat} (hg : w.heap[g]? = some (.cells cs.toArray t (0, 0))) (hn : cs.length = n * sz) (hm : n ≤ 9223372036854775807) : RowT w (fun _ => True) sz (.slice (some ⟨g, 0, none⟩) n n) n cs := by
 refine ⟨hn, some ⟨g, 0, none⟩, n, rfl, Nat.le_refl _, hm, Or.inr ⟨g, 0, rfl, trivial, fun j u hj => ?_⟩⟩
 rw [Nat.zero_add, cell_of_row w g _ _ _ (0, 0) hg]
 simpa using hj
section
variable {w : World} {B : Nat} {v : Value} {zs : List Int} {ops : Array Oper} {rest : List Oper} {o : Oper} {a : Act} {R : Exit → Act → World → Prop}
end
theorem own_base {w : World} {base base' e sz n : Nat} {v : Value} {xs : List Value} (h : w.ownsRow base e sz v n xs) (hb : base' ≤ base) : w.ownsRow base' e sz v n xs := by
 refine ⟨h.1, ?_⟩
 rcases h.2 with hn | ⟨g, cap, cur, rfl, h1, rest⟩
 · exact Or.inl hn
 · exact Or.inr ⟨g, cap, cur, rfl, Nat.le_trans hb h1, rest⟩
theorem own_kept {w w' : World} {base e sz n : Nat} {v : Value} {xs : List Value} (h : w.ownsRow base e sz v n xs) (hb : Below w.heap.size w w') : w'.ownsRow base e sz v n xs := by
 refine ⟨h.1, ?_⟩
 rcases h.2 with hn | ⟨g, cap, cur, rfl, h1, hg, rest⟩
 · exact Or.inl hn
 · exact Or.inr ⟨g, cap, cur, rfl, h1, (hb.block g (h.lt g rfl).2).trans hg, rest⟩
end
section
open Go Go.RowKit
set_option maxRecDepth 100000
def Bys (w : World) (v : Value) (bs : List UInt8) : Prop := SlT w (fun k => k < w.heap.size) v bs
theorem Bys.below {w w' : World} {v : Value} {bs : List UInt8} (h : Bys w v bs) (hb : Below w.heap.size w w') : Bys w' v bs :=
 (SlT.kept h fun k hk _ => hb.block k hk).mono fun _ hk => Nat.lt_of_lt_of_le hk hb.size
theorem Bys.nil_ (w : World) : Bys w (.slice none 0 0) [] := SlT.nil_ _ _
theorem Bys.form {w : World} {v : Value} {bs : List UInt8} (h : Bys w v bs) : ∃ A c, v = .slice A bs.length c ∧ bs.length ≤ c ∧ c ≤ 9223372036854775807 := by
 obtain ⟨A, c, hv, h1, h2, _⟩ := h
 exact ⟨A, c, hv, h1, h2⟩
theorem Bys.at_ {w : World} {A : Option Addr} {n c : Nat} {bs : List UInt8} (h : Bys w (.slice A n c) bs) :
   n = bs.length ∧ n ≤ c ∧ c ≤ 9223372036854775807 ∧ (0 < n → ∃ b off, A = some ⟨b, off, none⟩ ∧ b < w.heap.size ∧ ∀ j, j < n → w.cell? ⟨b, off + j, none⟩ = some (.int .u8 ((bs.getD j 0).toNat : Int))) := by
 obtain ⟨A', c', hv, h1, h2, h3⟩ := h
 injection hv with e1 e2 e3
 subst e1; subst e2; subst e3
 refine ⟨rfl, h1, h2, fun h0 => ?_⟩
 rcases h3 with h3 | ⟨b, off, rfl, hb, hc⟩
 · rw [h3] at h0; simp at h0
 · exact ⟨b, off, rfl, hb, hc⟩
theorem Bys.len_ {w : World} {A : Option Addr} {n c : Nat} {bs : List UInt8} (h : Bys w (.slice A n c) bs) : n = bs.length := h.at_.1
theorem Bys.of_own {w : World} {base e : Nat} {v : Value} {bs : List UInt8} (h : w.ownsRow base e 1 v bs.length (Lib.byteCells bs)) : Bys w v bs := SlT.of_own h _ fun g hg => (h.lt g hg).2
theorem Bys.sl_ {w : World} {v : Value} {bs : List UInt8} (h : Bys w v bs) : Sl w w.heap.size v bs := SlT.sl h
theorem Bys.of_sl {w : World} {v : Value} {bs : List UInt8} (h : Sl w w.heap.size v bs) : Bys w v bs := by
 obtain ⟨A, c, rfl, h1, h2, h3⟩ := h
 exact ⟨A, c, rfl, h1, h2, h3⟩
theorem info_byte : (Tryz.prog.info? 5).map (fun i => (i.zero, i.size, i.bytes)) = some (some (.int .u8 0), 1, 1) := by kernel_rfl
section
variable {w : World} {B : Nat} {v : Value} {xs : List UInt8} {ops : Array Oper} {rest : List Oper} {o : Oper} {a : Act} {R : Exit → Act → World → Prop}
theorem wpList_joinB (hown : w.ownsRow B 5 1 v xs.length (Lib.byteCells xs)) (hgd : o.guard = none) (s x : Operand)
   (ho : o.op = .call { callee := .builtin .append, args := #[s, x], argTypes := #[33, 33] }) (hs : a.eval s = v) (A : Option Addr) (n c : Nat) (hx : a.eval x = .slice A n c) (ys : List UInt8)
   (hy : Bys w (.slice A n c) ys) (hl : xs.length + n < 100000000000) (hB : B ≤ w.heap.size)
   (hK : ∀ v' w', w'.ownsRow B 5 1 v' (xs ++ ys).length (Lib.byteCells (xs ++ ys)) → w.grownBy w' v.ownBlock → wpList Tryz.prog ops R rest (a.put o.dst v') w') : wpList Tryz.prog ops R (o :: rest) a w := by
 obtain ⟨i0, hi, hz0, hz1, hz2⟩ := info_three info_byte
 have hn := hy.len_
 refine wpList_append_sl hgd s x 33 ho B 5 i0 _ Tryz.underlying33 hi hz0 hz1 hz2 rfl v xs.length _ hs hown w.heap.size A n c ys hx hy.sl_ (by omega) hB ?_
 intro v' w' h1 h2
 refine hK v' w' ?_ h2
 rw [List.length_append, show Lib.byteCells (xs ++ ys) = Lib.byteCells xs ++ Lib.byteCells ys from by simp [Lib.byteCells]]
 exact h1
end
end
section
open Go Go.RowKit
def okC (c : List Int) (j : Nat) : Prop := 1 ≤ c.getD j 0 ∧ c.getD j 0 ≤ 64 ∧ (0 < j → c.getD (j - 1) 0 < c.getD j 0)
def MayC (c : List Int) : Prop := (0 < c.length ∧ c.length < 8) ∧ ∀ j, j < c.length → okC c j
def okB (c : List Int) (j : Nat) : Bool := decide (1 ≤ c.getD j 0) && decide (c.getD j 0 ≤ 64) && (decide (j = 0) || decide (c.getD (j - 1) 0 < c.getD j 0))
def mayC (c : List Int) : Bool := decide (0 < c.length) && decide (c.length < 8) && (List.range c.length).all (okB c)
theorem okB_iff (c : List Int) (j : Nat) : okB c j = true ↔ okC c j := by
 unfold okB okC
 simp only [Bool.and_eq_true, Bool.or_eq_true, decide_eq_true_eq]
 constructor
 · rintro ⟨⟨h1, h2⟩, h3⟩
   exact ⟨h1, h2, fun h => by rcases h3 with h3 | h3 <;> omega⟩
 · rintro ⟨h1, h2, h3⟩
   exact ⟨⟨h1, h2⟩, (Nat.eq_zero_or_pos j).elim Or.inl fun h => Or.inr (h3 h)⟩
theorem mayC_iff (c : List Int) : mayC c = true ↔ MayC c := by
 unfold mayC MayC
 simp only [Bool.and_eq_true, decide_eq_true_eq, List.all_eq_true, List.mem_range, okB_iff]
theorem getD_mem {c : List Int} {j : Nat} (h : j < c.length) : c.getD j 0 ∈ c := by simp [List.getD, List.getElem?_eq_getElem h]
theorem mem_getD {c : List Int} {n : Int} : n ∈ c ↔ ∃ j, j < c.length ∧ c.getD j 0 = n := by
 constructor
 · intro h
   obtain ⟨j, hj, e⟩ := List.getElem_of_mem h
   exact ⟨j, hj, by simp [List.getD, List.getElem?_eq_getElem hj, e]⟩
 · rintro ⟨j, hj, rfl⟩
   exact getD_mem hj
def cntC (c s : List Int) : Nat := (c.filter fun x => decide (x ∈ s)).length
def quorumC (c s : List Int) : Bool := mayC c && decide (c.length < 2 * cntC c s)
def atLeast (l : List (Int × Int)) (n : Int) : List Int := (l.filter fun k => decide (n ≤ k.2)).map (·.1)
def stepC (c : List Int) (l : List (Int × Int)) (best : Int) (m : Int × Int) : Int := if best < m.2 ∧ quorumC c (atLeast l m.2) = true then m.2 else best
def agreedC (c : List Int) (l : List (Int × Int)) : Int := l.foldl (stepC c l) 0
end
section
open Go Go.RowKit
def cutK (t : List UInt8) (off size : Int) : List UInt8 × Bool × Nat :=
 if size < 1 ∨ 1048576 < size then ([], false, 1)
 else if off < 0 ∨ (t.length : Int) < off ∨ (off = t.length ∧ 0 < t.length) then ([], false, 4)
 else if (t.length : Int) - off ≤ size then (t.drop off.toNat, true, 0) else ((t.drop off.toNat).take size.toNat, false, 0)
end
end Go.Proofs.YtncaefocijainaaGreatDoor.pk
