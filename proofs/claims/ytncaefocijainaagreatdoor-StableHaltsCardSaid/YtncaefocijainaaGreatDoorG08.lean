import Derived.Test.YtncaefocijainaaGreatDoorG06
import Derived.OwnWalk
import Derived.Lib.AppendStr
namespace Go.Proofs.YtncaefocijainaaGreatDoor.pk
section
open Go Go.RowKit
theorem byteCells_get (bs : List UInt8) (j : Nat) : (Lib.byteCells bs)[j]? = (bs[j]?).map fun b => Value.int .u8 (b.toNat : Int) := by
 simp [Lib.byteCells]
theorem Sl.of_own {w : World} {base e : Nat} {v : Value} {bs : List UInt8} (h : w.ownsRow base e 1 v bs.length (Lib.byteCells bs)) (B : Nat) (hB : ∀ g, v.ownBlock = some g → g < B) : Sl w B v bs := by
 rcases h.2 with ⟨rfl, hn⟩ | ⟨g, cap, cur, rfl, hb, hg, hnc, hcm, hcs, htk⟩
 · obtain rfl := List.eq_nil_of_length_eq_zero hn
   exact Sl.nil_ w B
 · refine ⟨some ⟨g, 0, none⟩, cap, rfl, hnc, by simp only [maxLen] at hcm; omega, ?_⟩
   right
   refine ⟨g, 0, rfl, hB g rfl, fun j hj => ?_⟩
   have hc := h.cells (g := g) rfl j (.int .u8 ((bs[j].toNat : Nat) : Int)) (by rw [byteCells_get, List.getElem?_eq_getElem hj]; rfl)
   rw [Lib.add_plain] at hc
   rw [hc]
   simp [List.getD, List.getElem?_eq_getElem hj]
theorem run_append_sl {P : Program} (w : World) (base : Nat) (t ty e : TypeId) (i : TypeInfo) (z : Value) (ht : P.underlying t = some (.slice e)) (hi : P.info? e = some i) (hz : i.zero = some z)
   (hsize : i.size = 1) (hby : i.bytes = 1) (hzs : z.cells.size = 1) (v : Value) (n : Nat) (xs : List Value) (hown : w.ownsRow base e 1 v n xs)
   (B : Nat) (A : Option Addr) (m c : Nat) (bs : List UInt8) (h : Sl w B (.slice A m c) bs) (hbytes : n + bs.length ≤ 140737488355328) (hbase : base ≤ w.heap.size) :
   ∃ v' w', (Builtin.append_ #[t, t] ty #[v, .slice A m c]).run P w = .ok v' w' ∧ w'.ownsRow base e 1 v' (n + bs.length) (xs ++ Lib.byteCells bs) ∧ w.grownBy w' v.ownBlock := by
 obtain ⟨hm, _, _⟩ := h.len
 subst hm
 have nilcase : ∀ a : Option Addr, bs = [] → (Builtin.append_ #[t, t] ty #[v, .slice none 0 c]).run P w = .ok v w := by
   intro _ _
   rcases hown.2 with ⟨rfl, rfl⟩ | ⟨g, cap, cur, rfl, _, _, hnc, _⟩
   · simp [Builtin.append_, run_underlying ht, sizeOf, typeInfo, hi, Builtin.lenOf, Builtin.firstCells]
   · simp [Builtin.append_, run_underlying ht, sizeOf, typeInfo, hi, Builtin.lenOf, Builtin.firstCells, hnc, storeCells]
 have hlen : (Lib.byteCells bs).length = bs.length * 1 := by simp [Lib.byteCells]
 have h1c : ∀ u ∈ Lib.byteCells bs, u.oneCell' = true := by
   intro u hu
   simp only [Lib.byteCells, List.mem_map] at hu
   obtain ⟨b, _, rfl⟩ := hu
   rfl
 rcases A with _ | a
 · have hbs : bs = [] := by
     obtain ⟨A', c', hv, _, _, h3⟩ := h
     rcases h3 with h3 | ⟨b, off, hA, _⟩
     · exact h3
     · injection hv with e1 _ _
       rw [hA] at e1
       cases e1
   subst hbs
   exact ⟨v, w, nilcase none rfl, by simpa [Lib.byteCells] using hown, World.grownBy.refl w _⟩
 · have hcells : ∀ j u, (Lib.byteCells bs)[j]? = some u → w.cell? (a.add j) = some u := by
     intro j u hu
     rw [byteCells_get] at hu
     obtain ⟨A', c', hv, _, _, h3⟩ := h
     rcases h3 with h3 | ⟨b, off, hA, _, hc⟩
     · subst h3; simp at hu
     · injection hv with e1 _ _
       rw [hA] at e1
       injection e1 with e1
       subst e1
       rw [Lib.add_plain]
       have hj : j < bs.length := by
         rcases Nat.lt_or_ge j bs.length with hlt | hge
         · exact hlt
         · rw [List.getElem?_eq_none hge] at hu; simp at hu
       rw [List.getElem?_eq_getElem hj] at hu
       rw [hc j hj]
       simpa [List.getD, List.getElem?_eq_getElem hj] using hu
   obtain ⟨v', w', hrun, h2, h3, _⟩ := run_append_own (P := P) w base t ty e i z 1 1 ht hi hz hsize hby hzs (by decide) v n xs hown a bs.length c (Lib.byteCells bs) hlen hcells h1c
     (by simp only [maxLen]; omega) (by omega) hbase
   exact ⟨v', w', hrun, h2, h3⟩
theorem wp_append_sl {P : Program} {w : World} {o : Oper} {a : Act} {K : Act → World → Prop} {Q : Exit → Act → World → Prop} (s x : Operand) (t : TypeId)
   (ho : o.op = .call { callee := .builtin .append, args := #[s, x], argTypes := #[t, t] })
   (base : Nat) (e : TypeId) (i : TypeInfo) (z : Value) (ht : P.underlying t = some (.slice e)) (hi : P.info? e = some i) (hz : i.zero = some z)
   (hsize : i.size = 1) (hby : i.bytes = 1) (hzs : z.cells.size = 1)
   (v : Value) (n : Nat) (xs : List Value) (hs : a.eval s = v) (hown : w.ownsRow base e 1 v n xs)
   (B : Nat) (A : Option Addr) (m c : Nat) (bs : List UInt8) (hx : a.eval x = .slice A m c) (hr : Sl w B (.slice A m c) bs) (hbytes : n + bs.length ≤ 140737488355328) (hbase : base ≤ w.heap.size)
   (h : ∀ v' w', w'.ownsRow base e 1 v' (n + bs.length) (xs ++ Lib.byteCells bs) → w.grownBy w' v.ownBlock → K (a.put o.dst v') w') : o.wp P a w K Q := by
 obtain ⟨v', w', hrun, h2, h3⟩ := run_append_sl (P := P) w base t o.type e i z ht hi hz hsize hby hzs v n xs hown B A m c bs hr hbytes hbase
 unfold Oper.wp execOp
 simp only [ho, resolve, invoke, builtin, Sem.run_bind, Sem.run_pure, Result.andThen_ok, List.map_toArray, List.map_cons, List.map_nil, hs, hx, hrun]
 exact h v' w' h2 h3
theorem wpList_append_sl {P : Program} {w : World} {ops : Array Oper} {rest : List Oper} {o : Oper} {a : Act} {Q : Exit → Act → World → Prop} (hgd : o.guard = none) (s x : Operand) (t : TypeId)
   (ho : o.op = .call { callee := .builtin .append, args := #[s, x], argTypes := #[t, t] })
   (base : Nat) (e : TypeId) (i : TypeInfo) (z : Value) (ht : P.underlying t = some (.slice e)) (hi : P.info? e = some i) (hz : i.zero = some z)
   (hsize : i.size = 1) (hby : i.bytes = 1) (hzs : z.cells.size = 1)
   (v : Value) (n : Nat) (xs : List Value) (hs : a.eval s = v) (hown : w.ownsRow base e 1 v n xs)
   (B : Nat) (A : Option Addr) (m c : Nat) (bs : List UInt8) (hx : a.eval x = .slice A m c) (hr : Sl w B (.slice A m c) bs) (hbytes : n + bs.length ≤ 140737488355328) (hbase : base ≤ w.heap.size)
   (h : ∀ v' w', w'.ownsRow base e 1 v' (n + bs.length) (xs ++ Lib.byteCells bs) → w.grownBy w' v.ownBlock → wpList P ops Q rest (a.put o.dst v') w') : wpList P ops Q (o :: rest) a w :=
 wpList_plain hgd fun _ hK => wp_append_sl s x t ho base e i z ht hi hz hsize hby hzs v n xs hs hown B A m c bs hx hr hbytes hbase fun v' w' h2 h3 => hK _ _ (h v' w' h2 h3)
theorem info_u8 : (Tryz.prog.info? 5).map (fun i => (i.zero, i.size, i.bytes)) = some (some (.int .u8 0), 1, 1) := by kernel_rfl
end
section
open Go Go.RowKit
structure Kept (S : Nat → Prop) (w w' : World) : Prop where
 os : w'.os = w.os
 tape : w'.tape = w.tape
 output : w'.output = w.output
 size : w.heap.size ≤ w'.heap.size
 block : ∀ k, k < w.heap.size → ¬ S k → w'.heap[k]? = w.heap[k]?
theorem Kept.refl (S : Nat → Prop) (w : World) : Kept S w w := ⟨rfl, rfl, rfl, Nat.le_refl _, fun _ _ _ => rfl⟩
theorem Kept.of_below {S : Nat → Prop} {w w' : World} (h : Below w.heap.size w w') : Kept S w w' := ⟨h.os, h.tape, h.output, h.size, fun k hk _ => h.block k hk⟩
theorem Kept.below {S : Nat → Prop} {w w' : World} {B : Nat} (h : Kept S w w') (hS : ∀ k, S k → B ≤ k) (hB : B ≤ w.heap.size) : Below B w w' :=
 ⟨h.os, h.tape, h.output, h.size, fun k hk => h.block k (Nat.lt_of_lt_of_le hk hB) (fun hs => by have := hS k hs; omega)⟩
theorem Kept.mono {S S' : Nat → Prop} {w w' : World} (h : Kept S w w') (hs : ∀ k, S k → S' k) : Kept S' w w' := ⟨h.os, h.tape, h.output, h.size, fun k hk hn => h.block k hk (fun hk' => hn (hs k hk'))⟩
structure Turn (S S' : Nat → Prop) (w w' : World) : Prop where
 kept : Kept S w w'
 new : ∀ k, S' k → S k ∨ w.heap.size ≤ k
theorem Turn.refl (S : Nat → Prop) (w : World) : Turn S S w w := ⟨Kept.refl _ _, fun _ h => Or.inl h⟩
theorem Turn.of_below {S : Nat → Prop} {w w' : World} (h : Below w.heap.size w w') : Turn S S w w' := ⟨Kept.of_below h, fun _ h => Or.inl h⟩
theorem Turn.trans {S S' S'' : Nat → Prop} {a b c : World} (h : Turn S S' a b) (k : Turn S' S'' b c) : Turn S S'' a c := by
 refine ⟨⟨k.kept.os.trans h.kept.os, k.kept.tape.trans h.kept.tape, k.kept.output.trans h.kept.output, Nat.le_trans h.kept.size k.kept.size, fun i hi hn => ?_⟩, fun i hi => ?_⟩
 · have hn' : ¬ S' i := fun hs => by
     rcases h.new i hs with h1 | h1
     · exact hn h1
     · omega
   exact (k.kept.block i (Nat.lt_of_lt_of_le hi h.kept.size) hn').trans (h.kept.block i hi hn)
 · rcases k.new i hi with h1 | h1
   · exact h.new i h1
   · exact Or.inr (Nat.le_trans h.kept.size h1)
theorem Turn.low {S S' : Nat → Prop} {w w' : World} {B : Nat} (h : Turn S S' w w') (hS : ∀ k, S k → B ≤ k) (hB : B ≤ w.heap.size) : ∀ k, S' k → B ≤ k := fun k hk => by
 rcases h.new k hk with h1 | h1
 · exact hS k h1
 · omega
theorem Turn.undrew {S S' : Nat → Prop} {w w' : World} (h : Turn S S' w.drew w') : Turn S S' w w' := ⟨⟨h.kept.os, h.kept.tape, h.kept.output, h.kept.size, h.kept.block⟩, h.new⟩
def Av (w : World) (S : Nat → Prop) : Nat → Prop := fun k => k < w.heap.size ∧ ¬ S k
theorem Av.turn {S S' : Nat → Prop} {w w' : World} (h : Turn S S' w w') {k : Nat} (hk : Av w S k) : Av w' S' k := by
 refine ⟨Nat.lt_of_lt_of_le hk.1 h.kept.size, fun hs => ?_⟩
 rcases h.new k hs with h1 | h1
 · exact hk.2 h1
 · have := hk.1; omega
theorem Av.block {S S' : Nat → Prop} {w w' : World} (h : Turn S S' w w') {k : Nat} (hk : Av w S k) : w'.heap[k]? = w.heap[k]? := h.kept.block k hk.1 hk.2
def SlT (w : World) (T : Nat → Prop) (v : Value) (bs : List UInt8) : Prop :=
 ∃ A c, v = .slice A bs.length c ∧ bs.length ≤ c ∧ c ≤ 9223372036854775807 ∧
   (bs = [] ∨ ∃ b off, A = some ⟨b, off, none⟩ ∧ T b ∧ ∀ j, j < bs.length → w.cell? ⟨b, off + j, none⟩ = some (.int .u8 ((bs.getD j 0).toNat : Int)))
theorem SlT.mono {w : World} {T T' : Nat → Prop} {v : Value} {bs : List UInt8} (h : SlT w T v bs) (ht : ∀ k, T k → T' k) : SlT w T' v bs := by
 obtain ⟨A, c, rfl, h1, h2, h3⟩ := h
 refine ⟨A, c, rfl, h1, h2, ?_⟩
 rcases h3 with h3 | ⟨b, off, rfl, hb, hc⟩
 · exact Or.inl h3
 · exact Or.inr ⟨b, off, rfl, ht b hb, hc⟩
theorem Sl.toT {w : World} {B : Nat} {v : Value} {bs : List UInt8} (h : Sl w B v bs) : SlT w (fun k => k < B) v bs := h
theorem SlT.sl {w : World} {T : Nat → Prop} {v : Value} {bs : List UInt8} (h : SlT w T v bs) : Sl w w.heap.size v bs := by
 obtain ⟨A, c, rfl, h1, h2, h3⟩ := h
 refine ⟨A, c, rfl, h1, h2, ?_⟩
 rcases h3 with h3 | ⟨b, off, rfl, hb, hc⟩
 · exact Or.inl h3
 · by_cases h0 : bs = []
   · exact Or.inl h0
   · have hl : 0 < bs.length := List.length_pos_iff.2 h0
     exact Or.inr ⟨b, off, rfl, World.block_lt_of_cell? w ⟨b, off + 0, none⟩ (hc 0 hl), hc⟩
theorem SlT.kept {w w' : World} {T : Nat → Prop} {v : Value} {bs : List UInt8} (h : SlT w T v bs) (hk : ∀ k, T k → k < w.heap.size → w'.heap[k]? = w.heap[k]?) : SlT w' T v bs := by
 obtain ⟨A, c, rfl, h1, h2, h3⟩ := h
 refine ⟨A, c, rfl, h1, h2, ?_⟩
 rcases h3 with h3 | ⟨b, off, rfl, hb, hc⟩
 · exact Or.inl h3
 · refine Or.inr ⟨b, off, rfl, hb, fun j hj => ?_⟩
   have := hc j hj
   exact (World.cell?_of_block (w := w) (a := ⟨b, off + j, none⟩) (hk b hb (World.block_lt_of_cell? w ⟨b, off + j, none⟩ this))).trans this
theorem SlT.turn {S S' : Nat → Prop} {w w' : World} {v : Value} {bs : List UInt8} (h : SlT w (Av w S) v bs) (ht : Turn S S' w w') : SlT w' (Av w' S') v bs :=
 (h.kept fun _ hk _ => Av.block ht hk).mono fun _ hk => Av.turn ht hk
theorem SlT.nil_ (w : World) (T : Nat → Prop) : SlT w T (.slice none 0 0) [] := ⟨none, 0, rfl, by simp, by omega, Or.inl rfl⟩
theorem SlT.form {w : World} {T : Nat → Prop} {v : Value} {bs : List UInt8} (h : SlT w T v bs) : ∃ A n c, v = .slice A n c := by
 obtain ⟨A, c, rfl, _⟩ := h
 exact ⟨_, _, _, rfl⟩
theorem SlT.cut {w : World} {T : Nat → Prop} {A : Option Addr} {c n : Nat} {bs : List UInt8} (h : SlT w T (.slice A n c) bs) {k : Nat} (hk : k ≤ bs.length) :
   SlT w T (.slice (if c = k then A else A.map (·.add k)) (n - k) (c - k)) (bs.drop k) := by
 obtain ⟨A', c', hv, h1, h2, h3⟩ := h
 injection hv with e1 e2 e3
 subst e1; subst e2; subst e3
 refine ⟨_, _, by rw [List.length_drop], by rw [List.length_drop]; omega, by omega, ?_⟩
 rcases h3 with h3 | ⟨b, off, rfl, hb, hc⟩
 · left; rw [h3]; simp
 · by_cases he : k = bs.length
   · left; exact List.drop_eq_nil_of_le (by omega)
   · right
     rw [if_neg (by omega)]
     refine ⟨b, off + k, ?_, hb, fun j hj => ?_⟩
     · by_cases h0 : k = 0
       · subst h0; simp [Addr.add]
       · simp [Addr.add, h0]
     · rw [List.length_drop] at hj
       rw [getD_drop, Nat.add_assoc]
       exact hc (k + j) (by omega)
theorem SlT.front {w : World} {T : Nat → Prop} {A : Option Addr} {c n : Nat} {bs : List UInt8} (h : SlT w T (.slice A n c) bs) {k : Nat} (hk : k ≤ bs.length) : SlT w T (.slice A k c) (bs.take k) := by
 obtain ⟨A', c', hv, h1, h2, h3⟩ := h
 injection hv with e1 e2 e3
 subst e1; subst e2; subst e3
 have hl : (bs.take k).length = k := by rw [List.length_take]; omega
 refine ⟨A, c, by rw [hl], by omega, h2, ?_⟩
 rcases h3 with h3 | ⟨b, off, rfl, hb, hc⟩
 · left; rw [h3]; simp
 · right
   refine ⟨b, off, rfl, hb, fun j hj => ?_⟩
   rw [hl] at hj
   rw [getD_take _ _ _ hj]
   exact hc j (by omega)
end
section
open Go Go.RowKit
def RowT (w : World) (T : Nat → Prop) (sz : Nat) (v : Value) (n : Nat) (cs : List Value) : Prop :=
 cs.length = n * sz ∧ ∃ A c, v = .slice A n c ∧ n ≤ c ∧ c ≤ 9223372036854775807 ∧
   (n = 0 ∨ ∃ b off, A = some ⟨b, off, none⟩ ∧ T b ∧ ∀ j u, cs[j]? = some u → w.cell? ⟨b, off + j, none⟩ = some u)
theorem RowT.mono {w : World} {T T' : Nat → Prop} {sz : Nat} {v : Value} {n : Nat} {cs : List Value} (h : RowT w T sz v n cs) (ht : ∀ k, T k → T' k) : RowT w T' sz v n cs := by
 obtain ⟨h0, A, c, rfl, h1, h2, h3⟩ := h
 refine ⟨h0, A, c, rfl, h1, h2, ?_⟩
 rcases h3 with h3 | ⟨b, off, rfl, hb, hc⟩
 · exact Or.inl h3
 · exact Or.inr ⟨b, off, rfl, ht b hb, hc⟩
theorem RowT.kept {w w' : World} {T : Nat → Prop} {sz : Nat} {v : Value} {n : Nat} {cs : List Value} (h : RowT w T sz v n cs) (hk : ∀ k, T k → k < w.heap.size → w'.heap[k]? = w.heap[k]?) : RowT w' T sz v n cs := by
 obtain ⟨h0, A, c, rfl, h1, h2, h3⟩ := h
 refine ⟨h0, A, c, rfl, h1, h2, ?_⟩
 rcases h3 with h3 | ⟨b, off, rfl, hb, hc⟩
 · exact Or.inl h3
 · refine Or.inr ⟨b, off, rfl, hb, fun j u hj => ?_⟩
   have := hc j u hj
   exact (World.cell?_of_block (w := w) (a := ⟨b, off + j, none⟩) (hk b hb (World.block_lt_of_cell? w ⟨b, off + j, none⟩ this))).trans this
theorem RowT.nil_ (w : World) (T : Nat → Prop) (sz : Nat) : RowT w T sz (.slice none 0 0) 0 [] := ⟨by simp, none, 0, rfl, by omega, by omega, Or.inl rfl⟩
theorem RowT.form {w : World} {T : Nat → Prop} {sz : Nat} {v : Value} {n : Nat} {cs : List Value} (h : RowT w T sz v n cs) : ∃ A c, v = .slice A n c ∧ n ≤ c ∧ c ≤ 9223372036854775807 := by
 obtain ⟨_, A, c, rfl, h1, h2, _⟩ := h
 exact ⟨A, c, rfl, h1, h2⟩
theorem RowT.at_ {w : World} {T : Nat → Prop} {sz : Nat} {A : Option Addr} {n n' c : Nat} {cs : List Value} (h : RowT w T sz (.slice A n' c) n cs) (hn : 0 < n) :
   n' = n ∧ n ≤ c ∧ c ≤ 9223372036854775807 ∧ ∃ b off, A = some ⟨b, off, none⟩ ∧ T b ∧ ∀ j u, cs[j]? = some u → w.cell? ⟨b, off + j, none⟩ = some u := by
 obtain ⟨_, A', c', hv, h1, h2, h3⟩ := h
 injection hv with e1 e2 e3
 subst e1; subst e2; subst e3
 rcases h3 with h3 | h3
 · omega
 · exact ⟨rfl, h1, h2, h3⟩
theorem RowT.of_own {w : World} {base e sz : Nat} {v : Value} {n : Nat} {cs : List Value} (h : w.ownsRow base e sz v n cs) (T : Nat → Prop) (hT : ∀ g, v.ownBlock = some g → T g) : RowT w T sz v n cs := by
 refine ⟨h.1, ?_⟩
 rcases h.2 with ⟨rfl, rfl⟩ | ⟨g, cap, cur, rfl, hb, hg, hnc, hcm, hcs, htk⟩
 · exact ⟨none, 0, rfl, by omega, by omega, Or.inl rfl⟩
 · refine ⟨some ⟨g, 0, none⟩, cap, rfl, hnc, by simp only [maxLen] at hcm; omega, Or.inr ⟨g, 0, rfl, hT g rfl, fun j u hj => ?_⟩⟩
   have hc := h.cells (g := g) rfl j u hj
   rw [Lib.add_plain] at hc
   exact hc
theorem RowT.front {w : World} {T : Nat → Prop} {sz : Nat} {A : Option Addr} {n n' c : Nat} {cs : List Value} (h : RowT w T sz (.slice A n' c) n cs) {k : Nat} (hk : k ≤ n) : RowT w T sz (.slice A k c) k (cs.take (k * sz)) := by
 obtain ⟨h0, A', c', hv, h1, h2, h3⟩ := h
 injection hv with e1 e2 e3
 subst e1; subst e2; subst e3
 have hm : k * sz ≤ n' * sz := Nat.mul_le_mul_right sz hk
 refine ⟨by rw [List.length_take]; omega, A, c, rfl, by omega, h2, ?_⟩
 rcases h3 with h3 | ⟨b, off, rfl, hb, hc⟩
 · left; omega
 · by_cases hk0 : k = 0
   · exact Or.inl hk0
   · refine Or.inr ⟨b, off, rfl, hb, fun j u hj => hc j u ?_⟩
     rw [List.getElem?_take] at hj
     split at hj
     · exact hj
     · cases hj
def IntsT (w : World) (T : Nat → Prop) (v : Value) (zs : List Int) : Prop := RowT w T 1 v zs.length (zs.map (Value.int .i64))
theorem SlT.row {w : World} {T : Nat → Prop} {v : Value} {bs : List UInt8} (h : SlT w T v bs) : RowT w T 1 v bs.length (Lib.byteCells bs) := by
 obtain ⟨A, c, rfl, h1, h2, h3⟩ := h
 refine ⟨by simp [Lib.byteCells], A, c, rfl, h1, h2, ?_⟩
 rcases h3 with h3 | ⟨b, off, rfl, hb, hc⟩
 · left; rw [h3]; rfl
 · refine Or.inr ⟨b, off, rfl, hb, fun j u hj => ?_⟩
   rw [byteCells_get] at hj
   obtain ⟨x, hx, rfl⟩ := Option.map_eq_some_iff.1 hj
   obtain ⟨hlt, hx'⟩ := List.getElem?_eq_some_iff.1 hx
   have := hc j hlt
   rw [this]
   simp [List.getD, hx]
theorem RowT.sl {w : World} {T : Nat → Prop} {v : Value} {bs : List UInt8} (h : RowT w T 1 v bs.length (Lib.byteCells bs)) : SlT w T v bs := by
 obtain ⟨_, A, c, rfl, h1, h2, h3⟩ := h
 refine ⟨A, c, rfl, h1, h2, ?_⟩
 rcases h3 with h3 | ⟨b, off, rfl, hb, hc⟩
 · exact Or.inl (List.eq_nil_of_length_eq_zero h3)
 · refine Or.inr ⟨b, off, rfl, hb, fun j hj => ?_⟩
   have := hc j (.int .u8 ((bs[j].toNat : Nat) : Int)) (by rw [byteCells_get, List.getElem?_eq_getElem hj]; rfl)
   rw [this]
   simp [List.getD, List.getElem?_eq_getElem hj]
theorem SlT.of_own {w : World} {base e : Nat} {v : Value} {bs : List UInt8} (h : w.ownsRow base e 1 v bs.length (Lib.byteCells bs)) (T : Nat → Prop) (hT : ∀ g, v.ownBlock = some g → T g) : SlT w T v bs := (RowT.of_own h T hT).sl
theorem sl_at {w : World} {T : Nat → Prop} {A : Option Addr} {n n' c : Nat} {bs : List UInt8} (h : SlT w T (.slice A n c) bs) (hn : bs.length = n') (h0 : 0 < n') :
   ∃ b off, A = some ⟨b, off, none⟩ ∧ ∀ t, t < n' → w.cell? ⟨b, off + t, none⟩ = some (.int .u8 ((bs.getD t 0).toNat : Int)) := by
 obtain ⟨A', c', hv, _, _, h3⟩ := h
 injection hv with e1 _ _
 subst e1
 rcases h3 with h3 | ⟨b, off, rfl, _, hc⟩
 · rw [h3] at hn; simp at hn; omega
 · exact ⟨b, off, rfl, fun t ht => hc t (by omega)⟩
def ListsT (w : World) (T : Nat → Prop) (v : Value) (ls : List (List UInt8)) : Prop :=
 ∃ cs, RowT w T 1 v ls.length cs ∧ ∀ j (h : j < ls.length), ∃ u, cs[j]? = some u ∧ SlT w T u ls[j]
def inI (n : Int) : Prop := -9223372036854775808 ≤ n ∧ n ≤ 9223372036854775807
def er (k : Nat) : Value := if k = 0 then .nilIface else .iface 69 (.int .i64 (k : Int))
theorem er_zero : er 0 = .nilIface := rfl
theorem er_ne {k : Nat} (hk : k ≠ 0) : er k = .iface 69 (.int .i64 (k : Int)) := by unfold er; rw [if_neg hk]
end
section
open Go Go.RowKit
theorem run_append_row {P : Program} (w : World) (base : Nat) (t ty e : TypeId) (i : TypeInfo) (z : Value) (size bytes : Nat) (ht : P.underlying t = some (.slice e)) (hi : P.info? e = some i) (hz : i.zero = some z)
   (hsize : i.size = size) (hby : i.bytes = bytes) (hzs : z.cells.size = size) (hs0 : 0 < size) (v : Value) (n : Nat) (xs : List Value) (hown : w.ownsRow base e size v n xs)
   (T : Nat → Prop) (A : Option Addr) (m c : Nat) (cs : List Value) (h : RowT w T size (.slice A m c) m cs) (h1c : ∀ u ∈ cs, u.oneCell' = true) (hmax : n + m ≤ maxLen) (hbytes : (n + m) * bytes ≤ 140737488355328) (hbase : base ≤ w.heap.size) :
   ∃ v' w', (Builtin.append_ #[t, t] ty #[v, .slice A m c]).run P w = .ok v' w' ∧ w'.ownsRow base e size v' (n + m) (xs ++ cs) ∧ w.grownBy w' v.ownBlock := by
 obtain ⟨hlen, A', c', hv, hmc, hcm, h3⟩ := h
 injection hv with e1 e2 e3
 subst e1; subst e3
 have nilcase : m = 0 → (Builtin.append_ #[t, t] ty #[v, .slice none 0 c]).run P w = .ok v w := by
   intro _
   rcases hown.2 with ⟨rfl, rfl⟩ | ⟨g, cap, cur, rfl, _, _, hnc, _⟩
   · simp [Builtin.append_, run_underlying ht, sizeOf, typeInfo, hi, Builtin.lenOf, Builtin.firstCells]
   · simp [Builtin.append_, run_underlying ht, sizeOf, typeInfo, hi, Builtin.lenOf, Builtin.firstCells, hnc, storeCells]
 rcases A with _ | a
 · have hm0 : m = 0 := by
     rcases h3 with h3 | ⟨b, off, hA, _⟩
     · exact h3
     · cases hA
   subst hm0
   have hcs : cs = [] := List.eq_nil_of_length_eq_zero (by simpa using hlen)
   subst hcs
   exact ⟨v, w, nilcase rfl, by simpa using hown, World.grownBy.refl w _⟩
 · have hcells : ∀ j u, cs[j]? = some u → w.cell? (a.add j) = some u := by
     intro j u hu
     rcases h3 with h3 | ⟨b, off, hA, _, hc⟩
     · subst h3
       have hcs : cs = [] := List.eq_nil_of_length_eq_zero (by simpa using hlen)
       subst hcs
       simp at hu
     · injection hA with hA
       subst hA
       rw [Lib.add_plain]
       exact hc j u hu
   obtain ⟨v', w', hrun, h2, h3, _⟩ := run_append_own (P := P) w base t ty e i z size bytes ht hi hz hsize hby hzs hs0 v n xs hown a m c cs hlen hcells h1c hmax hbytes hbase
   exact ⟨v', w', hrun, h2, h3⟩
theorem wpList_append_row {P : Program} {w : World} {ops : Array Oper} {rest : List Oper} {o : Oper} {a : Act} {Q : Exit → Act → World → Prop} (hgd : o.guard = none) (s x : Operand) (t : TypeId)
   (ho : o.op = .call { callee := .builtin .append, args := #[s, x], argTypes := #[t, t] })
   (base : Nat) (e : TypeId) (i : TypeInfo) (z : Value) (size bytes : Nat) (ht : P.underlying t = some (.slice e)) (hi : P.info? e = some i) (hz : i.zero = some z)
   (hsize : i.size = size) (hby : i.bytes = bytes) (hzs : z.cells.size = size) (hs0 : 0 < size) (v : Value) (n : Nat) (xs : List Value) (hs : a.eval s = v) (hown : w.ownsRow base e size v n xs)
   (T : Nat → Prop) (A : Option Addr) (m c : Nat) (cs : List Value) (hx : a.eval x = .slice A m c) (h : RowT w T size (.slice A m c) m cs) (h1c : ∀ u ∈ cs, u.oneCell' = true) (hmax : n + m ≤ maxLen) (hbytes : (n + m) * bytes ≤ 140737488355328) (hbase : base ≤ w.heap.size)
   (hK : ∀ v' w', w'.ownsRow base e size v' (n + m) (xs ++ cs) → w.grownBy w' v.ownBlock → wpList P ops Q rest (a.put o.dst v') w') : wpList P ops Q (o :: rest) a w :=
 wpList_plain hgd fun K hK' => by
   obtain ⟨v', w', hrun, h2, h3⟩ := run_append_row (P := P) w base t o.type e i z size bytes ht hi hz hsize hby hzs hs0 v n xs hown T A m c cs h h1c hmax hbytes hbase
   unfold Oper.wp execOp
   simp only [ho, resolve, invoke, builtin, Sem.run_bind, Sem.run_pure, Result.andThen_ok, List.map_toArray, List.map_cons, List.map_nil, hs, hx, hrun]
   exact hK' _ _ (hK v' w' h2 h3)
end
end Go.Proofs.YtncaefocijainaaGreatDoor.pk
