import Derived.Test.YtncaefocijainaaGreatDoorG12
import Derived.Test.YtncaefocijainaaGreatDoorG06
import Derived.Maps.AppendAt
import Derived.Lib.LaidTab
namespace Go.Proofs.YtncaefocijainaaGreatDoor.pk
open Go Go.RowKit
set_option maxRecDepth 100000
section
theorem RowT.cut {w : World} {T : Nat → Prop} {sz : Nat} {A : Option Addr} {n n' c : Nat} {cs : List Value} (h : RowT w T sz (.slice A n' c) n cs) {k : Nat} (hk : k ≤ n) :
   RowT w T sz (.slice (if c = k then A else A.map (·.add (k * sz))) (n - k) (c - k)) (n - k) (cs.drop (k * sz)) := by
 obtain ⟨h0, A', c', hv, h1, h2, h3⟩ := h
 injection hv with e1 e2 e3
 subst e1; subst e2; subst e3
 refine ⟨by rw [List.length_drop, h0, Nat.sub_mul], _, _, rfl, by omega, by omega, ?_⟩
 rcases h3 with h3 | ⟨b, off, rfl, hb, hc⟩
 · left; omega
 · by_cases he : k = n'
   · left; omega
   · right
     rw [if_neg (by omega)]
     refine ⟨b, off + k * sz, ?_, hb, fun j u hj => ?_⟩
     · by_cases h0 : k * sz = 0
       · rw [h0]; simp [Addr.add]
       · simp [Addr.add, h0]
     · rw [Nat.add_assoc]
       refine hc _ u ?_
       rw [List.getElem?_drop] at hj
       exact hj
def En.ok (e : En) : Prop := inI e.index ∧ inI e.term ∧ inI e.kind
theorem ze_ok : ze.ok := ⟨⟨by decide, by decide⟩, ⟨by decide, by decide⟩, ⟨by decide, by decide⟩⟩
def EnC (w : World) (T : Nat → Prop) (cs : List Value) (o : Nat) (e : En) : Prop :=
 cs[o]? = some (.int .i64 e.index) ∧ cs[o + 1]? = some (.int .i64 e.term) ∧ cs[o + 2]? = some (.int .i64 e.kind) ∧ ∃ u, cs[o + 3]? = some u ∧ SlT w T u e.data
theorem EnC.move {w w' : World} {T T' : Nat → Prop} {cs : List Value} {o : Nat} {e : En} (h : EnC w T cs o e) (hk : ∀ k, T k → k < w.heap.size → w'.heap[k]? = w.heap[k]?) (ht : ∀ k, T k → T' k) : EnC w' T' cs o e := by
 obtain ⟨h0, h1, h2, u, h3, h4⟩ := h
 exact ⟨h0, h1, h2, u, h3, (h4.kept hk).mono ht⟩
def EntsT (w : World) (T : Nat → Prop) (v : Value) (l : List En) : Prop := ∃ cs, RowT w T 4 v l.length cs ∧ ∀ j (h : j < l.length), EnC w T cs (j * 4) l[j]
theorem EntsT.move {w w' : World} {T T' : Nat → Prop} {v : Value} {l : List En} (h : EntsT w T v l) (hk : ∀ k, T k → k < w.heap.size → w'.heap[k]? = w.heap[k]?) (ht : ∀ k, T k → T' k) : EntsT w' T' v l := by
 obtain ⟨cs, hr, he⟩ := h
 exact ⟨cs, (hr.kept hk).mono ht, fun j hj => (he j hj).move hk ht⟩
def Ents (w : World) (v : Value) (l : List En) : Prop := EntsT w (fun k => k < w.heap.size) v l ∧ ∀ e ∈ l, e.ok
def SmallE (k d : Nat) (l : List En) : Prop := l.length ≤ k ∧ ∀ e ∈ l, e.data.length ≤ d
theorem Ents.below {w w' : World} {v : Value} {l : List En} (h : Ents w v l) (hb : Below w.heap.size w w') : Ents w' v l :=
 ⟨h.1.move (fun k hk _ => hb.block k hk) fun _ hk => Nat.lt_of_lt_of_le hk hb.size, h.2⟩
theorem Ents.form {w : World} {v : Value} {l : List En} (h : Ents w v l) : ∃ A c, v = .slice A l.length c ∧ l.length ≤ c ∧ c ≤ 9223372036854775807 := by
 obtain ⟨⟨cs, h, _⟩, _⟩ := h
 exact h.form
theorem Ents.len_ {w : World} {A : Option Addr} {n c : Nat} {l : List En} (h : Ents w (.slice A n c) l) : n = l.length ∧ n ≤ c ∧ c ≤ 9223372036854775807 := by
 obtain ⟨A', c', hv, h1, h2⟩ := h.form
 injection hv with e1 e2 e3
 subst e2; subst e3
 exact ⟨rfl, h1, h2⟩
theorem Ents.at_ {w : World} {A : Option Addr} {m c : Nat} {l : List En} (h : Ents w (.slice A m c) l) (i : Nat) (hi : i < l.length) :
   ∃ b off Ad cd, A = some ⟨b, off, none⟩ ∧ b < w.heap.size ∧ l[i].ok ∧ w.cell? ⟨b, off + i * 4, none⟩ = some (.int .i64 l[i].index) ∧ w.cell? ⟨b, off + i * 4 + 1, none⟩ = some (.int .i64 l[i].term) ∧
     w.cell? ⟨b, off + i * 4 + 2, none⟩ = some (.int .i64 l[i].kind) ∧ w.cell? ⟨b, off + i * 4 + 3, none⟩ = some (.slice Ad l[i].data.length cd) ∧ Bys w (.slice Ad l[i].data.length cd) l[i].data := by
 obtain ⟨⟨cs, hr, he⟩, hok⟩ := h
 obtain ⟨-, -, -, b, off, rfl, hb, hc⟩ := hr.at_ (by omega)
 obtain ⟨h0, h1, h2, u, hu, hs⟩ := he i hi
 have hs' := hs
 obtain ⟨Ad, cd, rfl, _⟩ := hs
 exact ⟨b, off, Ad, cd, rfl, hb, hok _ (List.getElem_mem hi), hc _ _ h0, hc _ _ h1, hc _ _ h2, hc _ _ hu, hs'⟩
theorem Ents.drop_ {w : World} {A : Option Addr} {m c : Nat} {l : List En} (h : Ents w (.slice A m c) l) {k : Nat} (hk : k ≤ m) : Ents w (.slice (if c = k then A else A.map (·.add (k * 4))) (m - k) (c - k)) (l.drop k) := by
 have hl := h.len_.1
 subst hl
 obtain ⟨⟨cs, hr, he⟩, hok⟩ := h
 refine ⟨⟨cs.drop (k * 4), by rw [List.length_drop]; exact hr.cut hk, fun j hj => ?_⟩, fun e he => hok e (List.mem_of_mem_drop he)⟩
 rw [List.length_drop] at hj
 obtain ⟨h0, h1, h2, u, h3, h4⟩ := he (k + j) (by omega)
 simp only [EnC, List.getElem?_drop, List.getElem_drop]
 have e0 : k * 4 + j * 4 = (k + j) * 4 := by omega
 refine ⟨by rw [e0]; exact h0, ?_, ?_, u, ?_, h4⟩
 · rw [← Nat.add_assoc, e0]; exact h1
 · rw [← Nat.add_assoc, e0]; exact h2
 · rw [← Nat.add_assoc, e0]; exact h3
def FEnts (w0 w : World) (v : Value) (l : List En) : Prop := EntsT w (fun k => w0.heap.size ≤ k ∧ k < w.heap.size) v l ∧ ∀ e ∈ l, e.ok
def OwnE (w : World) (B : Nat) (Q : Nat → Prop) (t : TypeId) (v : Value) (l : List En) : Prop :=
 ∃ cs, w.ownsRow B t 4 v l.length cs ∧ ∀ j (h : j < l.length), EnC w (fun k => Q k ∧ k < w.heap.size ∧ v.ownBlock ≠ some k) cs (j * 4) l[j]
section
variable {w w' : World} {B : Nat} {Q : Nat → Prop} {t : TypeId} {v : Value} {l : List En}
theorem OwnE.nil_ (w : World) (B : Nat) (Q : Nat → Prop) (t : TypeId) : OwnE w B Q t (.slice none 0 0) [] := ⟨[], World.ownsRow_nil _ _ _ _, fun j h => by simp at h⟩
theorem OwnE.lt (h : OwnE w B Q t v l) (g : Nat) (hg : v.ownBlock = some g) : B ≤ g ∧ g < w.heap.size := by
 obtain ⟨cs, h, _⟩ := h
 exact h.lt g hg
theorem OwnE.kept (h : OwnE w B Q t v l) (h1 : ∀ k, k < w.heap.size → (Q k ∨ v.ownBlock = some k) → w'.heap[k]? = w.heap[k]?) (hs : w.heap.size ≤ w'.heap.size) : OwnE w' B Q t v l := by
 obtain ⟨cs, ho, he⟩ := h
 refine ⟨cs, ?_, fun j hj => ?_⟩
 · have hlt := ho.lt
   refine ⟨ho.1, ?_⟩
   rcases ho.2 with hn | ⟨g, cap, cur, rfl, hb, hg, rest⟩
   · exact Or.inl hn
   · exact Or.inr ⟨g, cap, cur, rfl, hb, (h1 g (hlt g rfl).2 (Or.inr rfl)).trans hg, rest⟩
 · exact (he j hj).move (fun k hk _ => h1 k hk.2.1 (Or.inl hk.1)) fun k hk => ⟨hk.1, Nat.lt_of_lt_of_le hk.2.1 hs, hk.2.2⟩
theorem OwnE.more (h : OwnE w B Q t v l) (hb : Below w.heap.size w w') : OwnE w' B Q t v l := h.kept (fun k hk _ => hb.block k hk) hb.size
theorem OwnE.form (h : OwnE w B Q t v l) {j : Nat} (hj : l.length = j) : ∃ A c, v = .slice A j c ∧ j ≤ c ∧ c ≤ 9223372036854775807 := by
 subst hj
 obtain ⟨cs, ho, -⟩ := h
 exact (RowT.of_own ho (fun _ => True) fun _ _ => trivial).form
theorem OwnE.entsT (h : OwnE w B Q t v l) (T : Nat → Prop) (h1 : ∀ k, Q k → k < w.heap.size → T k) (h2 : ∀ k, B ≤ k → k < w.heap.size → T k) : EntsT w T v l := by
 have hlt := h.lt
 obtain ⟨cs, ho, he⟩ := h
 exact ⟨cs, RowT.of_own ho _ fun g hg => h2 g (hlt g hg).1 (hlt g hg).2, fun j hj => (he j hj).move (fun _ _ _ => rfl) fun _ hk => h1 _ hk.1 hk.2.1⟩
theorem wpList_pushE {ops : Array Oper} {rest : List Oper} {o : Oper} {a : Act} {R : Exit → Act → World → Prop} (h : OwnE w B Q t v l) (hgd : o.guard = none) (s x : Operand) (ts : TypeId)
   (hts : Tryz.prog.underlying ts = some (.slice t)) (hi : (Tryz.prog.info? t).map (fun i => (i.zero, i.size, i.bytes)) = some (some (.agg #[.int .i64 0, .int .i64 0, .int .i64 0, .slice none 0 0]), 4, 48))
   (ho : o.op = .call { callee := .builtin .append, args := #[s, x], argTypes := #[ts, ts] }) (hs : a.eval s = v) (g : Nat) (e : En) (A : Option Addr) (c : Nat) (hx : a.eval x = .slice (some ⟨g, 0, none⟩) 1 1)
   (hg : w.heap[g]? = some (.cells #[.int .i64 e.index, .int .i64 e.term, .int .i64 e.kind, .slice A e.data.length c] t (0, 0))) (hy : SlT w (fun k => Q k ∧ k < w.heap.size ∧ v.ownBlock ≠ some k) (.slice A e.data.length c) e.data) (hl : l.length < 100000000) (hB : B ≤ w.heap.size)
   (hK : ∀ v' w', OwnE w' B Q t v' (l ++ [e]) → w.grownBy w' v.ownBlock → (v'.ownBlock = v.ownBlock ∨ v'.ownBlock = some w.heap.size) → wpList Tryz.prog ops R rest (a.put o.dst v') w') : wpList Tryz.prog ops R (o :: rest) a w :=
 wpList_plain hgd fun K hK' => by
   obtain ⟨i0, hi, hz0, hz1, hz2⟩ := info_parts hi
   obtain ⟨cs, hown, he⟩ := h
   obtain ⟨v', w', hrun, h2, h3, -, h4⟩ := run_append_own_at (P := Tryz.prog) w B ts o.type t i0 _ 4 48 hts hi hz0 hz1 hz2 rfl (by omega) v l.length cs hown ⟨g, 0, none⟩ 1 1 [.int .i64 e.index, .int .i64 e.term, .int .i64 e.kind, .slice A e.data.length c] rfl
     (fun j u hj => by
       rw [Lib.add_plain, Nat.zero_add, cell_of_row w g _ _ _ (0, 0) hg]
       simpa using hj) (fun u hu => by
       simp only [List.mem_cons, List.not_mem_nil, or_false] at hu
       rcases hu with rfl | rfl | rfl | rfl <;> rfl) (by simp only [maxLen]; omega) (by omega) hB
   unfold Oper.wp execOp
   simp only [ho, resolve, invoke, builtin, Sem.run_bind, Sem.run_pure, Result.andThen_ok, List.map_toArray, List.map_cons, List.map_nil, hs, hx, hrun]
   have hcl : cs.length = l.length * 4 := hown.1
   refine hK' _ _ (hK v' w' ⟨cs ++ [.int .i64 e.index, .int .i64 e.term, .int .i64 e.kind, .slice A e.data.length c], by rw [List.length_append]; exact h2, fun j hj => ?_⟩ h3 h4)
   have hT : ∀ k, (Q k ∧ k < w.heap.size ∧ v.ownBlock ≠ some k) → (Q k ∧ k < w'.heap.size ∧ v'.ownBlock ≠ some k) := fun k hk => ⟨hk.1, Nat.lt_of_lt_of_le hk.2.1 h3.size, fun e => by
     rcases h4 with h4 | h4
     · exact hk.2.2 (h4 ▸ e)
     · rw [h4] at e; injection e with e; have := hk.2.1; omega⟩
   have hblk : ∀ k, (Q k ∧ k < w.heap.size ∧ v.ownBlock ≠ some k) → k < w.heap.size → w'.heap[k]? = w.heap[k]? := fun k hk hl => h3.block k hl (fun e => hk.2.2 e.symm)
   by_cases hj' : j < l.length
   · obtain ⟨h0, h1, h2, u, hu, hsl⟩ := he j hj'
     have hlt : j * 4 + 3 < cs.length := by omega
     rw [List.getElem_append_left hj']
     exact ⟨by rw [List.getElem?_append_left (by omega)]; exact h0, by rw [List.getElem?_append_left (by omega)]; exact h1, by rw [List.getElem?_append_left (by omega)]; exact h2, u, by rw [List.getElem?_append_left (by omega)]; exact hu, (hsl.kept hblk).mono hT⟩
   · have hjl : j = l.length := by rw [List.length_append] at hj; simp at hj; omega
     subst hjl
     rw [List.getElem_append_right (Nat.le_refl _)]
     simp only [Nat.sub_self, List.getElem_cons_zero]
     refine ⟨?_, ?_, ?_, _, ?_, (hy.kept hblk).mono hT⟩
     all_goals
       rw [List.getElem?_append_right (by omega), hcl]
       simp
end
theorem info_ent : (Tryz.prog.info? 151).map (fun i => (i.zero, i.size, i.bytes)) = some (some (.agg #[.int .i64 0, .int .i64 0, .int .i64 0, .slice none 0 0]), 4, 48) := by kernel_rfl
theorem cells3 {w : World} {b t : Nat} {v0 v1 v2 : Value} (h : w.heap[b]? = some (.cells #[v0, v1, v2] t (0, 0))) : w.cell? ⟨b, 0, none⟩ = some v0 ∧ w.cell? ⟨b, 1, none⟩ = some v1 ∧ w.cell? ⟨b, 2, none⟩ = some v2 := by
 refine ⟨?_, ?_, ?_⟩
 all_goals
   rw [cell_of_row w b _ _ _ (0, 0) h]
   rfl
theorem one_box (w : World) (a : Obj) : ∃ W g, W = w.alloc a ∧ g = w.heap.size ∧ Below w.heap.size w W ∧ W.heap[g]? = some a ∧ W.heap.size = g + 1 := ⟨_, _, rfl, rfl, below_alloc _ _, heap_alloc_new w _, World.size_alloc _ _⟩
theorem obj_lt {w : World} {g : Nat} {o : Obj} (h : w.heap[g]? = some o) : g < w.heap.size := by
 rcases Nat.lt_or_ge g w.heap.size with hlt | hge
 · exact hlt
 · rw [Array.getElem?_eq_none hge] at h; cases h
theorem two_box (w : World) (a b : Obj) : ∃ W g0 g1, W = (w.alloc a).alloc b ∧ g0 = w.heap.size ∧ g1 = g0 + 1 ∧ Below w.heap.size w W ∧ W.heap[g0]? = some a ∧ W.heap[g1]? = some b ∧ W.heap.size = g1 + 1 := by
 refine ⟨_, _, _, rfl, rfl, rfl, (below_alloc _ _).trans ((below_alloc _ _).mono (by rw [World.size_alloc]; omega)), (heap_alloc_old _ _ (by rw [World.size_alloc]; omega)).trans (heap_alloc_new w _), ?_, by simp only [World.size_alloc]⟩
 have := heap_alloc_new (w.alloc a) b
 rw [World.size_alloc] at this
 exact this
theorem cells4 {w : World} {b t : Nat} {v0 v1 v2 v3 : Value} (h : w.heap[b]? = some (.cells #[v0, v1, v2, v3] t (0, 0))) : w.cell? ⟨b, 0, none⟩ = some v0 ∧ w.cell? ⟨b, 1, none⟩ = some v1 ∧ w.cell? ⟨b, 2, none⟩ = some v2 ∧ w.cell? ⟨b, 3, none⟩ = some v3 := by
 refine ⟨?_, ?_, ?_, ?_⟩
 all_goals
   rw [cell_of_row w b _ _ _ (0, 0) h]
   rfl
def put4 (w : World) (b : Nat) (v0 v1 v2 v3 : Value) : World := (((w.setCell ⟨b, 0, none⟩ v0).setCell ⟨b, 1, none⟩ v1).setCell ⟨b, 2, none⟩ v2).setCell ⟨b, 3, none⟩ v3
theorem put4_own {w : World} {b : Nat} {u0 u1 u2 u3 : Value} {t : Nat} (h : w.heap[b]? = some (.cells #[u0, u1, u2, u3] t (0, 0))) (v0 v1 v2 v3 : Value) : (put4 w b v0 v1 v2 v3).heap[b]? = some (.cells #[v0, v1, v2, v3] t (0, 0)) := by
 simp [put4, World.setCell, Array.getElem?_modify, h]
theorem put4_below {B : Nat} {w W : World} {b : Nat} {v0 v1 v2 v3 : Value} (h : Below B w W) (hb : B ≤ b) : Below B w (put4 W b v0 v1 v2 v3) := (((h.setCell (show B ≤ _ from hb) _).setCell (show B ≤ _ from hb) _).setCell (show B ≤ _ from hb) _).setCell (show B ≤ _ from hb) _
theorem frozen_own {w : World} {b t : Nat} {vs : Array Value} (h : w.heap[b]? = some (.cells vs t (0, 0))) (j : Nat) : w.frozen? ⟨b, j, none⟩ = false := frozen_of_row w b j _ _ h
end
section
structure StdG (w : World) : Prop where
 tab : Lib.TabIs Tryz.prog w "internal/strconv.uint64pow10" .u64 Lib.pow10Tab
 size : 6 ≤ w.heap.size
theorem gTabG : Tryz.prog.globalNamed "internal/strconv.uint64pow10" = some 1 := by kernel_rfl
theorem StdG.below {w w' : World} (h : StdG w) (hb : Below w.heap.size w w') : StdG w' :=
 ⟨var?_below hb gTabG (by have := h.size; omega) h.tab, Nat.le_trans h.size hb.size⟩
end
end Go.Proofs.YtncaefocijainaaGreatDoor.pk
