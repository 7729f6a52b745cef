/-
  Items of a queue in memory; a row of items of one's own.
-/
import Derived.Test.YtojejcafahighaaDoorInts
import Derived.Test.YtojejcafahighaaDoorPureQ
import Derived.Maps.AppendAt
namespace Go.Proofs.YtojejcafahighaaDoor.pk
open Go Go.RowKit
set_option maxRecDepth 100000

def zit : It := ⟨0, 0, 0, 0⟩
theorem zit_in : zit.inI := ⟨⟨by decide, by decide⟩, ⟨by decide, by decide⟩, ⟨by decide, by decide⟩, ⟨by decide, by decide⟩⟩
/-- An item's four cells, from a place on. -/
def ItC (cs : List Value) (o : Nat) (x : It) : Prop := cs[o]? = some (.int .i64 x.term) ∧ cs[o + 1]? = some (.int .i64 x.round) ∧ cs[o + 2]? = some (.int .i64 x.index) ∧ cs[o + 3]? = some (.int .i64 x.token)
/-- A slice of items. -/
def ItsT (w : World) (T : Nat → Prop) (v : Value) (l : List It) : Prop := ∃ cs, RowT w T 4 v l.length cs ∧ ∀ j (h : j < l.length), ItC cs (j * 4) l[j]
def Its (w : World) (v : Value) (l : List It) : Prop := ItsT w (fun k => k < w.heap.size) v l ∧ ∀ x ∈ l, x.inI
/-- Items in memory that is new behind a world. -/
def FIts (w0 w : World) (v : Value) (l : List It) : Prop := ItsT w (fun k => w0.heap.size ≤ k ∧ k < w.heap.size) v l ∧ ∀ x ∈ l, x.inI
theorem ItsT.move {w w' : World} {T T' : Nat → Prop} {v : Value} {l : List It} (h : ItsT w T v l) (hk : ∀ k, T k → k < w.heap.size → w'.heap[k]? = w.heap[k]?) (ht : ∀ k, T k → T' k) : ItsT w' T' v l := by
  obtain ⟨cs, hr, he⟩ := h
  exact ⟨cs, (hr.kept hk).mono ht, he⟩
theorem Its.below {w w' : World} {v : Value} {l : List It} (h : Its w v l) (hb : Below w.heap.size w w') : Its w' v l :=
  ⟨h.1.move (fun k hk _ => hb.block k hk) fun _ hk => Nat.lt_of_lt_of_le hk hb.size, h.2⟩
theorem FIts.its {w0 w : World} {v : Value} {l : List It} (h : FIts w0 w v l) : Its w v l := ⟨h.1.move (fun _ _ _ => rfl) fun _ hk => hk.2, h.2⟩
theorem Its.nil_ (w : World) : Its w (.slice none 0 0) [] := ⟨⟨[], RowT.nil_ _ _ _, fun j h => by simp at h⟩, fun e he => by cases he⟩
theorem FIts.nil_ (w0 w : World) : FIts w0 w (.slice none 0 0) [] := ⟨⟨[], RowT.nil_ _ _ _, fun j h => by simp at h⟩, fun e he => by cases he⟩
theorem ItsT.len_ {w : World} {T : Nat → Prop} {A : Option Addr} {n c : Nat} {l : List It} (h : ItsT w T (.slice A n c) l) : n = l.length ∧ n ≤ c ∧ c ≤ 9223372036854775807 := by
  obtain ⟨cs, h, _⟩ := h
  obtain ⟨A', c', hv, h1, h2⟩ := h.form
  injection hv with e1 e2 e3
  subst e2; subst e3
  exact ⟨rfl, h1, h2⟩
theorem Its.len_ {w : World} {A : Option Addr} {n c : Nat} {l : List It} (h : Its w (.slice A n c) l) : n = l.length ∧ n ≤ c ∧ c ≤ 9223372036854775807 := h.1.len_
theorem ItsT.form {w : World} {T : Nat → Prop} {v : Value} {l : List It} (h : ItsT w T v l) : ∃ A c, v = .slice A l.length c ∧ l.length ≤ c ∧ c ≤ 9223372036854775807 := by
  obtain ⟨cs, h, _⟩ := h
  exact h.form
theorem ItsT.at_ {w : World} {T : Nat → Prop} {A : Option Addr} {m c : Nat} {l : List It} (h : ItsT w T (.slice A m c) l) (i : Nat) (hi : i < l.length) :
    ∃ b off, A = some ⟨b, off, none⟩ ∧ T b ∧ w.cell? ⟨b, off + i * 4, none⟩ = some (.int .i64 l[i].term) ∧ w.cell? ⟨b, off + i * 4 + 1, none⟩ = some (.int .i64 l[i].round) ∧
      w.cell? ⟨b, off + i * 4 + 2, none⟩ = some (.int .i64 l[i].index) ∧ w.cell? ⟨b, off + i * 4 + 3, none⟩ = some (.int .i64 l[i].token) := by
  obtain ⟨cs, hr, he⟩ := h
  obtain ⟨-, -, -, b, off, rfl, hb, hc⟩ := hr.at_ (by omega)
  obtain ⟨h0, h1, h2, h3⟩ := he i hi
  exact ⟨b, off, rfl, hb, hc _ _ h0, hc _ _ h1, hc _ _ h2, hc _ _ h3⟩

/-- A row of the call's own of items. -/
def OwnI (w : World) (B : Nat) (t : TypeId) (v : Value) (l : List It) : Prop := ∃ cs, w.ownsRow B t 4 v l.length cs ∧ ∀ j (h : j < l.length), ItC cs (j * 4) l[j]
section
variable {w w' : World} {B : Nat} {t : TypeId} {v : Value} {l : List It}
theorem OwnI.nil_ (w : World) (B : Nat) (t : TypeId) : OwnI w B t (.slice none 0 0) [] := ⟨[], World.ownsRow_nil _ _ _ _, fun j h => by simp at h⟩
theorem OwnI.lt (h : OwnI w B t v l) (g : Nat) (hg : v.ownBlock = some g) : B ≤ g ∧ g < w.heap.size := by
  obtain ⟨cs, h, _⟩ := h
  exact h.lt g hg
theorem OwnI.kept (h : OwnI w B t v l) (h1 : ∀ k, v.ownBlock = some k → w'.heap[k]? = w.heap[k]?) : OwnI w' B t v l := by
  obtain ⟨cs, ho, he⟩ := h
  refine ⟨cs, ⟨ho.1, ?_⟩, he⟩
  rcases ho.2 with hn | ⟨g, cap, cur, rfl, hb, hg, rest⟩
  · exact Or.inl hn
  · exact Or.inr ⟨g, cap, cur, rfl, hb, (h1 g rfl).trans hg, rest⟩
theorem OwnI.more (h : OwnI w B t v l) (hb : Below w.heap.size w w') : OwnI w' B t v l := h.kept fun k hk => hb.block k (h.lt k hk).2
theorem OwnI.its (h : OwnI w B t v l) (T : Nat → Prop) (hT : ∀ g, v.ownBlock = some g → T g) : ItsT w T v l := by
  obtain ⟨cs, ho, he⟩ := h
  exact ⟨cs, RowT.of_own ho _ hT, he⟩
theorem OwnI.form (h : OwnI w B t v l) {j : Nat} (hj : l.length = j) : ∃ A c, v = .slice A j c ∧ j ≤ c ∧ c ≤ 9223372036854775807 := by
  subst hj
  exact (h.its (fun _ => True) fun _ _ => trivial).form
theorem itC_append {cs ds : List Value} {o : Nat} {x : It} (h : ItC cs o x) : ItC (cs ++ ds) o x := by
  obtain ⟨h0, h1, h2, h3⟩ := h
  have lt : ∀ {k u}, cs[k]? = some u → (cs ++ ds)[k]? = some u := fun {k u} hk => by rw [List.getElem?_append_left (List.getElem?_eq_some_iff.1 hk).1]; exact hk
  exact ⟨lt h0, lt h1, lt h2, lt h3⟩
theorem run_pushIt (h : OwnI w B t v l) (ts ty : TypeId) (hts : Tryd.prog.underlying ts = some (.slice t)) (hi : (Tryd.prog.info? t).map (fun i => (i.zero, i.size, i.bytes)) = some (some (.agg #[.int .i64 0, .int .i64 0, .int .i64 0, .int .i64 0]), 4, 32))
    (g : Nat) (x : It) (hg : w.heap[g]? = some (.cells #[.int .i64 x.term, .int .i64 x.round, .int .i64 x.index, .int .i64 x.token] t (0, 0))) (hl : l.length < 100000000) (hB : B ≤ w.heap.size) :
    ∃ v' w', (Builtin.append_ #[ts, ts] ty #[v, .slice (some ⟨g, 0, none⟩) 1 1]).run Tryd.prog w = .ok v' w' ∧ OwnI w' B t v' (l ++ [x]) ∧ w.grownBy w' v.ownBlock ∧ (v'.ownBlock = v.ownBlock ∨ v'.ownBlock = some w.heap.size) := by
  obtain ⟨i0, hi, hz0, hz1, hz2⟩ := info_three hi
  obtain ⟨cs, hown, he⟩ := h
  obtain ⟨v', w', hrun, h2, h3, -, h4⟩ := run_append_own_at (P := Tryd.prog) w B ts ty t i0 _ 4 32 hts hi hz0 hz1 hz2 rfl (by omega) v l.length cs hown ⟨g, 0, none⟩ 1 1 [.int .i64 x.term, .int .i64 x.round, .int .i64 x.index, .int .i64 x.token] rfl
    (fun j u hj => by
      rw [Lib.add_plain, Nat.zero_add, cell_of_row w g _ _ _ (0, 0) hg]
      simpa using hj) (fun u hu => by
      simp only [List.mem_cons, List.not_mem_nil, or_false] at hu
      rcases hu with rfl | rfl | rfl | rfl <;> rfl) (by simp only [maxLen]; omega) (by omega) hB
  refine ⟨v', w', hrun, ⟨cs ++ [.int .i64 x.term, .int .i64 x.round, .int .i64 x.index, .int .i64 x.token], by rw [List.length_append]; exact h2, fun j hj => ?_⟩, h3, h4⟩
  have hcl : cs.length = l.length * 4 := hown.1
  by_cases hj' : j < l.length
  · rw [List.getElem_append_left hj']
    exact itC_append (he j hj')
  · have hjl : j = l.length := by rw [List.length_append] at hj; simp at hj; omega
    subst hjl
    rw [List.getElem_append_right (Nat.le_refl _)]
    simp only [Nat.sub_self, List.getElem_cons_zero]
    refine ⟨?_, ?_, ?_, ?_⟩
    all_goals
      rw [List.getElem?_append_right (by omega), hcl]
      simp
theorem wp_pushIt {o : Oper} {a : Act} {K : Act → World → Prop} {R : Exit → Act → World → Prop} (h : OwnI w B t v l) (s x : Operand) (ts : TypeId)
    (hts : Tryd.prog.underlying ts = some (.slice t)) (hi : (Tryd.prog.info? t).map (fun i => (i.zero, i.size, i.bytes)) = some (some (.agg #[.int .i64 0, .int .i64 0, .int .i64 0, .int .i64 0]), 4, 32))
    (ho : o.op = .call { callee := .builtin .append, args := #[s, x], argTypes := #[ts, ts] }) (hs : a.eval s = v) (g : Nat) (y : It) (hx : a.eval x = .slice (some ⟨g, 0, none⟩) 1 1)
    (hg : w.heap[g]? = some (.cells #[.int .i64 y.term, .int .i64 y.round, .int .i64 y.index, .int .i64 y.token] t (0, 0))) (hl : l.length < 100000000) (hB : B ≤ w.heap.size)
    (hK : ∀ v' w', OwnI w' B t v' (l ++ [y]) → w.grownBy w' v.ownBlock → (v'.ownBlock = v.ownBlock ∨ v'.ownBlock = some w.heap.size) → K (a.put o.dst v') w') : o.wp Tryd.prog a w K R := by
  obtain ⟨v', w', hrun, h1, h2, h3⟩ := run_pushIt h ts o.type hts hi g y hg hl hB
  unfold Oper.wp execOp
  simp only [ho, resolve, invoke, builtin, Sem.run_bind, Sem.run_pure, Result.andThen_ok, List.map_toArray, List.map_cons, List.map_nil, hs, hx, hrun]
  exact hK v' w' h1 h2 h3
theorem wpList_pushIt {ops : Array Oper} {rest : List Oper} {o : Oper} {a : Act} {R : Exit → Act → World → Prop} (h : OwnI w B t v l) (hgd : o.guard = none) (s x : Operand) (ts : TypeId)
    (hts : Tryd.prog.underlying ts = some (.slice t)) (hi : (Tryd.prog.info? t).map (fun i => (i.zero, i.size, i.bytes)) = some (some (.agg #[.int .i64 0, .int .i64 0, .int .i64 0, .int .i64 0]), 4, 32))
    (ho : o.op = .call { callee := .builtin .append, args := #[s, x], argTypes := #[ts, ts] }) (hs : a.eval s = v) (g : Nat) (y : It) (hx : a.eval x = .slice (some ⟨g, 0, none⟩) 1 1)
    (hg : w.heap[g]? = some (.cells #[.int .i64 y.term, .int .i64 y.round, .int .i64 y.index, .int .i64 y.token] t (0, 0))) (hl : l.length < 100000000) (hB : B ≤ w.heap.size)
    (hK : ∀ v' w', OwnI w' B t v' (l ++ [y]) → w.grownBy w' v.ownBlock → (v'.ownBlock = v.ownBlock ∨ v'.ownBlock = some w.heap.size) → wpList Tryd.prog ops R rest (a.put o.dst v') w') : wpList Tryd.prog ops R (o :: rest) a w :=
  wpList_plain hgd fun K hK' => wp_pushIt h s x ts hts hi ho hs g y hx hg hl hB fun v' w' h1 h2 h3 => hK' _ _ (hK v' w' h1 h2 h3)
end
theorem info_it : (Tryd.prog.info? 37).map (fun i => (i.zero, i.size, i.bytes)) = some (some (.agg #[.int .i64 0, .int .i64 0, .int .i64 0, .int .i64 0]), 4, 32) := by kernel_rfl
theorem info_itr : (Tryd.prog.info? 26).map (fun i => (i.zero, i.size, i.bytes)) = some (some (.agg #[.int .i64 0, .int .i64 0, .int .i64 0, .int .i64 0]), 4, 32) := by kernel_rfl

theorem one_box (w : World) (a : Obj) : ∃ W g, W = w.alloc a ∧ g = w.heap.size ∧ Below w.heap.size w W ∧ W.heap[g]? = some a ∧ W.heap.size = g + 1 := ⟨_, _, rfl, rfl, below_alloc _ _, heap_alloc_new w _, World.size_alloc _ _⟩
theorem obj_lt {w : World} {g : Nat} {o : Obj} (h : w.heap[g]? = some o) : g < w.heap.size := by
  rcases Nat.lt_or_ge g w.heap.size with hlt | hge
  · exact hlt
  · rw [Array.getElem?_eq_none hge] at h; cases h
theorem two_box (w : World) (a b : Obj) : ∃ W g0 g1, W = (w.alloc a).alloc b ∧ g0 = w.heap.size ∧ g1 = g0 + 1 ∧ Below w.heap.size w W ∧ W.heap[g0]? = some a ∧ W.heap[g1]? = some b ∧ W.heap.size = g1 + 1 := by
  refine ⟨_, _, _, rfl, rfl, rfl, (below_alloc _ _).trans ((below_alloc _ _).mono (by rw [World.size_alloc]; omega)), (heap_alloc_old _ _ (by rw [World.size_alloc]; omega)).trans (heap_alloc_new w _), ?_, by simp only [World.size_alloc]⟩
  have := heap_alloc_new (w.alloc a) b
  rw [World.size_alloc] at this
  exact this
theorem cells2 {w : World} {b t : Nat} {v0 v1 : Value} (h : w.heap[b]? = some (.cells #[v0, v1] t (0, 0))) : w.cell? ⟨b, 0, none⟩ = some v0 ∧ w.cell? ⟨b, 1, none⟩ = some v1 := by
  refine ⟨?_, ?_⟩
  all_goals
    rw [cell_of_row w b _ _ _ (0, 0) h]
    rfl
theorem cells4 {w : World} {b t : Nat} {v0 v1 v2 v3 : Value} (h : w.heap[b]? = some (.cells #[v0, v1, v2, v3] t (0, 0))) : w.cell? ⟨b, 0, none⟩ = some v0 ∧ w.cell? ⟨b, 1, none⟩ = some v1 ∧ w.cell? ⟨b, 2, none⟩ = some v2 ∧ w.cell? ⟨b, 3, none⟩ = some v3 := by
  refine ⟨?_, ?_, ?_, ?_⟩
  all_goals
    rw [cell_of_row w b _ _ _ (0, 0) h]
    rfl
/-- A queue's two cells stored. -/
def put2 (w : World) (b : Nat) (v0 v1 : Value) : World := (w.setCell ⟨b, 0, none⟩ v0).setCell ⟨b, 1, none⟩ v1
theorem put2_own {w : World} {b : Nat} {u0 u1 : Value} {t : Nat} (h : w.heap[b]? = some (.cells #[u0, u1] t (0, 0))) (v0 v1 : Value) : (put2 w b v0 v1).heap[b]? = some (.cells #[v0, v1] t (0, 0)) := by
  simp [put2, World.setCell, Array.getElem?_modify, h]
theorem set1_own {w : World} {g : Nat} {v0 v1 v : Value} {t : Nat} (h : w.heap[g]? = some (.cells #[v0, v1] t (0, 0))) : (w.setCell ⟨g, 1, none⟩ v).heap[g]? = some (.cells #[v0, v] t (0, 0)) := by
  simp [World.setCell, Array.getElem?_modify, h]
theorem frozen_own {w : World} {b t : Nat} {vs : Array Value} (h : w.heap[b]? = some (.cells vs t (0, 0))) (j : Nat) : w.frozen? ⟨b, j, none⟩ = false := frozen_of_row w b j _ _ h
/-- Behind a store into a result of a queue's two cells. -/
theorem queRes {W : World} {g2 t : Nat} {a0 a1 b0 b1 : Value} (h : W.heap[g2]? = some (.cells #[a0, a1] t (0, 0))) {B : Nat} {w : World} (hb : Below B w W) (hB : B ≤ g2) :
    ∃ WF, put2 W g2 b0 b1 = WF ∧ WF.cell? ⟨g2, 0, none⟩ = some b0 ∧ WF.cell? ⟨g2, 1, none⟩ = some b1 ∧ Below B w WF ∧ (∀ k, k ≠ g2 → WF.heap[k]? = W.heap[k]?) ∧ WF.heap.size = W.heap.size := by
  obtain ⟨z0, z1⟩ := cells2 (put2_own h b0 b1)
  exact ⟨_, rfl, z0, z1, (hb.setCell (show B ≤ _ from hB) _).setCell (show B ≤ _ from hB) _, fun k hk => by unfold put2; rw [Below.heap_setCell _ _ _ _ hk, Below.heap_setCell _ _ _ _ hk], by unfold put2; simp only [World.size_setCell]⟩
theorem put2_other (w : World) (b : Nat) (v0 v1 : Value) (k : Nat) (hk : k ≠ b) : (put2 w b v0 v1).heap[k]? = w.heap[k]? := by
  unfold put2
  rw [Below.heap_setCell _ _ _ _ hk, Below.heap_setCell _ _ _ _ hk]
theorem put2_size (w : World) (b : Nat) (v0 v1 : Value) : (put2 w b v0 v1).heap.size = w.heap.size := by unfold put2; simp only [World.size_setCell]
theorem put2_below {B b : Nat} {w0 w : World} {v0 v1 : Value} (h : Below B w0 w) (hb : B ≤ b) : Below B w0 (put2 w b v0 v1) := (h.setCell (show B ≤ _ from hb) _).setCell (show B ≤ _ from hb) _
/-- Items in memory that is not one certain block. -/
def NIts (w : World) (g : Nat) (v : Value) (l : List It) : Prop := ItsT w (fun k => k < w.heap.size ∧ k ≠ g) v l ∧ ∀ x ∈ l, x.inI
theorem NIts.its {w : World} {g : Nat} {v : Value} {l : List It} (h : NIts w g v l) : Its w v l := ⟨h.1.move (fun _ _ _ => rfl) fun _ hk => hk.1, h.2⟩
theorem NIts.below {w w' : World} {g : Nat} {v : Value} {l : List It} (h : NIts w g v l) (hb : Below w.heap.size w w') : NIts w' g v l :=
  ⟨h.1.move (fun k hk _ => hb.block k hk.1) fun k hk => ⟨Nat.lt_of_lt_of_le hk.1 hb.size, hk.2⟩, h.2⟩
theorem NIts.box {w : World} {v : Value} {l : List It} (h : Its w v l) (o : Obj) : NIts (w.alloc o) w.heap.size v l :=
  ⟨h.1.move (fun k hk _ => (below_alloc w o).block k hk) fun k hk => ⟨by rw [World.size_alloc]; omega, by omega⟩, h.2⟩
theorem FIts.n_ {w0 w : World} {g : Nat} {v : Value} {l : List It} (h : FIts w0 w v l) (hg : g < w0.heap.size) : NIts w g v l :=
  ⟨h.1.move (fun _ _ _ => rfl) fun k hk => ⟨hk.2, by have := hk.1; omega⟩, h.2⟩
theorem NIts.put {w : World} {g : Nat} {v : Value} {l : List It} (h : NIts w g v l) (a b : Value) : Its (put2 w g a b) v l :=
  ⟨h.1.move (fun k hk _ => put2_other _ _ _ _ k hk.2) fun k hk => by rw [put2_size]; exact hk.1, h.2⟩
/-- What a call may give: what it was given, and what is new behind it. -/
def Aft (T : Nat → Prop) (w w' : World) (k : Nat) : Prop := T k ∨ (w.heap.size ≤ k ∧ k < w'.heap.size)
theorem ItsT.aft_its {w w' : World} {v : Value} {l : List It} (h : ItsT w' (Aft (fun k => k < w.heap.size) w w') v l) (hb : Below w.heap.size w w') (hi : ∀ x ∈ l, x.inI) : Its w' v l :=
  ⟨h.move (fun _ _ _ => rfl) fun k hk => by have := hb.size; rcases hk with h | h <;> omega, hi⟩
theorem ItsT.aft_n {w w' : World} {g : Nat} {v : Value} {l : List It} (h : ItsT w' (Aft (fun k => k < w.heap.size ∧ k ≠ g) w w') v l) (hb : Below w.heap.size w w') (hg : g < w.heap.size) (hi : ∀ x ∈ l, x.inI) : NIts w' g v l :=
  ⟨h.move (fun _ _ _ => rfl) fun k hk => by have := hb.size; rcases hk with ⟨h1, h2⟩ | h <;> exact ⟨by omega, by omega⟩, hi⟩
/-- Numbers in memory that is new behind a world. -/
def FInts (w0 w : World) (v : Value) (zs : List Int) : Prop := IntsT w (fun k => w0.heap.size ≤ k ∧ k < w.heap.size) v zs ∧ ∀ z ∈ zs, inI z
theorem FInts.ints {w0 w : World} {v : Value} {zs : List Int} (h : FInts w0 w v zs) : Ints w v zs := ⟨RowT.mono h.1 fun _ hk => hk.2, h.2⟩
/-- Numbers in memory that is not one certain block. -/
def NInts (w : World) (g : Nat) (v : Value) (zs : List Int) : Prop := IntsT w (fun k => k < w.heap.size ∧ k ≠ g) v zs ∧ ∀ z ∈ zs, inI z
theorem FInts.n_ {w0 w : World} {g : Nat} {v : Value} {zs : List Int} (h : FInts w0 w v zs) (hg : g < w0.heap.size) : NInts w g v zs := ⟨RowT.mono h.1 fun k hk => ⟨hk.2, by have := hk.1; omega⟩, h.2⟩
theorem NInts.box {w : World} {v : Value} {zs : List Int} (h : Ints w v zs) (o : Obj) : NInts (w.alloc o) w.heap.size v zs :=
  ⟨(RowT.kept h.1 fun k hk _ => (below_alloc w o).block k hk).mono fun k hk => ⟨by rw [World.size_alloc]; omega, by omega⟩, h.2⟩
theorem NInts.put {w : World} {g : Nat} {v : Value} {zs : List Int} (h : NInts w g v zs) (a b : Value) : Ints (put2 w g a b) v zs :=
  ⟨(RowT.kept h.1 fun k hk _ => put2_other _ _ _ _ k hk.2).mono fun k hk => by rw [put2_size]; exact hk.1, h.2⟩
theorem ret_bool {a b : Bool} (h : a = b) : Ending.returned (.bool a) = Ending.returned (.bool b) := by rw [h]

end Go.Proofs.YtojejcafahighaaDoor.pk
