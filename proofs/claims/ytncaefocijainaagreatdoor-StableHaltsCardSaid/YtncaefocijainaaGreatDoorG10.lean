import Derived.Test.YtncaefocijainaaGreatDoorG08
import Derived.OwnWalk
import Derived.Maps.AppendAt
namespace Go.Proofs.YtncaefocijainaaGreatDoor.pk
open Go Go.RowKit
set_option maxRecDepth 100000
section
theorem info_bytes : (Tryz.prog.info? 33).map (fun i => (i.zero, i.size, i.bytes)) = some (some (.slice none 0 0), 1, 24) := by kernel_rfl
def OwnL (w : World) (B : Nat) (Q : Nat → Prop) (v : Value) (l : List (List UInt8)) : Prop :=
 ∃ cs, w.ownsRow B 33 1 v l.length cs ∧ ∀ j (h : j < l.length), ∃ u, cs[j]? = some u ∧ SlT w (fun k => Q k ∧ k < w.heap.size ∧ v.ownBlock ≠ some k) u l[j]
section
variable {w w' : World} {B : Nat} {Q : Nat → Prop} {v : Value} {l : List (List UInt8)}
theorem OwnL.nil_ (w : World) (B : Nat) (Q : Nat → Prop) : OwnL w B Q (.slice none 0 0) [] := ⟨[], World.ownsRow_nil _ _ _ _, fun j h => by simp at h⟩
theorem OwnL.form (h : OwnL w B Q v l) : ∃ A c, v = .slice A l.length c ∧ l.length ≤ c ∧ c ≤ 9223372036854775807 := by
 obtain ⟨cs, h, _⟩ := h
 rcases h.2 with ⟨hv, hk⟩ | ⟨g', cap, cur, hv, h1, hg, h2, h3, _⟩
 · exact ⟨none, 0, by rw [hv, hk], by omega, by omega⟩
 · simp only [maxLen] at h3
   exact ⟨_, cap, hv, h2, by omega⟩
theorem OwnL.lt (h : OwnL w B Q v l) (g : Nat) (hg : v.ownBlock = some g) : B ≤ g ∧ g < w.heap.size := by
 obtain ⟨cs, h, _⟩ := h
 exact h.lt g hg
theorem OwnL.kept (h : OwnL w B Q v l) (h1 : ∀ k, k < w.heap.size → (Q k ∨ v.ownBlock = some k) → w'.heap[k]? = w.heap[k]?) (hs : w.heap.size ≤ w'.heap.size) : OwnL w' B Q v l := by
 obtain ⟨cs, ho, he⟩ := h
 refine ⟨cs, ?_, fun j hj => ?_⟩
 · have hlt := ho.lt
   refine ⟨ho.1, ?_⟩
   rcases ho.2 with hn | ⟨g, cap, cur, rfl, hb, hg, rest⟩
   · exact Or.inl hn
   · exact Or.inr ⟨g, cap, cur, rfl, hb, (h1 g (hlt g rfl).2 (Or.inr rfl)).trans hg, rest⟩
 · obtain ⟨u, hu, hsl⟩ := he j hj
   exact ⟨u, hu, (hsl.kept fun k hk _ => h1 k hk.2.1 (Or.inl hk.1)).mono fun k hk => ⟨hk.1, Nat.lt_of_lt_of_le hk.2.1 hs, hk.2.2⟩⟩
theorem OwnL.more (h : OwnL w B Q v l) (hb : Below w.heap.size w w') : OwnL w' B Q v l := h.kept (fun k hk _ => hb.block k hk) hb.size
theorem OwnL.mono {B' : Nat} {Q' : Nat → Prop} (h : OwnL w B Q v l) (hB : B' ≤ B) (hQ : ∀ k, Q k → Q' k) : OwnL w B' Q' v l := by
 obtain ⟨cs, ho, he⟩ := h
 refine ⟨cs, ⟨ho.1, ?_⟩, fun j hj => ?_⟩
 · rcases ho.2 with hn | ⟨g, cap, cur, rfl, h1, rest⟩
   · exact Or.inl hn
   · exact Or.inr ⟨g, cap, cur, rfl, Nat.le_trans hB h1, rest⟩
 · obtain ⟨u, hu, hs⟩ := he j hj
   exact ⟨u, hu, hs.mono fun k hk => ⟨hQ k hk.1, hk.2⟩⟩
theorem OwnL.lists (h : OwnL w B Q v l) (T : Nat → Prop) (h1 : ∀ k, Q k → k < w.heap.size → T k) (h2 : ∀ k, v.ownBlock = some k → T k) : ListsT w T v l := by
 obtain ⟨cs, ho, he⟩ := h
 exact ⟨cs, RowT.of_own ho T h2, fun j hj => by
   obtain ⟨u, hu, hs⟩ := he j hj
   exact ⟨u, hu, hs.mono fun k hk => h1 k hk.1 hk.2.1⟩⟩
theorem wpList_push {ops : Array Oper} {rest : List Oper} {o : Oper} {a : Act} {R : Exit → Act → World → Prop} (h : OwnL w B Q v l) (hgd : o.guard = none) (s x : Operand)
   (ho : o.op = .call { callee := .builtin .append, args := #[s, x], argTypes := #[59, 59] }) (hs : a.eval s = v) (g : Nat) (A : Option Addr) (n c : Nat) (hx : a.eval x = .slice (some ⟨g, 0, none⟩) 1 1)
   (hg : w.heap[g]? = some (.cells #[.slice A n c] 33 (0, 0))) (y : List UInt8) (hy : SlT w (fun k => Q k ∧ k < w.heap.size ∧ v.ownBlock ≠ some k) (.slice A n c) y) (hl : l.length < 100000000) (hB : B ≤ w.heap.size)
   (hK : ∀ v' w', OwnL w' B Q v' (l ++ [y]) → w.grownBy w' v.ownBlock → (v'.ownBlock = v.ownBlock ∨ v'.ownBlock = some w.heap.size) → wpList Tryz.prog ops R rest (a.put o.dst v') w') : wpList Tryz.prog ops R (o :: rest) a w :=
 wpList_plain hgd fun K hK' => by
   obtain ⟨i0, hi, hz0, hz1, hz2⟩ := info_parts info_bytes
   obtain ⟨cs, hown, he⟩ := h
   obtain ⟨v', w', hrun, h2, h3, -, h4⟩ := run_append_own_at (P := Tryz.prog) w B 59 o.type 33 i0 _ 1 24 Tryz.underlying59 hi hz0 hz1 hz2 rfl (by omega) v l.length cs hown ⟨g, 0, none⟩ 1 1 [.slice A n c] rfl
     (fun j u hj => by
       rw [Lib.add_plain, Nat.zero_add, cell_of_row w g _ _ _ (0, 0) hg]
       simpa using hj) (fun u hu => by rw [List.mem_singleton.1 hu]; rfl) (by simp only [maxLen]; omega) (by omega) hB
   unfold Oper.wp execOp
   simp only [ho, resolve, invoke, builtin, Sem.run_bind, Sem.run_pure, Result.andThen_ok, List.map_toArray, List.map_cons, List.map_nil, hs, hx, hrun]
   refine hK' _ _ (hK v' w' ⟨cs ++ [.slice A n c], by rw [List.length_append]; exact h2, fun j hj => ?_⟩ h3 h4)
   have hT : ∀ k, (Q k ∧ k < w.heap.size ∧ v.ownBlock ≠ some k) → (Q k ∧ k < w'.heap.size ∧ v'.ownBlock ≠ some k) := fun k hk => ⟨hk.1, Nat.lt_of_lt_of_le hk.2.1 h3.size, fun e => by
     rcases h4 with h4 | h4
     · exact hk.2.2 (h4 ▸ e)
     · rw [h4] at e; injection e with e; have := hk.2.1; omega⟩
   have hblk : ∀ k, (Q k ∧ k < w.heap.size ∧ v.ownBlock ≠ some k) → k < w.heap.size → w'.heap[k]? = w.heap[k]? := fun k hk hl => h3.block k hl (fun e => hk.2.2 e.symm)
   have hcl : cs.length = l.length := by simpa using hown.1
   by_cases hj' : j < l.length
   · obtain ⟨u, hu, hsl⟩ := he j hj'
     refine ⟨u, by rw [List.getElem?_append_left (by omega)]; exact hu, ?_⟩
     rw [List.getElem_append_left hj']
     exact (hsl.kept hblk).mono hT
   · have hjl : j = l.length := by rw [List.length_append] at hj; simp at hj; omega
     subst hjl
     refine ⟨.slice A n c, by rw [List.getElem?_append_right (by omega)]; simp [hcl], ?_⟩
     rw [List.getElem_append_right (Nat.le_refl _)]
     simp only [Nat.sub_self, List.getElem_cons_zero]
     exact (hy.kept hblk).mono hT
end
end
end Go.Proofs.YtncaefocijainaaGreatDoor.pk
