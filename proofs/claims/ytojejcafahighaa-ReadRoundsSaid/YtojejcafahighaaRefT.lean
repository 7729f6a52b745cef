/-
  The document's own words of a queue: Take.
-/
import Derived.Test.YtojejcafahighaaRefK
namespace Go.Proofs.Ytojejcafahighaa.pk
open Go Go.RowKit
set_option maxRecDepth 100000

section
variable {w : World} {B : Nat} {v : Value} {zs : List Int} {ops : Array Oper} {rest : List Oper} {o : Oper} {a : Act} {R : Exit → Act → World → Prop}
/-- One more number onto a row of one's own, and where it lies then. -/
theorem wpList_pushI2 (hown : w.ownsRow B 3 1 v zs.length (zs.map (Value.int .i64))) (hgd : o.guard = none) (s x : Operand)
    (ho : o.op = .call { callee := .builtin .append, args := #[s, x], argTypes := #[34, 34] }) (hs : a.eval s = v) (g : Nat) (hx : a.eval x = .slice (some ⟨g, 0, none⟩) 1 1) (z : Int)
    (hg : w.heap[g]? = some (.cells #[.int .i64 z] 3 (0, 0))) (hl : zs.length < 1000000000000) (hB : B ≤ w.heap.size)
    (hK : ∀ v' w', w'.ownsRow B 3 1 v' (zs ++ [z]).length ((zs ++ [z]).map (Value.int .i64)) → w.grownBy w' v.ownBlock → (v'.ownBlock = v.ownBlock ∨ v'.ownBlock = some w.heap.size) → wpList Try.prog ops R rest (a.put o.dst v') w') : wpList Try.prog ops R (o :: rest) a w :=
  wpList_plain hgd fun K hK' => by
    obtain ⟨i0, hi, hz0, hz1, hz2⟩ := info_three info_int
    obtain ⟨v', w', hrun, h2, h3, -, h4⟩ := run_append_own_at (P := Try.prog) w B 34 o.type 3 i0 _ 1 8 Try.underlying34 hi hz0 hz1 hz2 rfl (by omega) v zs.length _ hown ⟨g, 0, none⟩ 1 1 [.int .i64 z] rfl
      (fun j u hj => by
        rw [Lib.add_plain, Nat.zero_add, cell_of_row w g _ _ _ (0, 0) hg]
        simpa using hj) (fun u hu => by
        simp only [List.mem_cons, List.not_mem_nil, or_false] at hu
        rw [hu]; rfl) (by simp only [maxLen]; omega) (by omega) hB
    unfold Oper.wp execOp
    simp only [ho, resolve, invoke, builtin, Sem.run_bind, Sem.run_pure, Result.andThen_ok, List.map_toArray, List.map_cons, List.map_nil, hs, hx, hrun]
    refine hK' _ _ (hK v' w' ?_ h3 h4)
    rw [List.length_append, List.map_append]
    exact h2
end
theorem own_kept2 {w w' : World} {base e sz n : Nat} {v : Value} {xs : List Value} (h : w.ownsRow base e sz v n xs) (hk : ∀ k, v.ownBlock = some k → w'.heap[k]? = w.heap[k]?) : w'.ownsRow base e sz v n xs := by
  refine ⟨h.1, ?_⟩
  rcases h.2 with hn | ⟨g, cap, cur, rfl, h1, hg, rest⟩
  · exact Or.inl hn
  · exact Or.inr ⟨g, cap, cur, rfl, h1, (hk g rfl).trans hg, rest⟩

/-- What is taken out of the first ones, and what is left of them. -/
def outT (p : It → Bool) (l : List It) : List Int := (l.filter p).map It.token
def leftT (p : It → Bool) (l : List It) : List It := l.filter fun x => !p x
theorem outT_hit {p : It → Bool} {l : List It} {j : Nat} (hj : j < l.length) (h : p l[j] = true) : outT p (l.take (j + 1)) = outT p (l.take j) ++ [l[j].token] := by
  unfold outT; rw [List.take_succ_eq_append_getElem hj, List.filter_append, List.map_append, List.filter_cons, if_pos h]; rfl
theorem leftT_hit {p : It → Bool} {l : List It} {j : Nat} (hj : j < l.length) (h : p l[j] = true) : leftT p (l.take (j + 1)) = leftT p (l.take j) := by
  unfold leftT; rw [List.take_succ_eq_append_getElem hj, List.filter_append, List.filter_cons, if_neg (by rw [h]; simp)]; simp
theorem outT_no {p : It → Bool} {l : List It} {j : Nat} (hj : j < l.length) (h : p l[j] = false) : outT p (l.take (j + 1)) = outT p (l.take j) := by
  unfold outT; rw [List.take_succ_eq_append_getElem hj, List.filter_append, List.filter_cons, if_neg (by rw [h]; simp)]; simp
theorem leftT_no {p : It → Bool} {l : List It} {j : Nat} (hj : j < l.length) (h : p l[j] = false) : leftT p (l.take (j + 1)) = leftT p (l.take j) ++ [l[j]] := by
  unfold leftT; rw [List.take_succ_eq_append_getElem hj, List.filter_append, List.filter_cons, if_pos (by rw [h]; rfl)]; rfl
theorem outT_len (p : It → Bool) (l : List It) : (outT p l).length ≤ l.length := by unfold outT; rw [List.length_map]; exact List.length_filter_le ..
theorem leftT_len (p : It → Bool) (l : List It) : (leftT p l).length ≤ l.length := List.length_filter_le ..
theorem takeQ_cases (lim : Int) (l : List It) (p : It → Bool) : (mayQ lim l = false ∧ takeQ lim l p = (0, [], [])) ∨ (mayQ lim l = true ∧ takeQ lim l p = (lim, leftT p l, outT p l)) := by
  unfold takeQ
  cases mayQ lim l with
  | false => left; exact ⟨rfl, if_pos rfl⟩
  | true => right; exact ⟨rfl, if_neg (by simp)⟩
theorem hit_cases (term heard applied : Int) (other : Bool) (x : It) : (other = true ∧ ¬ x.term = term ∧ hitQ term heard applied other x = true) ∨ (other = false ∧ x.term = term ∧ x.round ≤ heard ∧ x.index ≤ applied ∧ hitQ term heard applied other x = true) ∨
    (other = true ∧ x.term = term ∧ hitQ term heard applied other x = false) ∨ (other = false ∧ ¬ x.term = term ∧ hitQ term heard applied other x = false) ∨ (other = false ∧ x.term = term ∧ ¬ x.round ≤ heard ∧ hitQ term heard applied other x = false) ∨ (other = false ∧ x.term = term ∧ x.round ≤ heard ∧ ¬ x.index ≤ applied ∧ hitQ term heard applied other x = false) := by
  unfold hitQ
  cases other with
  | true =>
    by_cases h : x.term = term
    · simp [h]
    · simp [h]
  | false =>
    by_cases h : x.term = term
    · by_cases h2 : x.round ≤ heard
      · by_cases h3 : x.index ≤ applied
        · simp [h, h2, h3]
        · simp [h, h2, h3]
      · simp [h, h2]
    · simp [h]


end Go.Proofs.Ytojejcafahighaa.pk
