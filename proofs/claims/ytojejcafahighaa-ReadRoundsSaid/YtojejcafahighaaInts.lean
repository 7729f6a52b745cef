/-
  Numbers in memory that nobody writes any more; a row of numbers of one's own.
-/
import Derived.Test.YtojejcafahighaaRowT
import Derived.Test.YtojejcafahighaaAppR
import Derived.Test.YtojejcafahighaaLit
namespace Go.Proofs.Ytojejcafahighaa.pk
open Go Go.RowKit
set_option maxRecDepth 100000

/-- A slice of numbers, each an int. -/
def Ints (w : World) (v : Value) (zs : List Int) : Prop := IntsT w (fun k => k < w.heap.size) v zs ∧ ∀ z ∈ zs, inI z

theorem Ints.below {w w' : World} {v : Value} {zs : List Int} (h : Ints w v zs) (hb : Below w.heap.size w w') : Ints w' v zs :=
  ⟨(RowT.kept h.1 fun k hk _ => hb.block k hk).mono fun _ hk => Nat.lt_of_lt_of_le hk hb.size, h.2⟩
theorem Ints.nil_ (w : World) : Ints w (.slice none 0 0) [] := ⟨RowT.nil_ _ _ _, fun z hz => by cases hz⟩
theorem Ints.form {w : World} {v : Value} {zs : List Int} (h : Ints w v zs) : ∃ A c, v = .slice A zs.length c ∧ zs.length ≤ c ∧ c ≤ 9223372036854775807 := RowT.form h.1
theorem Ints.at_ {w : World} {A : Option Addr} {n c : Nat} {zs : List Int} (h : Ints w (.slice A n c) zs) :
    n = zs.length ∧ n ≤ c ∧ c ≤ 9223372036854775807 ∧ (0 < n → ∃ b off, A = some ⟨b, off, none⟩ ∧ b < w.heap.size ∧ ∀ j, j < n → w.cell? ⟨b, off + j, none⟩ = some (.int .i64 (zs.getD j 0))) := by
  obtain ⟨A', c', hv, h1, h2⟩ := h.form
  injection hv with e1 e2 e3
  subst e1; subst e2; subst e3
  refine ⟨rfl, h1, h2, fun h0 => ?_⟩
  obtain ⟨-, -, -, b, off, rfl, hb, hc⟩ := RowT.at_ h.1 h0
  refine ⟨b, off, rfl, hb, fun j hj => ?_⟩
  exact hc j _ (by rw [List.getElem?_map, List.getElem?_eq_getElem hj]; simp [List.getD, List.getElem?_eq_getElem hj])
theorem Ints.len_le {w : World} {A : Option Addr} {m c : Nat} {zs : List Int} (h : Ints w (.slice A m c) zs) : m = zs.length := h.at_.1
theorem Ints.of_own {w : World} {base : Nat} {v : Value} {zs : List Int} (h : w.ownsRow base 3 1 v zs.length (zs.map (Value.int .i64))) (hi : ∀ z ∈ zs, inI z) : Ints w v zs :=
  ⟨RowT.of_own h _ fun g hg => (h.lt g hg).2, hi⟩
theorem Ints.getD_in {w : World} {v : Value} {zs : List Int} (h : Ints w v zs) (j : Nat) : inI (zs.getD j 0) := by
  by_cases hj : j < zs.length
  · exact h.2 _ (by simp [List.getD, List.getElem?_eq_getElem hj])
  · rw [List.getD, List.getElem?_eq_none (by omega)]
    exact ⟨by simp, by simp⟩

theorem info_int : (Try.prog.info? 3).map (fun i => (i.zero, i.size, i.bytes)) = some (some (.int .i64 0), 1, 8) := by kernel_rfl
theorem info_three {P : Program} {e : TypeId} {z : Value} {s b : Nat} (h : (P.info? e).map (fun i => (i.zero, i.size, i.bytes)) = some (some z, s, b)) : ∃ i, P.info? e = some i ∧ i.zero = some z ∧ i.size = s ∧ i.bytes = b := by
  cases hi : P.info? e with
  | none => rw [hi] at h; cases h
  | some i =>
    rw [hi] at h
    simp only [Option.map_some, Option.some.injEq, Prod.mk.injEq] at h
    exact ⟨i, rfl, h.1, h.2.1, h.2.2⟩

theorem below_drawn {B : Nat} {w w' : World} (h : Below B w w') (n : Nat) : Below B w (w'.drewN n) := ⟨h.os, h.tape, h.output, h.size, h.block⟩
theorem below_alloc (W : World) (bl : Obj) : Below W.heap.size W (W.alloc bl) := (Below.refl _ _).alloc (Nat.le_refl _) _
/-- What is read stands in a row written out just before. -/
theorem RowT.lit {w : World} {g t n : Nat} {cs : List Value} {sz : Nat} (hg : w.heap[g]? = some (.cells cs.toArray t (0, 0))) (hn : cs.length = n * sz) (hm : n ≤ 9223372036854775807) : RowT w (fun _ => True) sz (.slice (some ⟨g, 0, none⟩) n n) n cs := by
  refine ⟨hn, some ⟨g, 0, none⟩, n, rfl, Nat.le_refl _, hm, Or.inr ⟨g, 0, rfl, trivial, fun j u hj => ?_⟩⟩
  rw [Nat.zero_add, cell_of_row w g _ _ _ (0, 0) hg]
  simpa using hj

section
variable {w : World} {B : Nat} {v : Value} {zs : List Int} {ops : Array Oper} {rest : List Oper} {o : Oper} {a : Act} {R : Exit → Act → World → Prop}
/-- One more number onto a row of one's own. -/
theorem wpList_pushI (hown : w.ownsRow B 3 1 v zs.length (zs.map (Value.int .i64))) (hgd : o.guard = none) (s x : Operand)
    (ho : o.op = .call { callee := .builtin .append, args := #[s, x], argTypes := #[34, 34] }) (hs : a.eval s = v) (g : Nat) (hx : a.eval x = .slice (some ⟨g, 0, none⟩) 1 1) (z : Int)
    (hg : w.heap[g]? = some (.cells #[.int .i64 z] 3 (0, 0))) (hl : zs.length < 1000000000000) (hB : B ≤ w.heap.size)
    (hK : ∀ v' w', w'.ownsRow B 3 1 v' (zs ++ [z]).length ((zs ++ [z]).map (Value.int .i64)) → w.grownBy w' v.ownBlock → wpList Try.prog ops R rest (a.put o.dst v') w') : wpList Try.prog ops R (o :: rest) a w := by
  obtain ⟨i0, hi, hz0, hz1, hz2⟩ := info_three info_int
  refine wpList_append_row hgd s x 34 ho B 3 i0 _ 1 8 Try.underlying34 hi hz0 hz1 hz2 rfl (by omega) v zs.length _ hs hown (fun _ => True) _ 1 1 [.int .i64 z] hx (RowT.lit hg (by rfl) (by omega)) (fun u hu => by rw [List.mem_singleton.1 hu]; rfl) (by simp only [maxLen]; omega) (by omega) hB ?_
  intro v' w' h1 h2
  refine hK v' w' ?_ h2
  rw [List.length_append, List.map_append]
  exact h1
/-- A row of numbers onto a row of one's own. -/
theorem wpList_joinI (hown : w.ownsRow B 3 1 v zs.length (zs.map (Value.int .i64))) (hgd : o.guard = none) (s x : Operand)
    (ho : o.op = .call { callee := .builtin .append, args := #[s, x], argTypes := #[34, 34] }) (hs : a.eval s = v) (A : Option Addr) (n c : Nat) (hx : a.eval x = .slice A n c) (T : Nat → Prop) (ys : List Int)
    (hy : RowT w T 1 (.slice A n c) n (ys.map (Value.int .i64))) (hn : ys.length = n) (hl : zs.length + n < 1000000000000) (hB : B ≤ w.heap.size)
    (hK : ∀ v' w', w'.ownsRow B 3 1 v' (zs ++ ys).length ((zs ++ ys).map (Value.int .i64)) → w.grownBy w' v.ownBlock → wpList Try.prog ops R rest (a.put o.dst v') w') : wpList Try.prog ops R (o :: rest) a w := by
  obtain ⟨i0, hi, hz0, hz1, hz2⟩ := info_three info_int
  refine wpList_append_row hgd s x 34 ho B 3 i0 _ 1 8 Try.underlying34 hi hz0 hz1 hz2 rfl (by omega) v zs.length _ hs hown T A n c _ hx hy (fun u hu => by obtain ⟨z, _, rfl⟩ := List.mem_map.1 hu; rfl) (by simp only [maxLen]; omega) (by omega) hB ?_
  intro v' w' h1 h2
  refine hK v' w' ?_ h2
  rw [List.length_append, List.map_append, hn]
  exact h1
end

theorem own_base {w : World} {base base' e sz n : Nat} {v : Value} {xs : List Value} (h : w.ownsRow base e sz v n xs) (hb : base' ≤ base) : w.ownsRow base' e sz v n xs := by
  refine ⟨h.1, ?_⟩
  rcases h.2 with hn | ⟨g, cap, cur, rfl, h1, rest⟩
  · exact Or.inl hn
  · exact Or.inr ⟨g, cap, cur, rfl, Nat.le_trans hb h1, rest⟩
/-- A row of one's own stays where nothing that was there has changed. -/
theorem own_kept {w w' : World} {base e sz n : Nat} {v : Value} {xs : List Value} (h : w.ownsRow base e sz v n xs) (hb : Below w.heap.size w w') : w'.ownsRow base e sz v n xs := by
  refine ⟨h.1, ?_⟩
  rcases h.2 with hn | ⟨g, cap, cur, rfl, h1, hg, rest⟩
  · exact Or.inl hn
  · exact Or.inr ⟨g, cap, cur, rfl, h1, (hb.block g (h.lt g rfl).2).trans hg, rest⟩

end Go.Proofs.Ytojejcafahighaa.pk
