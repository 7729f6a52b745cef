/-
  The law ReadOnce, over the contracts.
-/
import Derived.Test.YtojejcafahighaaConQ
namespace Go.Proofs.Ytojejcafahighaa.pk
open Go Go.RowKit
set_option maxRecDepth 100000

structure Tr where
  a : Int
  b : Int
  c : Int
/-- A slice of three numbers each. -/
def Trs (w : World) (v : Value) (l : List Tr) : Prop := ∃ cs, RowT w (fun k => k < w.heap.size) 3 v l.length cs ∧ ∀ j (h : j < l.length), cs[j * 3]? = some (.int .i64 l[j].a) ∧ cs[j * 3 + 1]? = some (.int .i64 l[j].b) ∧ cs[j * 3 + 2]? = some (.int .i64 l[j].c)
theorem Trs.below {w w' : World} {v : Value} {l : List Tr} (h : Trs w v l) (hb : Below w.heap.size w w') : Trs w' v l := by
  obtain ⟨cs, hr, he⟩ := h
  exact ⟨cs, (hr.kept fun k hk _ => hb.block k hk).mono fun _ hk => Nat.lt_of_lt_of_le hk hb.size, he⟩
theorem Trs.len_ {w : World} {A : Option Addr} {n c : Nat} {l : List Tr} (h : Trs w (.slice A n c) l) : n = l.length ∧ n ≤ c ∧ c ≤ 9223372036854775807 := by
  obtain ⟨cs, h, _⟩ := h
  obtain ⟨A', c', hv, h1, h2⟩ := h.form
  injection hv with e1 e2 e3
  subst e2; subst e3
  exact ⟨rfl, h1, h2⟩
theorem Trs.at_ {w : World} {A : Option Addr} {m c : Nat} {l : List Tr} (h : Trs w (.slice A m c) l) (i : Nat) (hi : i < l.length) :
    ∃ b off, A = some ⟨b, off, none⟩ ∧ b < w.heap.size ∧ w.cell? ⟨b, off + i * 3, none⟩ = some (.int .i64 l[i].a) ∧ w.cell? ⟨b, off + i * 3 + 1, none⟩ = some (.int .i64 l[i].b) ∧ w.cell? ⟨b, off + i * 3 + 2, none⟩ = some (.int .i64 l[i].c) := by
  obtain ⟨cs, hr, he⟩ := h
  obtain ⟨-, -, -, b, off, rfl, hb, hc⟩ := hr.at_ (by omega)
  obtain ⟨h0, h1, h2⟩ := he i hi
  exact ⟨b, off, rfl, hb, hc _ _ h0, hc _ _ h1, hc _ _ h2⟩
/-- Items in memory that is not one of two blocks. -/
def MIts (w : World) (g g' : Nat) (v : Value) (l : List It) : Prop := ItsT w (fun k => k < w.heap.size ∧ k ≠ g ∧ k ≠ g') v l ∧ ∀ x ∈ l, x.inI
section
variable {w w' : World} {g g' : Nat} {v : Value} {l : List It}
theorem MIts.below (h : MIts w g g' v l) (hb : Below w.heap.size w w') : MIts w' g g' v l :=
  ⟨h.1.move (fun k hk _ => hb.block k hk.1) fun k hk => ⟨Nat.lt_of_lt_of_le hk.1 hb.size, hk.2⟩, h.2⟩
theorem MIts.n_ (h : MIts w g g' v l) : NIts w g v l := ⟨h.1.move (fun _ _ _ => rfl) fun _ hk => ⟨hk.1, hk.2.1⟩, h.2⟩
theorem MIts.box (h : NIts w g v l) (o : Obj) : MIts (w.alloc o) g w.heap.size v l :=
  ⟨h.1.move (fun k hk _ => (below_alloc w o).block k hk.1) fun k hk => ⟨by rw [World.size_alloc]; omega, hk.2, by omega⟩, h.2⟩
theorem MIts.put (h : MIts w g g' v l) (a b : Value) : MIts (put2 w g' a b) g g' v l :=
  ⟨h.1.move (fun k hk _ => put2_other _ _ _ _ k hk.2.2) fun k hk => by rw [put2_size]; exact hk, h.2⟩
theorem NIts.putN (h : NIts w g v l) (a b : Value) : NIts (put2 w g a b) g v l :=
  ⟨h.1.move (fun k hk _ => put2_other _ _ _ _ k hk.2) fun k hk => by rw [put2_size]; exact hk, h.2⟩
theorem ItsT.aft_m (h : ItsT w' (Aft (fun k => k < w.heap.size ∧ k ≠ g ∧ k ≠ g') w w') v l) (hb : Below w.heap.size w w') (hg : g < w.heap.size) (hg' : g' < w.heap.size) (hi : ∀ x ∈ l, x.inI) : MIts w' g g' v l :=
  ⟨h.move (fun _ _ _ => rfl) fun k hk => by have := hb.size; rcases hk with ⟨h1, h2, h3⟩ | h <;> exact ⟨by omega, by omega, by omega⟩, hi⟩
end
section
variable {lim : Int} {l : List It} {A : Option Addr} {n c : Nat} {w : World}
theorem ConQ.takeM (C : ConQ) {term heard applied : Int} {g g' : Nat} (h : MIts w g g' (.slice A n c) l) (hg : g < w.heap.size) (hg' : g' < w.heap.size) (hi : inI lim) (hl : l.length ≤ 1000) (r) (hr : r = takeQ lim l (hitQ term heard applied false)) (m k) (hm : m = r.2.1.length) (hk : k = r.2.2.length) :
    Calls Try.prog 7 #[.agg #[.int .i64 lim, .slice A n c], .int .i64 term, .int .i64 heard, .int .i64 applied] w fun y w' => ∃ A1 c1 A2 c2, y = .returned (.tuple #[.agg #[.int .i64 r.1, .slice A1 m c1], .slice A2 k c2]) ∧ MIts w' g g' (.slice A1 m c1) r.2.1 ∧ FInts w w' (.slice A2 k c2) r.2.2 ∧ Below w.heap.size w w' :=
  (C.qTake lim l A n c term heard applied w _ h.1 (fun _ hk => hk.1) h.2 hi hl r hr m k hm hk).mono fun _ _ ⟨A1, c1, A2, c2, hy, ⟨h1, h2⟩, h3, hb⟩ => ⟨A1, c1, A2, c2, hy, h1.aft_m hb hg hg' h2, h3, hb⟩
theorem ConQ.takeN' (C : ConQ) {term heard applied : Int} {g : Nat} (h : NIts w g (.slice A n c) l) (hg : g < w.heap.size) (hi : inI lim) (hl : l.length ≤ 1000) (r) (hr : r = takeQ lim l (hitQ term heard applied false)) (m k) (hm : m = r.2.1.length) (hk : k = r.2.2.length) :
    Calls Try.prog 7 #[.agg #[.int .i64 lim, .slice A n c], .int .i64 term, .int .i64 heard, .int .i64 applied] w fun y w' => ∃ A1 c1 A2 c2, y = .returned (.tuple #[.agg #[.int .i64 r.1, .slice A1 m c1], .slice A2 k c2]) ∧ NIts w' g (.slice A1 m c1) r.2.1 ∧ FInts w w' (.slice A2 k c2) r.2.2 ∧ Below w.heap.size w w' :=
  (C.qTake lim l A n c term heard applied w _ h.1 (fun _ hk => hk.1) h.2 hi hl r hr m k hm hk).mono fun _ _ ⟨A1, c1, A2, c2, hy, ⟨h1, h2⟩, h3, hb⟩ => ⟨A1, c1, A2, c2, hy, h1.aft_n hb hg h2, h3, hb⟩
theorem ConQ.failM (C : ConQ) {term : Int} {g g' : Nat} (h : MIts w g g' (.slice A n c) l) (hg : g < w.heap.size) (hg' : g' < w.heap.size) (hi : inI lim) (hl : l.length ≤ 1000) (r) (hr : r = takeQ lim l (hitQ term 0 0 true)) (m k) (hm : m = r.2.1.length) (hk : k = r.2.2.length) :
    Calls Try.prog 8 #[.agg #[.int .i64 lim, .slice A n c], .int .i64 term] w fun y w' => ∃ A1 c1 A2 c2, y = .returned (.tuple #[.agg #[.int .i64 r.1, .slice A1 m c1], .slice A2 k c2]) ∧ MIts w' g g' (.slice A1 m c1) r.2.1 ∧ FInts w w' (.slice A2 k c2) r.2.2 ∧ Below w.heap.size w w' :=
  (C.qFail lim l A n c term w _ h.1 (fun _ hk => hk.1) h.2 hi hl r hr m k hm hk).mono fun _ _ ⟨A1, c1, A2, c2, hy, ⟨h1, h2⟩, h3, hb⟩ => ⟨A1, c1, A2, c2, hy, h1.aft_m hb hg hg' h2, h3, hb⟩
end
/-- What adding to a queue of fifty gives. -/
theorem add_fifty {Q : List It} {x : It} (h : mayQ 50 Q = true) (hl : Q.length < 50) : (addQ 50 Q x = (50, Q ++ [x], 0) ∧ mayQ 50 (Q ++ [x]) = true) ∨ addQ 50 Q x = (0, [], 1) := by
  unfold addQ
  rw [h, Bool.true_and]
  cases hx : itB x with
  | false => right; exact if_pos rfl
  | true =>
    left
    rw [if_neg (by simp), if_neg (by omega)]
    refine ⟨rfl, ?_⟩
    unfold mayQ
    simp only [Bool.and_eq_true, decide_eq_true_eq]
    refine ⟨⟨⟨by omega, by omega⟩, by rw [List.length_append, List.length_singleton]; omega⟩, ?_⟩
    rw [List.all_append, Bool.and_eq_true]
    refine ⟨List.all_eq_true.2 (mayQ_all h), by simp [hx]⟩
theorem take_fifty {Q : List It} (p : It → Bool) (h : mayQ 50 Q = true) : takeQ 50 Q p = (50, leftT p Q, outT p Q) ∧ mayQ 50 (leftT p Q) = true ∧ (leftT p Q).length + (outT p Q).length = Q.length := by
  refine ⟨?_, ?_, ?_⟩
  · rcases takeQ_cases 50 Q p with ⟨h1, _⟩ | ⟨_, h2⟩
    · rw [h] at h1; cases h1
    · exact h2
  · have h1 := mayQ_len h
    have h2 := leftT_len p Q
    unfold mayQ
    simp only [Bool.and_eq_true, decide_eq_true_eq]
    exact ⟨⟨⟨by omega, by omega⟩, by omega⟩, List.all_eq_true.2 fun x hx => mayQ_all h x (List.mem_filter.1 hx).1⟩
  · unfold leftT outT
    rw [List.length_map]
    clear h
    induction Q with
    | nil => rfl
    | cons x Q ih =>
      cases hx : p x with
      | true => rw [List.filter_cons_of_neg (by simp [hx]), List.filter_cons_of_pos hx]; simp only [List.length_cons]; omega
      | false => rw [List.filter_cons_of_pos (by simp [hx]), List.filter_cons_of_neg (by simp [hx])]; simp only [List.length_cons]; omega
/-- Which item the law looks for. -/
def seenQ (z b c : Int) (x : It) : Bool := decide (x.token = z) && decide (x.round ≤ b) && decide (x.index ≤ c)
theorem seen_out {Q : List It} {a b c : Int} {k : Nat} (hk : k < (outT (hitQ a b c false) Q).length) : Q.any (seenQ ((outT (hitQ a b c false) Q).getD k 0) b c) = true := by
  have hm : (outT (hitQ a b c false) Q).getD k 0 ∈ outT (hitQ a b c false) Q := by
    have e : (outT (hitQ a b c false) Q).getD k 0 = (outT (hitQ a b c false) Q)[k] := by simp [List.getD, List.getElem?_eq_getElem hk]
    rw [e]; exact List.getElem_mem hk
  obtain ⟨x, hx, hxt⟩ := List.mem_map.1 hm
  obtain ⟨h1, h2⟩ := List.mem_filter.1 hx
  refine List.any_eq_true.2 ⟨x, h1, ?_⟩
  unfold hitQ at h2
  unfold seenQ
  simp only [Bool.false_and, Bool.not_false, Bool.true_and, Bool.false_or, Bool.and_eq_true, decide_eq_true_eq] at h2 ⊢
  exact ⟨⟨hxt, h2.1.2⟩, h2.2⟩
theorem any_more {p : It → Bool} {l : List It} {j : Nat} (hj : j < l.length) : (l.take (j + 1)).any p = ((l.take j).any p || p l[j]) := by
  rw [List.take_succ_eq_append_getElem hj, List.any_append]
  simp
theorem set3_own {w : World} {g : Nat} {v0 v1 v2 v3 v : Value} {t : Nat} (h : w.heap[g]? = some (.cells #[v0, v1, v2, v3] t (0, 0))) : (w.setCell ⟨g, 3, none⟩ v).heap[g]? = some (.cells #[v0, v1, v2, v] t (0, 0)) := by
  simp [World.setCell, Array.getElem?_modify, h]

end Go.Proofs.Ytojejcafahighaa.pk
