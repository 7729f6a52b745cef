/-
  Marks in memory; the law's own 'own', 'marks' and 'ints': walked.
-/
import Derived.Test.YtgnonfnipifbiaaDoorRefQ
namespace Go.Proofs.YtgnonfnipifbiaaDoor.pk
open Go Go.RowKit
set_option maxRecDepth 100000

/-- A slice of marks. -/
def Marks (w : World) (v : Value) (l : List (Int × Int)) : Prop :=
  (∃ cs, RowT w (fun k => k < w.heap.size) 2 v l.length cs ∧ ∀ j (h : j < l.length), cs[j * 2]? = some (.int .i64 l[j].1) ∧ cs[j * 2 + 1]? = some (.int .i64 l[j].2)) ∧ ∀ m ∈ l, inI m.1 ∧ inI m.2
theorem Marks.below {w w' : World} {v : Value} {l : List (Int × Int)} (h : Marks w v l) (hb : Below w.heap.size w w') : Marks w' v l := by
  obtain ⟨⟨cs, hr, he⟩, hi⟩ := h
  exact ⟨⟨cs, (hr.kept fun k hk _ => hb.block k hk).mono fun _ hk => Nat.lt_of_lt_of_le hk hb.size, he⟩, hi⟩
theorem Marks.nil_ (w : World) : Marks w (.slice none 0 0) [] := ⟨⟨[], RowT.nil_ _ _ _, fun j h => by simp at h⟩, fun m hm => by cases hm⟩
theorem Marks.form {w : World} {v : Value} {l : List (Int × Int)} (h : Marks w v l) : ∃ A c, v = .slice A l.length c ∧ l.length ≤ c ∧ c ≤ 9223372036854775807 := by
  obtain ⟨⟨cs, hr, _⟩, _⟩ := h
  exact hr.form
theorem Marks.at_ {w : World} {A : Option Addr} {n c : Nat} {l : List (Int × Int)} (h : Marks w (.slice A n c) l) :
    n = l.length ∧ n ≤ c ∧ c ≤ 9223372036854775807 ∧ (0 < n → ∃ b off, A = some ⟨b, off, none⟩ ∧ b < w.heap.size ∧ ∀ j, j < n → w.cell? ⟨b, off + j * 2, none⟩ = some (.int .i64 (l.getD j (0, 0)).1) ∧ w.cell? ⟨b, off + j * 2 + 1, none⟩ = some (.int .i64 (l.getD j (0, 0)).2)) := by
  obtain ⟨A', c', hv, h1, h2⟩ := h.form
  injection hv with e1 e2 e3
  subst e1; subst e2; subst e3
  refine ⟨rfl, h1, h2, fun h0 => ?_⟩
  obtain ⟨⟨cs, hr, he⟩, _⟩ := h
  obtain ⟨-, -, -, b, off, rfl, hb, hc⟩ := hr.at_ h0
  refine ⟨b, off, rfl, hb, fun j hj => ?_⟩
  obtain ⟨e1, e2⟩ := he j hj
  have e : l.getD j (0, 0) = l[j] := by simp [List.getD, List.getElem?_eq_getElem hj]
  rw [e]
  exact ⟨hc _ _ e1, hc _ _ e2⟩

set_option maxHeartbeats 1000000 in
/-- A copy of a list. -/
theorem own_any (A : Option Addr) (m c : Nat) (zs : List Int) (w : World) (h : Ints w (.slice A m c) zs) (hb : m ≤ 1000000000) :
    Calls Tryd.prog 5 #[.slice A m c] w fun y w' => ∃ A' c', y = .returned (.slice A' m c') ∧ Ints w' (.slice A' m c') zs ∧ Below w.heap.size w w' := by
  obtain ⟨hm, hmc, hcm, -⟩ := h.at_
  have HH := Lib.hid h
  have HN := Lib.hid (World.ownsRow_nil w w.heap.size 3 1)
  go_enter Tryd.func5, Tryd.ntmps5
  go_wp2_with (at_builtin; go_must (refine wpList_joinI (v := .slice none 0 0) (zs := []) HN.out rfl (.tmp 4) (.tmp 5) rfl rfl A m c rfl (fun k => k < w.heap.size) zs (by subst hm; exact HH.out.1) hm.symm (by simp; omega) (Nat.le_refl _) ?_; intro v' w' ho hg; have O := Lib.hid (And.intro ho ((Below.refl w.heap.size w).grown hg (Nat.le_refl _) (fun k hk => by cases hk))); clear ho hg))
  rw [List.nil_append] at O
  have hI := Ints.of_own O.out.1 h.2
  obtain ⟨A', c', rfl, -, -⟩ := hI.form
  go_ret
  subst hm
  exact ⟨A', c', rfl, hI, O.out.2⟩

theorem info_mark : (Tryd.prog.info? 41).map (fun i => (i.zero, i.size, i.bytes)) = some (some (.agg #[.int .i64 0, .int .i64 0]), 2, 16) := by kernel_rfl
/-- A row of marks of one's own. -/
def OwnM (w : World) (B : Nat) (v : Value) (l : List (Int × Int)) : Prop :=
  ∃ cs, w.ownsRow B 41 2 v l.length cs ∧ ∀ j (h : j < l.length), cs[j * 2]? = some (.int .i64 l[j].1) ∧ cs[j * 2 + 1]? = some (.int .i64 l[j].2)
theorem OwnM.marks {w : World} {B : Nat} {v : Value} {l : List (Int × Int)} (h : OwnM w B v l) (hi : ∀ m ∈ l, inI m.1 ∧ inI m.2) : Marks w v l := by
  obtain ⟨cs, ho, he⟩ := h
  exact ⟨⟨cs, RowT.of_own ho _ fun g hg => (ho.lt g hg).2, he⟩, hi⟩
theorem OwnM.form {w : World} {B : Nat} {v : Value} {l : List (Int × Int)} (h : OwnM w B v l) : ∃ A c, v = .slice A l.length c ∧ l.length ≤ c ∧ c ≤ 9223372036854775807 := by
  obtain ⟨cs, ho, _⟩ := h
  rcases ho.2 with ⟨hv, hk⟩ | ⟨g', cap, cur, hv, h1, hg, h2, h3, _⟩
  · exact ⟨none, 0, by rw [hv, hk], by omega, by omega⟩
  · simp only [maxLen] at h3
    exact ⟨_, cap, hv, h2, by omega⟩
theorem wpList_pushM {w : World} {B : Nat} {v : Value} {l : List (Int × Int)} {ops : Array Oper} {rest : List Oper} {o : Oper} {a : Act} {R : Exit → Act → World → Prop} (h : OwnM w B v l) (hgd : o.guard = none) (s x : Operand)
    (ho : o.op = .call { callee := .builtin .append, args := #[s, x], argTypes := #[42, 42] }) (hs : a.eval s = v) (g : Nat) (hx : a.eval x = .slice (some ⟨g, 0, none⟩) 1 1) (m : Int × Int)
    (hg : w.heap[g]? = some (.cells #[.int .i64 m.1, .int .i64 m.2] 41 (0, 0))) (hl : l.length < 1000000000000) (hB : B ≤ w.heap.size)
    (hK : ∀ v' w', OwnM w' B v' (l ++ [m]) → w.grownBy w' v.ownBlock → wpList Tryd.prog ops R rest (a.put o.dst v') w') : wpList Tryd.prog ops R (o :: rest) a w := by
  obtain ⟨i0, hi, hz0, hz1, hz2⟩ := info_three info_mark
  obtain ⟨cs, hown, he⟩ := h
  refine wpList_append_row hgd s x 42 ho B 41 i0 _ 2 16 Tryd.underlying42 hi hz0 hz1 hz2 rfl (by omega) v l.length _ hs hown (fun _ => True) _ 1 1 [.int .i64 m.1, .int .i64 m.2] hx (RowT.lit hg (by rfl) (by omega)) (fun u hu => by
    simp only [List.mem_cons, List.not_mem_nil, or_false] at hu
    rcases hu with rfl | rfl <;> rfl) (by simp only [maxLen]; omega) (by omega) hB ?_
  intro v' w' h1 h2
  have hcl : cs.length = l.length * 2 := hown.1
  refine hK v' w' ⟨cs ++ [.int .i64 m.1, .int .i64 m.2], by rw [List.length_append]; exact h1, fun j hj => ?_⟩ h2
  by_cases hj' : j < l.length
  · rw [List.getElem?_append_left (by omega), List.getElem?_append_left (by omega), List.getElem_append_left hj']
    exact he j hj'
  · have hjl : j = l.length := by rw [List.length_append] at hj; simp at hj; omega
    subst hjl
    rw [List.getElem?_append_right (by omega), List.getElem?_append_right (by omega), List.getElem_append_right (Nat.le_refl _)]
    simp [hcl, show l.length * 2 + 1 - l.length * 2 = 1 by omega]


end Go.Proofs.YtgnonfnipifbiaaDoor.pk
