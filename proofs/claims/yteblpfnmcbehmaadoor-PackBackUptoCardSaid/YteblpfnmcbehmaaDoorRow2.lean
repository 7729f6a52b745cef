/-
  From a row's reading of a slice of things to the walks' words, and what the bound gives.
-/
import Derived.Test.YteblpfnmcbehmaaDoorRow
import Derived.Test.YteblpfnmcbehmaaDoorThings
namespace Go.Proofs.YteblpfnmcbehmaaDoor.pk
open Go Go.RowKit Go.ChangeShapes Go.WideShapes Go.ChangeAt
set_option maxRecDepth 100000

theorem bulk_one {H : Type} (d : DataW H) : 1 ≤ Rows.uptoBulk d := by
  cases d with
  | lit l => cases l <;> simp [Rows.uptoBulk]
  | nil => simp [Rows.uptoBulk]
  | ptr d => simp [Rows.uptoBulk]
  | slice elems spare => simp [Rows.uptoBulk]
  | agg parts => simp [Rows.uptoBulk]
  | iface t d => simp [Rows.uptoBulk]
  | map entries => simp [Rows.uptoBulk]
  | held h => simp [Rows.uptoBulk]
theorem bulk_length {H : Type} (l : List (DataW H)) : l.length ≤ Rows.uptoBulkAll l := by
  induction l with
  | nil => simp [Rows.uptoBulkAll]
  | cons x r ih => have := bulk_one x; simp only [Rows.uptoBulkAll, List.length_cons]; omega

/-- The things weigh no more than what was read of them. -/
theorem weight_bulk {H : Type} : ∀ (ds : List (DataW H)) (l : List Th), ds.length = l.length → (∀ i (h : i < l.length) (h' : i < ds.length), l[i].t.length + 1 ≤ Rows.uptoBulk ds[i]) → weight l + l.length ≤ Rows.uptoBulkAll ds
  | [], [], _, _ => by simp [weight]
  | d :: ds, x :: l, hl, h => by
    have h0 := h 0 (by simp) (by simp)
    have ih := weight_bulk ds l (by simpa using hl) (fun i hi hi' => by
      have := h (i + 1) (by simpa using hi) (by simpa using hi')
      simpa using this)
    simp only [List.getElem_cons_zero] at h0
    simp only [weight, List.map_cons, List.sum_cons, List.length_cons, Rows.uptoBulkAll] at ih ⊢
    omega
  | [], _ :: _, hl, _ => by simp at hl
  | _ :: _, [], hl, _ => by simp at hl

theorem cTh : Tryd.prog.cellsOf 52 = 3 := by kernel_rfl
theorem cInt : Tryd.prog.cellsOf 3 = 1 := by kernel_rfl
theorem cSl : Tryd.prog.cellsOf 24 = 1 := by kernel_rfl

/-- A slice of things that is read. -/
theorem ths_of_trod {H : Type} {enc : TypeId × Value → H} {W : World} {held : Bool} {fuel : Nat} {v : Value} {y : DataW H × List MemPlace}
    (h : DataW.trod enc Tryd.prog W 0 (fun _ => true) held fuel 49 [v] = some y) :
    ∃ l, Ths W W.heap.size v l ∧ weight l + l.length ≤ Rows.uptoBulk y.1 := by
  rcases DataW.trod_slice Tryd.underlying49 h with ⟨hcs, hx⟩ | ⟨a, len, cap, elems, rest, n, _, hcs, hx, _, hlc, hcm, hel, hget, _, _⟩
  · simp only [List.cons.injEq, and_true] at hcs
    subst hcs
    refine ⟨[], ⟨none, 0, rfl, by simp, by omega, by simp, fun j hj => by simp at hj⟩, ?_⟩
    rw [hx]
    simp [weight, Rows.uptoBulk]
  · simp only [List.cons.injEq, and_true] at hcs
    subst hcs
    rw [cTh] at hget
    have hone : ∀ i : Fin len, ∃ x : Th, x.ok ∧ (∃ b off A' c', some a = some ⟨b, off, none⟩ ∧ b < W.heap.size ∧ W.cell? ⟨b, off + i.1 * 3, none⟩ = some (.int .i64 x.kd) ∧ W.cell? ⟨b, off + i.1 * 3 + 1, none⟩ = some (.int .i64 x.n) ∧
        W.cell? ⟨b, off + i.1 * 3 + 2, none⟩ = some (.slice A' x.t.length c') ∧ Sl W W.heap.size (.slice A' x.t.length c') x.t) ∧ ∃ z, elems[i.1]? = some z ∧ x.t.length + 1 ≤ Rows.uptoBulk z.1 := by
      intro ⟨i, hi⟩
      have hg := hget i hi
      have hz : elems[i]? = some (elems[i]'(by omega)) := List.getElem?_eq_getElem (by omega)
      rw [hz, Option.bind_eq_some_iff] at hg
      obtain ⟨cs, hcs, htr⟩ := hg
      obtain ⟨_, hcl, hcell⟩ := World.cells?_some hcs
      obtain ⟨y0, y1, y2, m, hxz, _, t0, t1, t2⟩ := Go.Deep.trod_struct3 Tryd.underlying52 htr
      obtain ⟨c0, c1, c2, rfl⟩ : ∃ c0 c1 c2, cs = [c0, c1, c2] := by
        match cs, hcl with
        | [c0, c1, c2], _ => exact ⟨c0, c1, c2, rfl⟩
      have t0' : DataW.trod enc Tryd.prog W 0 (fun _ => true) held m 3 [c0] = some y0 := t0
      have t1' : DataW.trod enc Tryd.prog W 0 (fun _ => true) held m 3 [c1] = some y1 := t1
      have t2' : DataW.trod enc Tryd.prog W 0 (fun _ => true) held m 24 [c2] = some y2 := t2
      obtain ⟨kd, e0, _, wk⟩ := DataW.trod_int Tryd.underlying3 t0'
      obtain ⟨nn, e1, _, wn⟩ := DataW.trod_int Tryd.underlying3 t1'
      obtain ⟨A', n', c', t, rfl, ht, hdat⟩ := sl_of_trod t2'
      simp only [List.cons.injEq, and_true] at e0 e1
      subst e0; subst e1
      have q0 := hcell 0 (by omega)
      have q1 := hcell 1 (by omega)
      have q2 := hcell 2 (by omega)
      obtain ⟨b, off, spot⟩ := a
      have hspot : spot = none := by
        have hs0 := World.cell?_spot q0
        by_cases h0 : i * 3 = 0
        · simpa [Addr.add, h0] using hs0
        · cases spot with
          | none => rfl
          | some s =>
            exfalso
            have hg0 := hget 0 (by omega)
            have hz0 : elems[0]? = some (elems[0]'(by omega)) := List.getElem?_eq_getElem (by omega)
            rw [hz0, Option.bind_eq_some_iff] at hg0
            obtain ⟨cs0, hcs0, _⟩ := hg0
            obtain ⟨_, hcl0, hcell0⟩ := World.cells?_some hcs0
            have q00 := hcell0 0 (by omega)
            rw [List.getElem?_eq_getElem (by omega)] at q00
            have := World.cell?_spot q00
            simp [Addr.add] at this
      subst hspot
      simp only [add_plain] at q0 q1 q2
      have hb : b < W.heap.size := World.block_lt_of_cell? W ⟨b, off + i * 3 + 0, none⟩ q0
      have hlen := ht.len
      obtain ⟨hn', _, _⟩ := hlen
      subst hn'
      refine ⟨⟨kd, nn, t⟩, ⟨(bounds_i64 wn).1, (bounds_i64 wn).2, ?_⟩, ⟨b, off, A', c', rfl, hb, q0, q1, q2, ht⟩, _, hz, ?_⟩
      · show t.length < 18446744073709551616
        have := ht.len
        omega
      · rw [hxz]
        show t.length + 1 ≤ Rows.uptoBulk (.agg [y0.1, y1.1, y2.1])
        simp only [Rows.uptoBulk, Rows.uptoBulkAll]
        have b0 := bulk_one y0.1
        rcases hdat with ⟨_, hnil⟩ | ⟨es, sp, hd, hel'⟩
        · rw [hnil]; simp only [List.length_nil]; omega
        · rw [hd]
          simp only [Rows.uptoBulk]
          have := bulk_length es
          omega
    obtain ⟨f, hf⟩ := Classical.axiomOfChoice hone
    refine ⟨List.ofFn f, ⟨some a, cap, by rw [List.length_ofFn], by rw [List.length_ofFn]; exact hlc, by simp only [maxLen] at hcm; omega, ?_, ?_⟩, ?_⟩
    · intro x hx'
      obtain ⟨i, rfl⟩ := (List.mem_ofFn).1 hx'
      exact (hf i).1
    · intro j hj
      have hj' : j < len := by simpa using hj
      have := (hf ⟨j, hj'⟩).2.1
      simpa [List.getElem_ofFn] using this
    · rw [hx]
      simp only [Rows.uptoBulk]
      have := weight_bulk (elems.map (·.1)) (List.ofFn f) (by simp [hel]) (fun i h1 h2 => by
        have hi : i < len := by simpa using h1
        obtain ⟨z, hz, hw⟩ := (hf ⟨i, hi⟩).2.2
        have he : elems[i]'(by omega) = z := by
          rw [List.getElem?_eq_getElem (by omega)] at hz
          exact Option.some.inj hz
        simp only [List.getElem_ofFn, List.getElem_map]
        rw [he]
        exact hw)
      omega

end Go.Proofs.YteblpfnmcbehmaaDoor.pk
