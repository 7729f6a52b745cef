/-
  From a row's reading to the walks' words: a slice of any elements, of numbers, of truths, of slices of bytes; what the bound gives.
-/
import Derived.Test.YtojejcafahighaaRow
import Derived.Test.YtojejcafahighaaRowT
import Derived.Deep.Grids
namespace Go.Proofs.Ytojejcafahighaa.pk
open Go Go.RowKit Go.ChangeShapes Go.WideShapes Go.ChangeAt
set_option maxRecDepth 100000

/-- A slice of any elements that is read: its cells, and each element's own reading. -/
theorem row_of_trod {H : Type} {enc : TypeId × Value → H} {W : World} {held : Bool} {fuel : Nat} {v : Value} {y : DataW H × List MemPlace} {t e : TypeId} {sz : Nat}
    (ht : Try.prog.underlying t = some (.slice e)) (hs : Try.prog.cellsOf e = sz) (hs0 : 0 < sz) (h : DataW.trod enc Try.prog W 0 (fun _ => true) held fuel t [v] = some y) :
    ∃ A n c cs, v = .slice A n c ∧ RowT W (fun k => k < W.heap.size) sz (.slice A n c) n cs ∧
      ((y.1 = .nil ∧ n = 0) ∨ ∃ es sp, y.1 = .slice es sp ∧ es.length = n ∧ ∀ i, i < n → ∃ m z, DataW.trod enc Try.prog W 0 (fun _ => true) held m e ((cs.drop (i * sz)).take sz) = some z ∧ es[i]? = some z.1) := by
  rcases DataW.trod_slice ht h with ⟨hcs, hx⟩ | ⟨a, len, cap, elems, rest, n, _, hcs, hx, _, hlc, hcm, hel, hget, _, _⟩
  · simp only [List.cons.injEq, and_true] at hcs
    subst hcs
    exact ⟨none, 0, 0, [], rfl, RowT.nil_ _ _ _, Or.inl ⟨by rw [hx], rfl⟩⟩
  · simp only [List.cons.injEq, and_true] at hcs
    subst hcs
    rw [hs] at hget
    have hcm' : cap ≤ 9223372036854775807 := by simp only [maxLen] at hcm; omega
    have hrow : ∀ i, i < len → ∃ ws z, elems[i]? = some z ∧ ws.length = sz ∧ (∀ r, r < sz → W.cell? ((a.add (i * sz)).add r) = ws[r]?) ∧ DataW.trod enc Try.prog W 0 (fun _ => true) held n e ws = some z := by
      intro i hi
      have hg := hget i hi
      have hz : elems[i]? = some (elems[i]'(by omega)) := List.getElem?_eq_getElem (by omega)
      rw [hz, Option.bind_eq_some_iff] at hg
      obtain ⟨ws, hw, htr⟩ := hg
      obtain ⟨_, hwl, hcell⟩ := World.cells?_some hw
      exact ⟨ws, _, hz, hwl, hcell, htr⟩
    by_cases h0 : len = 0
    · subst h0
      exact ⟨some a, 0, cap, [], rfl, ⟨by simp, some a, cap, rfl, hlc, hcm', Or.inl rfl⟩, Or.inr ⟨_, _, by rw [hx], by rw [List.length_map]; exact hel, fun i hi => by omega⟩⟩
    obtain ⟨b, off, spot⟩ := a
    have hspot : spot = none := by
      obtain ⟨ws, z, _, hwl, hc, _⟩ := hrow 0 (by omega)
      have h1 := hc 0 (by omega)
      rw [List.getElem?_eq_getElem (by omega)] at h1
      simpa [Addr.add] using World.cell?_spot h1
    subst hspot
    simp only [Lib.add_plain] at hrow
    have hb : b < W.heap.size := by
      obtain ⟨ws, z, _, hwl, hc, _⟩ := hrow 0 (by omega)
      have h1 := hc 0 (by omega)
      rw [List.getElem?_eq_getElem (by omega)] at h1
      exact World.block_lt_of_cell? W ⟨b, off + 0 * sz + 0, none⟩ h1
    have hcell : ∀ j, j < len * sz → ∃ u, W.cell? ⟨b, off + j, none⟩ = some u := by
      intro j hj
      obtain ⟨ws, z, _, hwl, hc, _⟩ := hrow (j / sz) (Nat.div_lt_of_lt_mul (by rw [Nat.mul_comm]; exact hj))
      have h1 := hc (j % sz) (Nat.mod_lt _ hs0)
      rw [List.getElem?_eq_getElem (by rw [hwl]; exact Nat.mod_lt _ hs0), Nat.add_assoc, Nat.mul_comm (j / sz) sz, Nat.div_add_mod] at h1
      exact ⟨_, h1⟩
    have hcs : ∀ j, j < len * sz → ((List.range (len * sz)).map fun j => (W.cell? ⟨b, off + j, none⟩).getD .nilIface)[j]? = W.cell? ⟨b, off + j, none⟩ := by
      intro j hj
      obtain ⟨u, hu⟩ := hcell j hj
      rw [List.getElem?_map, List.getElem?_range hj]
      simp [hu]
    refine ⟨some ⟨b, off, none⟩, len, cap, (List.range (len * sz)).map fun j => (W.cell? ⟨b, off + j, none⟩).getD .nilIface, rfl, ⟨by simp, some ⟨b, off, none⟩, cap, rfl, hlc, hcm', Or.inr ⟨b, off, rfl, hb, fun j u hj => ?_⟩⟩, Or.inr ⟨_, _, by rw [hx], by rw [List.length_map]; exact hel, fun i hi => ?_⟩⟩
    · have hlt : j < len * sz := by
        have := (List.getElem?_eq_some_iff.1 hj).1
        simpa using this
      rw [hcs j hlt] at hj
      exact hj
    · obtain ⟨ws, z, hz, hwl, hc, htr⟩ := hrow i hi
      have hle : i * sz + sz ≤ len * sz := by
        have := Nat.mul_le_mul_right sz (show i + 1 ≤ len from hi)
        rw [Nat.add_mul, Nat.one_mul] at this
        exact this
      refine ⟨n, z, ?_, by rw [List.getElem?_map, hz]; rfl⟩
      rw [← htr]
      congr 1
      refine List.ext_getElem? fun r => ?_
      rw [List.getElem?_take]
      by_cases hr : r < sz
      · rw [if_pos hr, List.getElem?_drop, hcs _ (by omega), ← hc r hr, Nat.add_assoc]
      · rw [if_neg hr, List.getElem?_eq_none (by omega)]

theorem cI64 : Try.prog.cellsOf 3 = 1 := by kernel_rfl
theorem take_one {cs : List Value} {i : Nat} {u : Value} (h : (cs.drop (i * 1)).take 1 = [u]) : cs[i]? = some u := by
  have h1 : ((cs.drop (i * 1)).take 1)[0]? = some u := by rw [h]; rfl
  rw [List.getElem?_take, if_pos (by omega), List.getElem?_drop] at h1
  simpa using h1
theorem inI_of {n : Int} (h : (Lit.int .i64 n).wf = true) : inI n := bounds_i64 h

/-- Numbers that are read. -/
theorem ints_of_trod {H : Type} {enc : TypeId × Value → H} {W : World} {held : Bool} {fuel : Nat} {v : Value} {y : DataW H × List MemPlace}
    (h : DataW.trod enc Try.prog W 0 (fun _ => true) held fuel 34 [v] = some y) :
    ∃ A c zs, v = .slice A zs.length c ∧ IntsT W (fun k => k < W.heap.size) (.slice A zs.length c) zs ∧ (∀ z ∈ zs, inI z) ∧ ((y.1 = .nil ∧ zs = []) ∨ ∃ es sp, y.1 = .slice es sp ∧ es.length = zs.length) := by
  obtain ⟨A, n, c, cs, rfl, hr, hd⟩ := row_of_trod Try.underlying34 cI64 (by omega) h
  rcases hd with ⟨hy, rfl⟩ | ⟨es, sp, hy, hl, he⟩
  · have hc0 : cs = [] := List.eq_nil_of_length_eq_zero (by have := hr.1; omega)
    subst hc0
    exact ⟨A, c, [], rfl, hr, (fun z hz => by cases hz), Or.inl ⟨hy, rfl⟩⟩
  · have hone : ∀ i : Fin n, ∃ z : Int, cs[i.1]? = some (.int .i64 z) ∧ inI z := fun ⟨i, hi⟩ => by
      obtain ⟨m, z, htr, _⟩ := he i hi
      obtain ⟨k, e0, _, wk⟩ := DataW.trod_int Try.underlying3 htr
      exact ⟨k, take_one e0, inI_of wk⟩
    obtain ⟨f, hf⟩ := Classical.axiomOfChoice hone
    have hcs : cs = (List.ofFn f).map (Value.int .i64) := by
      refine List.ext_getElem? fun j => ?_
      by_cases hj : j < n
      · rw [(hf ⟨j, hj⟩).1, List.getElem?_map, List.getElem?_eq_getElem (by simpa using hj), List.getElem_ofFn]
        rfl
      · have := hr.1
        rw [List.getElem?_eq_none (by omega), List.getElem?_eq_none (by simp; omega)]
    have hln : (List.ofFn f).length = n := List.length_ofFn ..
    refine ⟨A, c, List.ofFn f, by rw [hln], ?_, fun z hz => ?_, Or.inr ⟨es, sp, hy, by rw [hln]; exact hl⟩⟩
    · unfold IntsT
      rw [hln, ← hcs]
      exact hr
    · obtain ⟨i, rfl⟩ := List.mem_ofFn.1 hz
      exact (hf i).2
theorem bInt : Try.prog.bytesOf 3 = 8 := by kernel_rfl

theorem keep_bound {H : Type} {d : DataW H} {zs : List Int} (hd : (d = .nil ∧ zs = []) ∨ ∃ es sp, d = .slice es sp ∧ es.length = zs.length) (hz : ∀ n ∈ d.weights Try.prog 34, n ≤ reachBytes) : zs.length * 8 ≤ 140737488355328 := by
  rcases hd with ⟨_, rfl⟩ | ⟨es, sp, rfl, hl⟩
  · simp
  · have := hz ((es.length + sp.length) * 8) (by simp [DataW.weights, Try.underlying34, bInt])
    simp only [reachBytes] at this
    omega

end Go.Proofs.Ytojejcafahighaa.pk
