/-
  Acts that are read; what a bound on what is read gives.
-/
import Derived.Test.YtlhagbcomnjnoaaDoorRead
import Derived.Test.YtlhagbcomnjnoaaDoorActs
namespace Go.Proofs.YtlhagbcomnjnoaaDoor.pk
open Go Go.RowKit Go.ChangeShapes Go.WideShapes Go.ChangeAt
set_option maxRecDepth 100000

section
variable {H : Type} {enc : TypeId × Value → H} {P : Program} {w : World} {base : Nat} {spare : Nat → Bool} {held : Bool}
theorem trod_struct5 {t : TypeId} {f0 f1 f2 f3 f4 : Field} {fuel : Nat} {cs : List Value} {x : DataW H × List MemPlace} (ht : P.underlying t = some (.struct #[f0, f1, f2, f3, f4])) (h : DataW.trod enc P w base spare held fuel t cs = some x) :
    ∃ y0 y1 y2 y3 y4 n, x.1 = .agg [y0.1, y1.1, y2.1, y3.1, y4.1] ∧ DataW.trod enc P w base spare held n f0.type ((cs.drop f0.offset).take (P.cellsOf f0.type)) = some y0 ∧
      DataW.trod enc P w base spare held n f1.type ((cs.drop f1.offset).take (P.cellsOf f1.type)) = some y1 ∧ DataW.trod enc P w base spare held n f2.type ((cs.drop f2.offset).take (P.cellsOf f2.type)) = some y2 ∧
      DataW.trod enc P w base spare held n f3.type ((cs.drop f3.offset).take (P.cellsOf f3.type)) = some y3 ∧ DataW.trod enc P w base spare held n f4.type ((cs.drop f4.offset).take (P.cellsOf f4.type)) = some y4 := by
  obtain ⟨xs, n, _, rfl, hl, hlen, hf⟩ := DataW.trod_struct ht h
  match xs, hlen with
  | [y0, y1, y2, y3, y4], _ => exact ⟨y0, y1, y2, y3, y4, n, by simp, by simpa using hf 0 f0 rfl, by simpa using hf 1 f1 rfl, by simpa using hf 2 f2 rfl, by simpa using hf 3 f3 rfl, by simpa using hf 4 f4 rfl⟩
theorem take_at {cs : List Value} {i o : Nat} {u : Value} (h : ((((cs.drop (i * 5)).take 5).drop o).take 1) = [u]) : cs[i * 5 + o]? = some u := by
  have h1 : ((((cs.drop (i * 5)).take 5).drop o).take 1)[0]? = some u := by rw [h]; rfl
  rw [List.getElem?_take, if_pos (by omega), List.getElem?_drop, List.getElem?_take] at h1
  split at h1
  · rw [List.getElem?_drop] at h1
    simpa using h1
  · cases h1
theorem weights_mem {P : Program} {e : TypeId} {x : DataW H} {n : Nat} : ∀ {es : List (DataW H)}, x ∈ es → n ∈ x.weights P e → n ∈ DataW.weightsAll P e es
  | [], h, _ => by cases h
  | y :: r, h, hn => by
    simp only [DataW.weightsAll]
    rcases List.mem_cons.1 h with rfl | h
    · exact List.mem_append_left _ hn
    · exact List.mem_append_right _ (weights_mem h hn)
end

theorem cActS : Tryd.prog.cellsOf 48 = 5 := by kernel_rfl
theorem cActB : Tryd.prog.cellsOf 24 = 1 := by kernel_rfl
theorem cActI : Tryd.prog.cellsOf 46 = 1 := by kernel_rfl
theorem bInt : Tryd.prog.bytesOf 3 = 8 := by kernel_rfl

theorem keep_bound {H : Type} {d : DataW H} {zs : List Int} (hd : (d = .nil ∧ zs = []) ∨ ∃ es sp, d = .slice es sp ∧ es.length = zs.length) (hz : ∀ n ∈ d.weights Tryd.prog 46, n ≤ reachBytes) : zs.length * 8 ≤ 140737488355328 := by
  rcases hd with ⟨_, rfl⟩ | ⟨es, sp, rfl, hl⟩
  · simp
  · have := hz ((es.length + sp.length) * 8) (by simp [DataW.weights, Tryd.underlying46, bInt])
    simp only [reachBytes] at this
    omega

theorem acts_of_trod {H : Type} {enc : TypeId × Value → H} {W : World} {held : Bool} {fuel : Nat} {v : Value} {y : DataW H × List MemPlace}
    (h : DataW.trod enc Tryd.prog W 0 (fun _ => true) held fuel 22 [v] = some y) (hz : ∀ n ∈ y.1.weights Tryd.prog 22, n ≤ reachBytes) :
    ∃ A c l, v = .slice A (List.length l) c ∧ ActsT W (fun k => k < W.heap.size) (.slice A l.length c) l := by
  obtain ⟨A, n, c, cs, rfl, hr, hd⟩ := row_of_trod Tryd.underlying22 cActS (by omega) h
  rcases hd with ⟨hy, rfl⟩ | ⟨es, sp, hy, hl, he⟩
  · exact ⟨A, c, [], rfl, cs, hr, fun j hj => by simp at hj⟩
  · have hone : ∀ i : Fin n, ∃ a : Ac, a.ok ∧ cs[i.1 * 5]? = some (.int .i64 a.kind) ∧ cs[i.1 * 5 + 1]? = some (.int .i64 a.at_) ∧ cs[i.1 * 5 + 2]? = some (.int .i64 a.n) ∧
        (∃ u, cs[i.1 * 5 + 3]? = some u ∧ SlT W (fun k => k < W.heap.size) u a.data) ∧ ∃ u, cs[i.1 * 5 + 4]? = some u ∧ IntsT W (fun k => k < W.heap.size) u a.keep := fun ⟨i, hi⟩ => by
      obtain ⟨m, z, htr, hes⟩ := he i hi
      have hl1 : cs.length = n * 5 := hr.1
      have hone : ∀ o, o < 5 → ∃ u, (((cs.drop (i * 5)).take 5).drop o).take 1 = [u] := fun o ho => by
        refine List.length_eq_one_iff.1 ?_
        simp only [List.length_take, List.length_drop]
        omega
      obtain ⟨y0, y1, y2, y3, y4, m', hx, t0, t1, t2, t3, t4⟩ := trod_struct5 Tryd.underlying48 htr
      have t0' : DataW.trod enc Tryd.prog W 0 (fun _ => true) held m' 3 ((((cs.drop (i * 5)).take 5).drop 0).take 1) = some y0 := t0
      have t1' : DataW.trod enc Tryd.prog W 0 (fun _ => true) held m' 3 ((((cs.drop (i * 5)).take 5).drop 1).take 1) = some y1 := t1
      have t2' : DataW.trod enc Tryd.prog W 0 (fun _ => true) held m' 3 ((((cs.drop (i * 5)).take 5).drop 2).take 1) = some y2 := t2
      have t3' : DataW.trod enc Tryd.prog W 0 (fun _ => true) held m' 24 ((((cs.drop (i * 5)).take 5).drop 3).take 1) = some y3 := t3
      have t4' : DataW.trod enc Tryd.prog W 0 (fun _ => true) held m' 46 ((((cs.drop (i * 5)).take 5).drop 4).take 1) = some y4 := t4
      obtain ⟨k0, e0, _, w0⟩ := DataW.trod_int Tryd.underlying3 t0'
      obtain ⟨k1, e1, _, w1⟩ := DataW.trod_int Tryd.underlying3 t1'
      obtain ⟨k2, e2, _, w2⟩ := DataW.trod_int Tryd.underlying3 t2'
      obtain ⟨u3, e3⟩ := hone 3 (by omega)
      obtain ⟨u4, e4⟩ := hone 4 (by omega)
      rw [e3] at t3'
      rw [e4] at t4'
      obtain ⟨A3, n3, c3, bs, rfl, hs3, _⟩ := sl_of_trod t3'
      obtain ⟨A4, c4, zs, rfl, hs4, hi4, hd4⟩ := ints_of_trod t4'
      refine ⟨⟨k0, k1, k2, bs, zs⟩, ⟨inI_of w0, inI_of w1, inI_of w2, hi4, ?_⟩, take_at e0, take_at e1, take_at e2, ⟨_, take_at e3, hs3.toT⟩, ⟨_, take_at e4, hs4⟩⟩
      refine keep_bound hd4 fun q hq => hz q ?_
      rw [hy]
      simp only [DataW.weights, Tryd.underlying22]
      refine List.mem_cons_of_mem _ (List.mem_append_left _ (weights_mem (x := z.1) (List.mem_of_getElem? hes) ?_))
      rw [hx]
      simp only [DataW.weights, Tryd.underlying48, DataW.weightsEach, List.map_cons, List.map_nil]
      simp only [List.mem_append]
      exact Or.inr (Or.inr (Or.inr (Or.inr (Or.inl hq))))
    obtain ⟨f, hf⟩ := Classical.axiomOfChoice hone
    have hln : (List.ofFn f).length = n := List.length_ofFn ..
    refine ⟨A, c, List.ofFn f, by rw [hln], cs, by rw [hln]; exact hr, fun j hj => ?_⟩
    have hj' : j < n := by rw [hln] at hj; exact hj
    simpa [List.getElem_ofFn] using hf ⟨j, hj'⟩

end Go.Proofs.YtlhagbcomnjnoaaDoor.pk
