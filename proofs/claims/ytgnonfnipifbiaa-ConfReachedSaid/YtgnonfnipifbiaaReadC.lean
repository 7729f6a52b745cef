/-
  Marks that are read; an array of two lists of numbers.
-/
import Derived.Test.YtgnonfnipifbiaaRead
import Derived.Test.YtgnonfnipifbiaaMarks
namespace Go.Proofs.Ytgnonfnipifbiaa.pk
open Go Go.RowKit Go.ChangeShapes Go.WideShapes Go.ChangeAt
set_option maxRecDepth 100000

theorem trod_struct2 {H : Type} {enc : TypeId × Value → H} {P : Program} {w : World} {base : Nat} {spare : Nat → Bool} {held : Bool} {t : TypeId} {f0 f1 : Field} {fuel : Nat} {cs : List Value} {x : DataW H × List MemPlace} (ht : P.underlying t = some (.struct #[f0, f1])) (h : DataW.trod enc P w base spare held fuel t cs = some x) :
    ∃ y0 y1 n, x.1 = .agg [y0.1, y1.1] ∧ DataW.trod enc P w base spare held n f0.type ((cs.drop f0.offset).take (P.cellsOf f0.type)) = some y0 ∧
      DataW.trod enc P w base spare held n f1.type ((cs.drop f1.offset).take (P.cellsOf f1.type)) = some y1 := by
  obtain ⟨xs, n, _, rfl, hl, hlen, hf⟩ := DataW.trod_struct ht h
  match xs, hlen with
  | [y0, y1], _ => exact ⟨y0, y1, n, by simp, by simpa using hf 0 f0 rfl, by simpa using hf 1 f1 rfl⟩
theorem take_sz {sz : Nat} {cs : List Value} {i o : Nat} {u : Value} (h : ((((cs.drop (i * sz)).take sz).drop o).take 1) = [u]) : cs[i * sz + o]? = some u := by
  have h1 : ((((cs.drop (i * sz)).take sz).drop o).take 1)[0]? = some u := by rw [h]; rfl
  rw [List.getElem?_take, if_pos (by omega), List.getElem?_drop, List.getElem?_take] at h1
  split at h1
  · rw [List.getElem?_drop] at h1
    simpa using h1
  · cases h1

theorem cMark : Try.prog.cellsOf 45 = 2 := by kernel_rfl
theorem marks_of_trod {H : Type} {enc : TypeId × Value → H} {W : World} {held : Bool} {fuel : Nat} {v : Value} {y : DataW H × List MemPlace}
    (h : DataW.trod enc Try.prog W 0 (fun _ => true) held fuel 23 [v] = some y) :
    ∃ A c l, v = .slice A (List.length l) c ∧ Marks W (.slice A l.length c) l := by
  obtain ⟨A, n, c, cs, rfl, hr, hd⟩ := row_of_trod Try.underlying23 cMark (by omega) h
  rcases hd with ⟨hy, rfl⟩ | ⟨es, sp, hy, hl, he⟩
  · exact ⟨A, c, [], rfl, ⟨cs, hr, fun j hj => by simp at hj⟩, fun m hm => by cases hm⟩
  · have hone : ∀ i : Fin n, ∃ a : Int × Int, (inI a.1 ∧ inI a.2) ∧ cs[i.1 * 2]? = some (.int .i64 a.1) ∧ cs[i.1 * 2 + 1]? = some (.int .i64 a.2) := fun ⟨i, hi⟩ => by
      obtain ⟨m, z, htr, _⟩ := he i hi
      obtain ⟨y0, y1, m', _, t0, t1⟩ := trod_struct2 Try.underlying45 htr
      have t0' : DataW.trod enc Try.prog W 0 (fun _ => true) held m' 3 ((((cs.drop (i * 2)).take 2).drop 0).take 1) = some y0 := t0
      have t1' : DataW.trod enc Try.prog W 0 (fun _ => true) held m' 3 ((((cs.drop (i * 2)).take 2).drop 1).take 1) = some y1 := t1
      obtain ⟨k0, e0, _, w0⟩ := DataW.trod_int Try.underlying3 t0'
      obtain ⟨k1, e1, _, w1⟩ := DataW.trod_int Try.underlying3 t1'
      exact ⟨(k0, k1), ⟨inI_of w0, inI_of w1⟩, take_sz (sz := 2) (i := i) (o := 0) e0, take_sz (sz := 2) (i := i) (o := 1) e1⟩
    obtain ⟨f, hf⟩ := Classical.axiomOfChoice hone
    have hln : (List.ofFn f).length = n := List.length_ofFn ..
    refine ⟨A, c, List.ofFn f, by rw [hln], ⟨cs, by rw [hln]; exact hr, fun j hj => ?_⟩, fun m hm => ?_⟩
    · have hj' : j < n := by rw [hln] at hj; exact hj
      simpa [List.getElem_ofFn] using (hf ⟨j, hj'⟩).2
    · obtain ⟨i, rfl⟩ := List.mem_ofFn.1 hm
      exact (hf i).1

theorem cPair : Try.prog.cellsOf 35 = 2 := by kernel_rfl
theorem cInts : Try.prog.cellsOf 22 = 1 := by kernel_rfl
theorem open_pair {H : Type} {enc : TypeId × Value → H} {W : World} {r : Reach} {b0 : Nat} {held : Bool} {v : Value} {d : DataW H} {ps : List MemPlace} (hval : Value.okWide Try.prog W r b0 35 v)
    (hd : DataW.Trod enc Try.prog W 0 (fun _ => true) held 35 v d ps) : ∃ A n c A' n' c' zs ys, v = .agg #[.slice A n c, .slice A' n' c'] ∧ Ints W (.slice A n c) zs ∧ Ints W (.slice A' n' c') ys := by
  simp only [Value.okWide, Try.underlying35] at hval
  obtain ⟨cs, rfl, hsz, _⟩ := hval
  rw [cPair] at hsz
  obtain ⟨fuel, hf⟩ := hd
  obtain ⟨c0, c1, rfl⟩ : ∃ c0 c1, cs = #[c0, c1] := by
    obtain ⟨l⟩ := cs
    match l, hsz with
    | [c0, c1], _ => exact ⟨c0, c1, rfl⟩
  obtain ⟨xs, m, _, _, _, hxl, hx⟩ := DataW.trod_array Try.underlying35 hf
  rw [cInts] at hx
  obtain ⟨y0, y1, rfl⟩ : ∃ y0 y1, xs = [y0, y1] := by
    match xs, hxl with
    | [y0, y1], _ => exact ⟨y0, y1, rfl⟩
  have h0 : DataW.trod enc Try.prog W 0 (fun _ => true) held m 22 [c0] = some y0 := hx 0 (by decide)
  have h1 : DataW.trod enc Try.prog W 0 (fun _ => true) held m 22 [c1] = some y1 := hx 1 (by decide)
  obtain ⟨A, c, zs, rfl, hz, hzi, _⟩ := ints_of_trod h0
  obtain ⟨A', c', ys, rfl, hy, hyi, _⟩ := ints_of_trod h1
  exact ⟨A, _, c, A', _, c', zs, ys, rfl, ⟨hz, hzi⟩, ⟨hy, hyi⟩⟩

end Go.Proofs.Ytgnonfnipifbiaa.pk
