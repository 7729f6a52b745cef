/-
  Items, queues, small arrays of numbers that are read.
-/
import Derived.Test.YtojejcafahighaaRead
import Derived.Test.YtojejcafahighaaItM
namespace Go.Proofs.Ytojejcafahighaa.pk
open Go Go.RowKit Go.ChangeShapes Go.WideShapes Go.ChangeAt
set_option maxRecDepth 100000

section
variable {H : Type} {enc : TypeId × Value → H} {P : Program} {w : World} {base : Nat} {spare : Nat → Bool} {held : Bool}
theorem trod_structQ2 {t : TypeId} {f0 f1 : Field} {fuel : Nat} {cs : List Value} {x : DataW H × List MemPlace} (ht : P.underlying t = some (.struct #[f0, f1])) (h : DataW.trod enc P w base spare held fuel t cs = some x) :
    ∃ y0 y1 n, x.1 = .agg [y0.1, y1.1] ∧ DataW.trod enc P w base spare held n f0.type ((cs.drop f0.offset).take (P.cellsOf f0.type)) = some y0 ∧
      DataW.trod enc P w base spare held n f1.type ((cs.drop f1.offset).take (P.cellsOf f1.type)) = some y1 := by
  obtain ⟨xs, n, _, rfl, hl, hlen, hf⟩ := DataW.trod_struct ht h
  match xs, hlen with
  | [y0, y1], _ => exact ⟨y0, y1, n, by simp, by simpa using hf 0 f0 rfl, by simpa using hf 1 f1 rfl⟩
theorem trod_structQ4 {t : TypeId} {f0 f1 f2 f3 : Field} {fuel : Nat} {cs : List Value} {x : DataW H × List MemPlace} (ht : P.underlying t = some (.struct #[f0, f1, f2, f3])) (h : DataW.trod enc P w base spare held fuel t cs = some x) :
    ∃ y0 y1 y2 y3 n, x.1 = .agg [y0.1, y1.1, y2.1, y3.1] ∧ DataW.trod enc P w base spare held n f0.type ((cs.drop f0.offset).take (P.cellsOf f0.type)) = some y0 ∧
      DataW.trod enc P w base spare held n f1.type ((cs.drop f1.offset).take (P.cellsOf f1.type)) = some y1 ∧ DataW.trod enc P w base spare held n f2.type ((cs.drop f2.offset).take (P.cellsOf f2.type)) = some y2 ∧
      DataW.trod enc P w base spare held n f3.type ((cs.drop f3.offset).take (P.cellsOf f3.type)) = some y3 := by
  obtain ⟨xs, n, _, rfl, hl, hlen, hf⟩ := DataW.trod_struct ht h
  match xs, hlen with
  | [y0, y1, y2, y3], _ => exact ⟨y0, y1, y2, y3, n, by simp, by simpa using hf 0 f0 rfl, by simpa using hf 1 f1 rfl, by simpa using hf 2 f2 rfl, by simpa using hf 3 f3 rfl⟩
end

theorem cItQ : Try.prog.cellsOf 29 = 4 := by kernel_rfl
/-- One item. -/
theorem it_of {H : Type} {enc : TypeId × Value → H} {W : World} {held : Bool} {m' : Nat} {cs : List Value} {z : DataW H × List MemPlace} (hl : cs.length = 4) (htr : DataW.trod enc Try.prog W 0 (fun _ => true) held m' 29 cs = some z) :
    ∃ x : It, x.inI ∧ cs = [.int .i64 x.term, .int .i64 x.round, .int .i64 x.index, .int .i64 x.token] := by
  obtain ⟨y0, y1, y2, y3, n, _, t0, t1, t2, t3⟩ := trod_structQ4 Try.underlying29 htr
  obtain ⟨c0, c1, c2, c3, rfl⟩ : ∃ c0 c1 c2 c3, cs = [c0, c1, c2, c3] := by
    match cs, hl with
    | [c0, c1, c2, c3], _ => exact ⟨c0, c1, c2, c3, rfl⟩
  have t0' : DataW.trod enc Try.prog W 0 (fun _ => true) held n 3 [c0] = some y0 := t0
  have t1' : DataW.trod enc Try.prog W 0 (fun _ => true) held n 3 [c1] = some y1 := t1
  have t2' : DataW.trod enc Try.prog W 0 (fun _ => true) held n 3 [c2] = some y2 := t2
  have t3' : DataW.trod enc Try.prog W 0 (fun _ => true) held n 3 [c3] = some y3 := t3
  obtain ⟨k0, e0, _, w0⟩ := DataW.trod_int Try.underlying3 t0'
  obtain ⟨k1, e1, _, w1⟩ := DataW.trod_int Try.underlying3 t1'
  obtain ⟨k2, e2, _, w2⟩ := DataW.trod_int Try.underlying3 t2'
  obtain ⟨k3, e3, _, w3⟩ := DataW.trod_int Try.underlying3 t3'
  simp only [List.cons.injEq, and_true] at e0 e1 e2 e3
  subst e0; subst e1; subst e2; subst e3
  exact ⟨⟨k0, k1, k2, k3⟩, ⟨inI_of w0, inI_of w1, inI_of w2, inI_of w3⟩, rfl⟩
/-- A slice of items. -/
theorem its_of_trod {H : Type} {enc : TypeId × Value → H} {W : World} {held : Bool} {fuel : Nat} {v : Value} {y : DataW H × List MemPlace}
    (h : DataW.trod enc Try.prog W 0 (fun _ => true) held fuel 22 [v] = some y) :
    ∃ A c l, v = .slice A (List.length l) c ∧ Its W (.slice A l.length c) l := by
  obtain ⟨A, n, c, cs, rfl, hr, hd⟩ := row_of_trod Try.underlying22 cItQ (by omega) h
  rcases hd with ⟨hy, rfl⟩ | ⟨es, sp, hy, hl, he⟩
  · exact ⟨A, c, [], rfl, ⟨cs, hr, fun j hj => by simp at hj⟩, fun e he => by cases he⟩
  · have hone : ∀ i : Fin n, ∃ x : It, x.inI ∧ ItC cs (i.1 * 4) x := fun ⟨i, hi⟩ => by
      obtain ⟨m, z, htr, _⟩ := he i hi
      have hl1 : cs.length = n * 4 := hr.1
      obtain ⟨a, hok, hcs⟩ := it_of (by rw [List.length_take, List.length_drop]; omega) htr
      have hg : ∀ o x, [Value.int .i64 a.term, .int .i64 a.round, .int .i64 a.index, .int .i64 a.token][o]? = some x → cs[i * 4 + o]? = some x := fun o x hx => by
        rw [← hcs, List.getElem?_take] at hx
        split at hx
        · rw [List.getElem?_drop] at hx; exact hx
        · cases hx
      exact ⟨a, hok, hg 0 _ rfl, hg 1 _ rfl, hg 2 _ rfl, hg 3 _ rfl⟩
    obtain ⟨f, hf⟩ := Classical.axiomOfChoice hone
    have hln : (List.ofFn f).length = n := List.length_ofFn ..
    refine ⟨A, c, List.ofFn f, by rw [hln], ⟨cs, by rw [hln]; exact hr, fun j hj => ?_⟩, fun e he => ?_⟩
    · have hj' : j < n := by rw [hln] at hj; exact hj
      simp only [List.getElem_ofFn]
      exact (hf ⟨j, hj'⟩).2
    · obtain ⟨i, rfl⟩ := List.mem_ofFn.1 he
      exact (hf i).1
theorem open_item {H : Type} {enc : TypeId × Value → H} {W : World} {r : Reach} {b0 : Nat} {held : Bool} {v : Value} {d : DataW H} {ps : List MemPlace} (hval : Value.okWide Try.prog W r b0 29 v)
    (hd : DataW.Trod enc Try.prog W 0 (fun _ => true) held 29 v d ps) : ∃ x : It, v = .agg #[.int .i64 x.term, .int .i64 x.round, .int .i64 x.index, .int .i64 x.token] ∧ x.inI := by
  simp only [Value.okWide, Try.underlying29] at hval
  obtain ⟨cs, rfl, hsz, _⟩ := hval
  rw [cItQ] at hsz
  obtain ⟨fuel, hf⟩ := hd
  obtain ⟨x, hok, hcs⟩ := it_of (cs := cs.toList) (by simpa using hsz) hf
  exact ⟨x, by cases cs; simp_all, hok⟩
theorem cQuQ : Try.prog.cellsOf 42 = 2 := by kernel_rfl
theorem open_queue {H : Type} {enc : TypeId × Value → H} {W : World} {r : Reach} {b0 : Nat} {held : Bool} {v : Value} {d : DataW H} {ps : List MemPlace} (hval : Value.okWide Try.prog W r b0 42 v)
    (hd : DataW.Trod enc Try.prog W 0 (fun _ => true) held 42 v d ps) : ∃ (k : Int) (A : Option Addr) (n c : Nat) (l : List It), v = .agg #[.int .i64 k, .slice A n c] ∧ inI k ∧ Its W (.slice A n c) l := by
  simp only [Value.okWide, Try.underlying42] at hval
  obtain ⟨cs, rfl, hsz, _⟩ := hval
  rw [cQuQ] at hsz
  obtain ⟨fuel, hf⟩ := hd
  obtain ⟨c0, c1, rfl⟩ : ∃ c0 c1, cs = #[c0, c1] := by
    obtain ⟨l⟩ := cs
    match l, hsz with
    | [c0, c1], _ => exact ⟨c0, c1, rfl⟩
  obtain ⟨y0, y1, n, _, t0, t1⟩ := trod_structQ2 Try.underlying42 hf
  have t0' : DataW.trod enc Try.prog W 0 (fun _ => true) held n 3 [c0] = some y0 := t0
  have t1' : DataW.trod enc Try.prog W 0 (fun _ => true) held n 22 [c1] = some y1 := t1
  obtain ⟨k0, e0, _, w0⟩ := DataW.trod_int Try.underlying3 t0'
  obtain ⟨A, c, l, e1, h1⟩ := its_of_trod t1'
  simp only [List.cons.injEq, and_true] at e0
  subst e0; subst e1
  exact ⟨k0, A, _, c, l, rfl, inI_of w0, h1⟩
theorem cA3 : Try.prog.cellsOf 37 = 3 := by kernel_rfl
theorem arr3_of {H : Type} {enc : TypeId × Value → H} {W : World} {held : Bool} {m' : Nat} {cs : List Value} {z : DataW H × List MemPlace} (hl : cs.length = 3) (htr : DataW.trod enc Try.prog W 0 (fun _ => true) held m' 37 cs = some z) :
    ∃ a b c : Int, inI a ∧ inI b ∧ inI c ∧ cs = [.int .i64 a, .int .i64 b, .int .i64 c] := by
  obtain ⟨c0, c1, c2, rfl⟩ : ∃ c0 c1 c2, cs = [c0, c1, c2] := by
    match cs, hl with
    | [c0, c1, c2], _ => exact ⟨c0, c1, c2, rfl⟩
  obtain ⟨xs, m, _, _, _, hxl, hx⟩ := DataW.trod_array Try.underlying37 htr
  rw [cI64] at hx
  obtain ⟨y0, y1, y2, rfl⟩ : ∃ y0 y1 y2, xs = [y0, y1, y2] := by
    match xs, hxl with
    | [y0, y1, y2], _ => exact ⟨y0, y1, y2, rfl⟩
  have h0 : DataW.trod enc Try.prog W 0 (fun _ => true) held m 3 [c0] = some y0 := hx 0 (by decide)
  have h1 : DataW.trod enc Try.prog W 0 (fun _ => true) held m 3 [c1] = some y1 := hx 1 (by decide)
  have h2 : DataW.trod enc Try.prog W 0 (fun _ => true) held m 3 [c2] = some y2 := hx 2 (by decide)
  obtain ⟨n0, e0, _, w0⟩ := DataW.trod_int Try.underlying3 h0
  obtain ⟨n1, e1, _, w1⟩ := DataW.trod_int Try.underlying3 h1
  obtain ⟨n2, e2, _, w2⟩ := DataW.trod_int Try.underlying3 h2
  simp only [List.cons.injEq, and_true] at e0 e1 e2
  subst e0; subst e1; subst e2
  exact ⟨n0, n1, n2, inI_of w0, inI_of w1, inI_of w2, rfl⟩
theorem open_arr3 {H : Type} {enc : TypeId × Value → H} {W : World} {r : Reach} {b0 : Nat} {held : Bool} {v : Value} {d : DataW H} {ps : List MemPlace} (hval : Value.okWide Try.prog W r b0 37 v)
    (hd : DataW.Trod enc Try.prog W 0 (fun _ => true) held 37 v d ps) : ∃ a b c : Int, v = .agg #[.int .i64 a, .int .i64 b, .int .i64 c] ∧ inI a ∧ inI b ∧ inI c := by
  simp only [Value.okWide, Try.underlying37] at hval
  obtain ⟨cs, rfl, hsz, _⟩ := hval
  rw [cA3] at hsz
  obtain ⟨fuel, hf⟩ := hd
  obtain ⟨a, b, c, h0, h1, h2, hcs⟩ := arr3_of (cs := cs.toList) (by simpa using hsz) hf
  exact ⟨a, b, c, by cases cs; simp_all, h0, h1, h2⟩
theorem cA2 : Try.prog.cellsOf 48 = 2 := by kernel_rfl
theorem open_arr2 {H : Type} {enc : TypeId × Value → H} {W : World} {r : Reach} {b0 : Nat} {held : Bool} {v : Value} {d : DataW H} {ps : List MemPlace} (hval : Value.okWide Try.prog W r b0 48 v)
    (hd : DataW.Trod enc Try.prog W 0 (fun _ => true) held 48 v d ps) : ∃ a b : Int, v = .agg #[.int .i64 a, .int .i64 b] := by
  simp only [Value.okWide, Try.underlying48] at hval
  obtain ⟨cs, rfl, hsz, _⟩ := hval
  rw [cA2] at hsz
  obtain ⟨fuel, hf⟩ := hd
  obtain ⟨c0, c1, rfl⟩ : ∃ c0 c1, cs = #[c0, c1] := by
    obtain ⟨l⟩ := cs
    match l, hsz with
    | [c0, c1], _ => exact ⟨c0, c1, rfl⟩
  obtain ⟨xs, m, _, _, _, hxl, hx⟩ := DataW.trod_array Try.underlying48 hf
  rw [cI64] at hx
  obtain ⟨y0, y1, rfl⟩ : ∃ y0 y1, xs = [y0, y1] := by
    match xs, hxl with
    | [y0, y1], _ => exact ⟨y0, y1, rfl⟩
  have h0 : DataW.trod enc Try.prog W 0 (fun _ => true) held m 3 [c0] = some y0 := hx 0 (by decide)
  have h1 : DataW.trod enc Try.prog W 0 (fun _ => true) held m 3 [c1] = some y1 := hx 1 (by decide)
  obtain ⟨n0, e0, _, w0⟩ := DataW.trod_int Try.underlying3 h0
  obtain ⟨n1, e1, _, w1⟩ := DataW.trod_int Try.underlying3 h1
  simp only [List.cons.injEq, and_true] at e0 e1
  subst e0; subst e1
  exact ⟨n0, n1, rfl⟩

end Go.Proofs.Ytojejcafahighaa.pk
