/-
  A box, a piece, pieces that are read.
-/
import Derived.Test.YtfdccdjfbdmblaaRead
import Derived.Test.YtfdccdjfbdmblaaLawU
namespace Go.Proofs.Ytfdccdjfbdmblaa.pk
open Go Go.RowKit Go.ChangeShapes Go.WideShapes Go.ChangeAt
set_option maxRecDepth 100000

theorem take_szK {sz : Nat} {cs : List Value} {i o : Nat} {u : Value} (h : ((((cs.drop (i * sz)).take sz).drop o).take 1) = [u]) : cs[i * sz + o]? = some u := by
  have h1 : ((((cs.drop (i * sz)).take sz).drop o).take 1)[0]? = some u := by rw [h]; rfl
  rw [List.getElem?_take, if_pos (by omega), List.getElem?_drop, List.getElem?_take] at h1
  split at h1
  · rw [List.getElem?_drop] at h1
    simpa using h1
  · cases h1

section
variable {H : Type} {enc : TypeId × Value → H} {P : Program} {w : World} {base : Nat} {spare : Nat → Bool} {held : Bool}
theorem trod_structK2 {t : TypeId} {f0 f1 : Field} {fuel : Nat} {cs : List Value} {x : DataW H × List MemPlace} (ht : P.underlying t = some (.struct #[f0, f1])) (h : DataW.trod enc P w base spare held fuel t cs = some x) :
    ∃ y0 y1 n, x.1 = .agg [y0.1, y1.1] ∧ DataW.trod enc P w base spare held n f0.type ((cs.drop f0.offset).take (P.cellsOf f0.type)) = some y0 ∧
      DataW.trod enc P w base spare held n f1.type ((cs.drop f1.offset).take (P.cellsOf f1.type)) = some y1 := by
  obtain ⟨xs, n, _, rfl, hl, hlen, hf⟩ := DataW.trod_struct ht h
  match xs, hlen with
  | [y0, y1], _ => exact ⟨y0, y1, n, by simp, by simpa using hf 0 f0 rfl, by simpa using hf 1 f1 rfl⟩
theorem trod_structK4 {t : TypeId} {f0 f1 f2 f3 : Field} {fuel : Nat} {cs : List Value} {x : DataW H × List MemPlace} (ht : P.underlying t = some (.struct #[f0, f1, f2, f3])) (h : DataW.trod enc P w base spare held fuel t cs = some x) :
    ∃ y0 y1 y2 y3 n, x.1 = .agg [y0.1, y1.1, y2.1, y3.1] ∧ DataW.trod enc P w base spare held n f0.type ((cs.drop f0.offset).take (P.cellsOf f0.type)) = some y0 ∧
      DataW.trod enc P w base spare held n f1.type ((cs.drop f1.offset).take (P.cellsOf f1.type)) = some y1 ∧ DataW.trod enc P w base spare held n f2.type ((cs.drop f2.offset).take (P.cellsOf f2.type)) = some y2 ∧
      DataW.trod enc P w base spare held n f3.type ((cs.drop f3.offset).take (P.cellsOf f3.type)) = some y3 := by
  obtain ⟨xs, n, _, rfl, hl, hlen, hf⟩ := DataW.trod_struct ht h
  match xs, hlen with
  | [y0, y1, y2, y3], _ => exact ⟨y0, y1, y2, y3, n, by simp, by simpa using hf 0 f0 rfl, by simpa using hf 1 f1 rfl, by simpa using hf 2 f2 rfl, by simpa using hf 3 f3 rfl⟩
end

theorem cPart : Try.prog.cellsOf 28 = 4 := by kernel_rfl
theorem cBox : Try.prog.cellsOf 26 = 2 := by kernel_rfl
theorem part_of {H : Type} {enc : TypeId × Value → H} {W : World} {held : Bool} {m' : Nat} {cs : List Value} {z : DataW H × List MemPlace} (hl : cs.length = 4) (htr : DataW.trod enc Try.prog W 0 (fun _ => true) held m' 28 cs = some z) :
    ∃ (a : Pt) (u : Value), (inI a.key ∧ inI a.off) ∧ cs = [.int .i64 a.key, .int .i64 a.off, u, .bool a.last] ∧ Bys W u a.piece := by
  obtain ⟨y0, y1, y2, y3, n, _, t0, t1, t2, t3⟩ := trod_structK4 Try.underlying28 htr
  obtain ⟨c0, c1, c2, c3, rfl⟩ : ∃ c0 c1 c2 c3, cs = [c0, c1, c2, c3] := by
    match cs, hl with
    | [c0, c1, c2, c3], _ => exact ⟨c0, c1, c2, c3, rfl⟩
  have t0' : DataW.trod enc Try.prog W 0 (fun _ => true) held n 3 [c0] = some y0 := t0
  have t1' : DataW.trod enc Try.prog W 0 (fun _ => true) held n 3 [c1] = some y1 := t1
  have t2' : DataW.trod enc Try.prog W 0 (fun _ => true) held n 23 [c2] = some y2 := t2
  have t3' : DataW.trod enc Try.prog W 0 (fun _ => true) held n 4 [c3] = some y3 := t3
  obtain ⟨k0, e0, _, w0⟩ := DataW.trod_int Try.underlying3 t0'
  obtain ⟨k1, e1, _, w1⟩ := DataW.trod_int Try.underlying3 t1'
  obtain ⟨A2, n2, c2', bs, e2, hs2, _⟩ := sl_of_trod t2'
  obtain ⟨k3, e3, _⟩ := DataW.trod_bool Try.underlying4 t3'
  simp only [List.cons.injEq, and_true] at e0 e1 e3
  subst e0; subst e1; subst e2; subst e3
  exact ⟨⟨k0, k1, bs, k3⟩, _, ⟨inI_of w0, inI_of w1⟩, rfl, Bys.of_sl hs2⟩
theorem parts_of_trod {H : Type} {enc : TypeId × Value → H} {W : World} {held : Bool} {fuel : Nat} {v : Value} {y : DataW H × List MemPlace}
    (h : DataW.trod enc Try.prog W 0 (fun _ => true) held fuel 22 [v] = some y) :
    ∃ A c l, v = .slice A (List.length l) c ∧ Parts W (.slice A l.length c) l := by
  obtain ⟨A, n, c, cs, rfl, hr, hd⟩ := row_of_trod Try.underlying22 cPart (by omega) h
  rcases hd with ⟨hy, rfl⟩ | ⟨es, sp, hy, hl, he⟩
  · exact ⟨A, c, [], rfl, cs, hr, fun j hj => by simp at hj⟩
  · have hone : ∀ i : Fin n, ∃ a : Pt, (inI a.key ∧ inI a.off) ∧ cs[i.1 * 4]? = some (.int .i64 a.key) ∧ cs[i.1 * 4 + 1]? = some (.int .i64 a.off) ∧ (∃ u, cs[i.1 * 4 + 2]? = some u ∧ Bys W u a.piece) ∧ cs[i.1 * 4 + 3]? = some (.bool a.last) := fun ⟨i, hi⟩ => by
      obtain ⟨m, z, htr, _⟩ := he i hi
      have hl1 : cs.length = n * 4 := hr.1
      obtain ⟨a, u, hok, hcs, hb⟩ := part_of (by rw [List.length_take, List.length_drop]; omega) htr
      have hg : ∀ o x, [Value.int .i64 a.key, .int .i64 a.off, u, .bool a.last][o]? = some x → cs[i * 4 + o]? = some x := fun o x hx => by
        rw [← hcs, List.getElem?_take] at hx
        split at hx
        · rw [List.getElem?_drop] at hx; exact hx
        · cases hx
      exact ⟨a, hok, hg 0 _ rfl, hg 1 _ rfl, ⟨u, hg 2 _ rfl, hb⟩, hg 3 _ rfl⟩
    obtain ⟨f, hf⟩ := Classical.axiomOfChoice hone
    have hln : (List.ofFn f).length = n := List.length_ofFn ..
    refine ⟨A, c, List.ofFn f, by rw [hln], cs, by rw [hln]; exact hr, fun j hj => ?_⟩
    have hj' : j < n := by rw [hln] at hj; exact hj
    simpa [List.getElem_ofFn] using hf ⟨j, hj'⟩
theorem open_part {H : Type} {enc : TypeId × Value → H} {W : World} {r : Reach} {b0 : Nat} {held : Bool} {v : Value} {d : DataW H} {ps : List MemPlace} (hval : Value.okWide Try.prog W r b0 28 v)
    (hd : DataW.Trod enc Try.prog W 0 (fun _ => true) held 28 v d ps) : ∃ (a : Pt) (A : Option Addr) (n c : Nat), v = .agg #[.int .i64 a.key, .int .i64 a.off, .slice A n c, .bool a.last] ∧ (inI a.key ∧ inI a.off) ∧ Bys W (.slice A n c) a.piece := by
  simp only [Value.okWide, Try.underlying28] at hval
  obtain ⟨cs, rfl, hsz, _⟩ := hval
  rw [cPart] at hsz
  obtain ⟨fuel, hf⟩ := hd
  obtain ⟨a, u, hok, hcs, hb⟩ := part_of (cs := cs.toList) (by simpa using hsz) hf
  obtain ⟨A, c, rfl, -, -⟩ := hb.form
  exact ⟨a, A, _, c, by cases cs; simp_all, hok, hb⟩
theorem open_box {H : Type} {enc : TypeId × Value → H} {W : World} {r : Reach} {b0 : Nat} {held : Bool} {v : Value} {d : DataW H} {ps : List MemPlace} (hval : Value.okWide Try.prog W r b0 26 v)
    (hd : DataW.Trod enc Try.prog W 0 (fun _ => true) held 26 v d ps) : ∃ (k : Int) (A : Option Addr) (n c : Nat) (bs : List UInt8), v = .agg #[.int .i64 k, .slice A n c] ∧ inI k ∧ Bys W (.slice A n c) bs := by
  simp only [Value.okWide, Try.underlying26] at hval
  obtain ⟨cs, rfl, hsz, _⟩ := hval
  rw [cBox] at hsz
  obtain ⟨fuel, hf⟩ := hd
  obtain ⟨c0, c1, rfl⟩ : ∃ c0 c1, cs = #[c0, c1] := by
    obtain ⟨l⟩ := cs
    match l, hsz with
    | [c0, c1], _ => exact ⟨c0, c1, rfl⟩
  obtain ⟨y0, y1, n, _, t0, t1⟩ := trod_structK2 Try.underlying26 hf
  have t0' : DataW.trod enc Try.prog W 0 (fun _ => true) held n 3 [c0] = some y0 := t0
  have t1' : DataW.trod enc Try.prog W 0 (fun _ => true) held n 23 [c1] = some y1 := t1
  obtain ⟨k0, e0, _, w0⟩ := DataW.trod_int Try.underlying3 t0'
  obtain ⟨A2, n2, c2', bs, e2, hs2, _⟩ := sl_of_trod t1'
  simp only [List.cons.injEq, and_true] at e0
  subst e0; subst e2
  exact ⟨k0, A2, n2, c2', bs, rfl, inI_of w0, Bys.of_sl hs2⟩

end Go.Proofs.Ytfdccdjfbdmblaa.pk
