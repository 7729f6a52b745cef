/-
  Entries, logs, merges that are read.
-/
import Derived.Test.YtlngcfaadfkbnaaDoorRead
import Derived.Test.YtlngcfaadfkbnaaDoorEntM
namespace Go.Proofs.YtlngcfaadfkbnaaDoor.pk
open Go Go.RowKit Go.ChangeShapes Go.WideShapes Go.ChangeAt
set_option maxRecDepth 100000

section
variable {H : Type} {enc : TypeId × Value → H} {P : Program} {w : World} {base : Nat} {spare : Nat → Bool} {held : Bool}
theorem trod_structE3 {t : TypeId} {f0 f1 f2 : Field} {fuel : Nat} {cs : List Value} {x : DataW H × List MemPlace} (ht : P.underlying t = some (.struct #[f0, f1, f2])) (h : DataW.trod enc P w base spare held fuel t cs = some x) :
    ∃ y0 y1 y2 n, x.1 = .agg [y0.1, y1.1, y2.1] ∧ DataW.trod enc P w base spare held n f0.type ((cs.drop f0.offset).take (P.cellsOf f0.type)) = some y0 ∧
      DataW.trod enc P w base spare held n f1.type ((cs.drop f1.offset).take (P.cellsOf f1.type)) = some y1 ∧ DataW.trod enc P w base spare held n f2.type ((cs.drop f2.offset).take (P.cellsOf f2.type)) = some y2 := by
  obtain ⟨xs, n, _, rfl, hl, hlen, hf⟩ := DataW.trod_struct ht h
  match xs, hlen with
  | [y0, y1, y2], _ => exact ⟨y0, y1, y2, n, by simp, by simpa using hf 0 f0 rfl, by simpa using hf 1 f1 rfl, by simpa using hf 2 f2 rfl⟩
theorem trod_structE4 {t : TypeId} {f0 f1 f2 f3 : Field} {fuel : Nat} {cs : List Value} {x : DataW H × List MemPlace} (ht : P.underlying t = some (.struct #[f0, f1, f2, f3])) (h : DataW.trod enc P w base spare held fuel t cs = some x) :
    ∃ y0 y1 y2 y3 n, x.1 = .agg [y0.1, y1.1, y2.1, y3.1] ∧ DataW.trod enc P w base spare held n f0.type ((cs.drop f0.offset).take (P.cellsOf f0.type)) = some y0 ∧
      DataW.trod enc P w base spare held n f1.type ((cs.drop f1.offset).take (P.cellsOf f1.type)) = some y1 ∧ DataW.trod enc P w base spare held n f2.type ((cs.drop f2.offset).take (P.cellsOf f2.type)) = some y2 ∧
      DataW.trod enc P w base spare held n f3.type ((cs.drop f3.offset).take (P.cellsOf f3.type)) = some y3 := by
  obtain ⟨xs, n, _, rfl, hl, hlen, hf⟩ := DataW.trod_struct ht h
  match xs, hlen with
  | [y0, y1, y2, y3], _ => exact ⟨y0, y1, y2, y3, n, by simp, by simpa using hf 0 f0 rfl, by simpa using hf 1 f1 rfl, by simpa using hf 2 f2 rfl, by simpa using hf 3 f3 rfl⟩
theorem weightsAll_in {e : TypeId} : ∀ {l : List (DataW H)} {d : DataW H}, d ∈ l → ∀ n ∈ d.weights P e, n ∈ DataW.weightsAll P e l
  | x :: r, d, hd, n, hn => by
    unfold DataW.weightsAll
    rcases List.mem_cons.1 hd with rfl | hd
    · exact List.mem_append_left _ hn
    · exact List.mem_append_right _ (weightsAll_in hd n hn)
end

theorem cEntE : Tryd.prog.cellsOf 44 = 4 := by kernel_rfl
theorem cLogE : Tryd.prog.cellsOf 24 = 3 := by kernel_rfl
theorem bByteE : Tryd.prog.bytesOf 5 = 1 := by kernel_rfl
/-- One entry. -/
theorem ent_of {H : Type} {enc : TypeId × Value → H} {W : World} {held : Bool} {m' : Nat} {cs : List Value} {z : DataW H × List MemPlace} (hl : cs.length = 4) (htr : DataW.trod enc Tryd.prog W 0 (fun _ => true) held m' 44 cs = some z) :
    ∃ (e : En) (u : Value), e.ok ∧ cs = [.int .i64 e.index, .int .i64 e.term, .int .i64 e.kind, u] ∧ Bys W u e.data ∧ ((∀ n ∈ z.1.weights Tryd.prog 44, n ≤ reachBytes) → e.data.length ≤ 140737488355328) := by
  obtain ⟨y0, y1, y2, y3, n, hz, t0, t1, t2, t3⟩ := trod_structE4 Tryd.underlying44 htr
  obtain ⟨c0, c1, c2, c3, rfl⟩ : ∃ c0 c1 c2 c3, cs = [c0, c1, c2, c3] := by
    match cs, hl with
    | [c0, c1, c2, c3], _ => exact ⟨c0, c1, c2, c3, rfl⟩
  have t0' : DataW.trod enc Tryd.prog W 0 (fun _ => true) held n 3 [c0] = some y0 := t0
  have t1' : DataW.trod enc Tryd.prog W 0 (fun _ => true) held n 3 [c1] = some y1 := t1
  have t2' : DataW.trod enc Tryd.prog W 0 (fun _ => true) held n 3 [c2] = some y2 := t2
  have t3' : DataW.trod enc Tryd.prog W 0 (fun _ => true) held n 39 [c3] = some y3 := t3
  obtain ⟨k0, e0, _, w0⟩ := DataW.trod_int Tryd.underlying3 t0'
  obtain ⟨k1, e1, _, w1⟩ := DataW.trod_int Tryd.underlying3 t1'
  obtain ⟨k2, e2, _, w2⟩ := DataW.trod_int Tryd.underlying3 t2'
  obtain ⟨A3, n3, c3', bs, e3, hs3, hd3⟩ := sl_of_trod t3'
  simp only [List.cons.injEq, and_true] at e0 e1 e2
  subst e0; subst e1; subst e2; subst e3
  refine ⟨⟨k0, k1, k2, bs⟩, _, ⟨inI_of w0, inI_of w1, inI_of w2⟩, rfl, Bys.of_sl hs3, fun hw => ?_⟩
  rcases hd3 with ⟨_, rfl⟩ | ⟨es, sp, hd, hel⟩
  · simp
  · rw [hz] at hw
    have := hw (es.length + sp.length) (by
      simp [DataW.weights, Tryd.underlying44, DataW.weightsEach, hd, Tryd.underlying39, bByteE])
    simp only [reachBytes] at this
    show bs.length ≤ _
    omega
/-- A slice of entries. -/
theorem ents_of_trod {H : Type} {enc : TypeId × Value → H} {W : World} {held : Bool} {fuel : Nat} {v : Value} {y : DataW H × List MemPlace}
    (h : DataW.trod enc Tryd.prog W 0 (fun _ => true) held fuel 22 [v] = some y) (hw : ∀ n ∈ y.1.weights Tryd.prog 22, n ≤ reachBytes) :
    ∃ A c l, v = .slice A (List.length l) c ∧ Ents W (.slice A l.length c) l ∧ ∀ e ∈ l, e.data.length ≤ 140737488355328 := by
  obtain ⟨A, n, c, cs, rfl, hr, hd⟩ := row_of_trod Tryd.underlying22 cEntE (by omega) h
  rcases hd with ⟨hy, rfl⟩ | ⟨es, sp, hy, hl, he⟩
  · exact ⟨A, c, [], rfl, ⟨⟨cs, hr, fun j hj => by simp at hj⟩, fun e he => by cases he⟩, fun e he => by cases he⟩
  · have hone : ∀ i : Fin n, ∃ e : En, e.ok ∧ cs[i.1 * 4]? = some (.int .i64 e.index) ∧ cs[i.1 * 4 + 1]? = some (.int .i64 e.term) ∧ cs[i.1 * 4 + 2]? = some (.int .i64 e.kind) ∧ (∃ u, cs[i.1 * 4 + 3]? = some u ∧ Bys W u e.data) ∧ e.data.length ≤ 140737488355328 := fun ⟨i, hi⟩ => by
      obtain ⟨m, z, htr, hz⟩ := he i hi
      have hl1 : cs.length = n * 4 := hr.1
      obtain ⟨a, u, hok, hcs, hb, hlen⟩ := ent_of (by rw [List.length_take, List.length_drop]; omega) htr
      have hg : ∀ o x, [Value.int .i64 a.index, .int .i64 a.term, .int .i64 a.kind, u][o]? = some x → cs[i * 4 + o]? = some x := fun o x hx => by
        rw [← hcs, List.getElem?_take] at hx
        split at hx
        · rw [List.getElem?_drop] at hx; exact hx
        · cases hx
      refine ⟨a, hok, hg 0 _ rfl, hg 1 _ rfl, hg 2 _ rfl, ⟨u, hg 3 _ rfl, hb⟩, hlen fun k hk => hw k ?_⟩
      rw [hy]
      simp only [DataW.weights, Tryd.underlying22]
      exact List.mem_cons_of_mem _ (List.mem_append_left _ (weightsAll_in (List.mem_of_getElem? hz) k hk))
    obtain ⟨f, hf⟩ := Classical.axiomOfChoice hone
    have hln : (List.ofFn f).length = n := List.length_ofFn ..
    refine ⟨A, c, List.ofFn f, by rw [hln], ⟨⟨cs, by rw [hln]; exact hr, fun j hj => ?_⟩, fun e he => ?_⟩, fun e he => ?_⟩
    · have hj' : j < n := by rw [hln] at hj; exact hj
      have := hf ⟨j, hj'⟩
      simp only [List.getElem_ofFn]
      exact ⟨this.2.1, this.2.2.1, this.2.2.2.1, this.2.2.2.2.1⟩
    · obtain ⟨i, rfl⟩ := List.mem_ofFn.1 he
      exact (hf i).1
    · obtain ⟨i, rfl⟩ := List.mem_ofFn.1 he
      exact (hf i).2.2.2.2.2
/-- Two numbers and entries. -/
theorem open_three {H : Type} {enc : TypeId × Value → H} {W : World} {held : Bool} {t : TypeId} {m' : Nat} {cs : List Value} {z : DataW H × List MemPlace} (f0 f1 f2 : Field) (ht : Tryd.prog.underlying t = some (.struct #[f0, f1, f2])) (g0 : f0.type = 3 ∧ f0.offset = 0) (g1 : f1.type = 3 ∧ f1.offset = 1) (g2 : f2.type = 22 ∧ f2.offset = 2)
    (hl : cs.length = 3) (htr : DataW.trod enc Tryd.prog W 0 (fun _ => true) held m' t cs = some z) (hw : ∀ n ∈ z.1.weights Tryd.prog t, n ≤ reachBytes) :
    ∃ (b k : Int) (A : Option Addr) (c : Nat) (l : List En), cs = [.int .i64 b, .int .i64 k, .slice A (List.length l) c] ∧ inI b ∧ inI k ∧ Ents W (.slice A l.length c) l ∧ ∀ e ∈ l, e.data.length ≤ 140737488355328 := by
  obtain ⟨y0, y1, y2, n, hz, t0, t1, t2⟩ := trod_structE3 ht htr
  obtain ⟨c0, c1, c2, rfl⟩ : ∃ c0 c1 c2, cs = [c0, c1, c2] := by
    match cs, hl with
    | [c0, c1, c2], _ => exact ⟨c0, c1, c2, rfl⟩
  rw [g0.1, g0.2] at t0
  rw [g1.1, g1.2] at t1
  rw [g2.1, g2.2] at t2
  have t0' : DataW.trod enc Tryd.prog W 0 (fun _ => true) held n 3 [c0] = some y0 := t0
  have t1' : DataW.trod enc Tryd.prog W 0 (fun _ => true) held n 3 [c1] = some y1 := t1
  have t2' : DataW.trod enc Tryd.prog W 0 (fun _ => true) held n 22 [c2] = some y2 := t2
  obtain ⟨k0, e0, _, w0⟩ := DataW.trod_int Tryd.underlying3 t0'
  obtain ⟨k1, e1, _, w1⟩ := DataW.trod_int Tryd.underlying3 t1'
  obtain ⟨A, c, l, e2, h1, h2⟩ := ents_of_trod t2' (fun k hk => hw k (by
    rw [hz]
    simp only [DataW.weights, ht]
    simp only [DataW.weightsEach, List.map_cons, g2.1]
    exact List.mem_append_right _ (List.mem_append_right _ (List.mem_append_left _ hk))))
  simp only [List.cons.injEq, and_true] at e0 e1
  subst e0; subst e1; subst e2
  exact ⟨k0, k1, A, c, l, rfl, inI_of w0, inI_of w1, h1, h2⟩
theorem open_elog {H : Type} {enc : TypeId × Value → H} {W : World} {r : Reach} {b0 : Nat} {held : Bool} {v : Value} {d : DataW H} {ps : List MemPlace} (hval : Value.okWide Tryd.prog W r b0 24 v)
    (hd : DataW.Trod enc Tryd.prog W 0 (fun _ => true) held 24 v d ps) (hw : ∀ n ∈ d.weights Tryd.prog 24, n ≤ reachBytes) :
    ∃ (l : Lg) (A : Option Addr) (n c : Nat), v = .agg #[.int .i64 l.base, .int .i64 l.term, .slice A n c] ∧ inI l.base ∧ inI l.term ∧ Ents W (.slice A n c) l.l ∧ ∀ e ∈ l.l, e.data.length ≤ 140737488355328 := by
  simp only [Value.okWide, Tryd.underlying24] at hval
  obtain ⟨cs, rfl, hsz, _⟩ := hval
  rw [cLogE] at hsz
  obtain ⟨fuel, hf⟩ := hd
  obtain ⟨b, k, A, c, l, hcs, h1, h2, h3, h4⟩ := open_three (cs := cs.toList) _ _ _ Tryd.underlying24 ⟨rfl, rfl⟩ ⟨rfl, rfl⟩ ⟨rfl, rfl⟩ (by simpa using hsz) hf hw
  exact ⟨⟨b, k, l⟩, A, _, c, by cases cs; simp_all, h1, h2, h3, h4⟩
theorem cMerE : Tryd.prog.cellsOf 54 = 3 := by kernel_rfl
theorem open_emerge {H : Type} {enc : TypeId × Value → H} {W : World} {r : Reach} {b0 : Nat} {held : Bool} {v : Value} {d : DataW H} {ps : List MemPlace} (hval : Value.okWide Tryd.prog W r b0 54 v)
    (hd : DataW.Trod enc Tryd.prog W 0 (fun _ => true) held 54 v d ps) (hw : ∀ n ∈ d.weights Tryd.prog 54, n ≤ reachBytes) :
    ∃ (l : Lg) (A : Option Addr) (n c : Nat), v = .agg #[.int .i64 l.base, .int .i64 l.term, .slice A n c] ∧ inI l.base ∧ inI l.term ∧ Ents W (.slice A n c) l.l ∧ ∀ e ∈ l.l, e.data.length ≤ 140737488355328 := by
  simp only [Value.okWide, Tryd.underlying54] at hval
  obtain ⟨cs, rfl, hsz, _⟩ := hval
  rw [cMerE] at hsz
  obtain ⟨fuel, hf⟩ := hd
  obtain ⟨b, k, A, c, l, hcs, h1, h2, h3, h4⟩ := open_three (cs := cs.toList) _ _ _ Tryd.underlying54 ⟨rfl, rfl⟩ ⟨rfl, rfl⟩ ⟨rfl, rfl⟩ (by simpa using hsz) hf hw
  exact ⟨⟨b, k, l⟩, A, _, c, by cases cs; simp_all, h1, h2, h3, h4⟩

end Go.Proofs.YtlngcfaadfkbnaaDoor.pk
