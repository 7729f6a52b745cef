/-
  A message that is read.
-/
import Derived.Test.YtfblgkcipnkhaaaGreatDoorRead
import Derived.Test.YtfblgkcipnkhaaaGreatDoorJh
namespace Go.Proofs.YtfblgkcipnkhaaaGreatDoor.pk
open Go Go.RowKit Go.ChangeShapes Go.WideShapes Go.ChangeAt
set_option maxRecDepth 100000

section
variable {H : Type} {enc : TypeId × Value → H} {P : Program} {w : World} {base : Nat} {spare : Nat → Bool} {held : Bool}
theorem trod_structE4 {t : TypeId} {f0 f1 f2 f3 : Field} {fuel : Nat} {cs : List Value} {x : DataW H × List MemPlace} (ht : P.underlying t = some (.struct #[f0, f1, f2, f3])) (h : DataW.trod enc P w base spare held fuel t cs = some x) :
    ∃ y0 y1 y2 y3 n, x.1 = .agg [y0.1, y1.1, y2.1, y3.1] ∧ DataW.trod enc P w base spare held n f0.type ((cs.drop f0.offset).take (P.cellsOf f0.type)) = some y0 ∧
      DataW.trod enc P w base spare held n f1.type ((cs.drop f1.offset).take (P.cellsOf f1.type)) = some y1 ∧ DataW.trod enc P w base spare held n f2.type ((cs.drop f2.offset).take (P.cellsOf f2.type)) = some y2 ∧
      DataW.trod enc P w base spare held n f3.type ((cs.drop f3.offset).take (P.cellsOf f3.type)) = some y3 := by
  obtain ⟨xs, n, _, rfl, hl, hlen, hf⟩ := DataW.trod_struct ht h
  match xs, hlen with
  | [y0, y1, y2, y3], _ => exact ⟨y0, y1, y2, y3, n, by simp, by simpa using hf 0 f0 rfl, by simpa using hf 1 f1 rfl, by simpa using hf 2 f2 rfl, by simpa using hf 3 f3 rfl⟩
theorem trod_structE12 {t : TypeId} {f0 f1 f2 f3 f4 f5 f6 f7 f8 f9 f10 f11 : Field} {fuel : Nat} {cs : List Value} {x : DataW H × List MemPlace} (ht : P.underlying t = some (.struct #[f0, f1, f2, f3, f4, f5, f6, f7, f8, f9, f10, f11])) (h : DataW.trod enc P w base spare held fuel t cs = some x) :
    ∃ y0 y1 y2 y3 y4 y5 y6 y7 y8 y9 y10 y11 n, x.1 = .agg [y0.1, y1.1, y2.1, y3.1, y4.1, y5.1, y6.1, y7.1, y8.1, y9.1, y10.1, y11.1] ∧ DataW.trod enc P w base spare held n f0.type ((cs.drop f0.offset).take (P.cellsOf f0.type)) = some y0 ∧ DataW.trod enc P w base spare held n f1.type ((cs.drop f1.offset).take (P.cellsOf f1.type)) = some y1 ∧ DataW.trod enc P w base spare held n f2.type ((cs.drop f2.offset).take (P.cellsOf f2.type)) = some y2 ∧ DataW.trod enc P w base spare held n f3.type ((cs.drop f3.offset).take (P.cellsOf f3.type)) = some y3 ∧ DataW.trod enc P w base spare held n f4.type ((cs.drop f4.offset).take (P.cellsOf f4.type)) = some y4 ∧ DataW.trod enc P w base spare held n f5.type ((cs.drop f5.offset).take (P.cellsOf f5.type)) = some y5 ∧ DataW.trod enc P w base spare held n f6.type ((cs.drop f6.offset).take (P.cellsOf f6.type)) = some y6 ∧ DataW.trod enc P w base spare held n f7.type ((cs.drop f7.offset).take (P.cellsOf f7.type)) = some y7 ∧ DataW.trod enc P w base spare held n f8.type ((cs.drop f8.offset).take (P.cellsOf f8.type)) = some y8 ∧ DataW.trod enc P w base spare held n f9.type ((cs.drop f9.offset).take (P.cellsOf f9.type)) = some y9 ∧ DataW.trod enc P w base spare held n f10.type ((cs.drop f10.offset).take (P.cellsOf f10.type)) = some y10 ∧ DataW.trod enc P w base spare held n f11.type ((cs.drop f11.offset).take (P.cellsOf f11.type)) = some y11 := by
  obtain ⟨xs, n, _, rfl, hl, hlen, hf⟩ := DataW.trod_struct ht h
  match xs, hlen with
  | [y0, y1, y2, y3, y4, y5, y6, y7, y8, y9, y10, y11], _ => exact ⟨y0, y1, y2, y3, y4, y5, y6, y7, y8, y9, y10, y11, n, by simp, by simpa using hf 0 f0 rfl, by simpa using hf 1 f1 rfl, by simpa using hf 2 f2 rfl, by simpa using hf 3 f3 rfl, by simpa using hf 4 f4 rfl, by simpa using hf 5 f5 rfl, by simpa using hf 6 f6 rfl, by simpa using hf 7 f7 rfl, by simpa using hf 8 f8 rfl, by simpa using hf 9 f9 rfl, by simpa using hf 10 f10 rfl, by simpa using hf 11 f11 rfl⟩
theorem weightsAll_in {e : TypeId} : ∀ {l : List (DataW H)} {d : DataW H}, d ∈ l → ∀ n ∈ d.weights P e, n ∈ DataW.weightsAll P e l
  | x :: r, d, hd, n, hn => by
    unfold DataW.weightsAll
    rcases List.mem_cons.1 hd with rfl | hd
    · exact List.mem_append_left _ hn
    · exact List.mem_append_right _ (weightsAll_in hd n hn)
end

theorem cEntE : Tryz.prog.cellsOf 71 = 4 := by kernel_rfl
theorem bByteE : Tryz.prog.bytesOf 5 = 1 := by kernel_rfl
/-- One entry. -/
theorem ent_of {H : Type} {enc : TypeId × Value → H} {W : World} {held : Bool} {m' : Nat} {cs : List Value} {z : DataW H × List MemPlace} (hl : cs.length = 4) (htr : DataW.trod enc Tryz.prog W 0 (fun _ => true) held m' 71 cs = some z) :
    ∃ (e : En) (u : Value), e.ok ∧ cs = [.int .i64 e.index, .int .i64 e.term, .int .i64 e.kind, u] ∧ Bys W u e.data ∧ ((∀ n ∈ z.1.weights Tryz.prog 71, n ≤ reachBytes) → e.data.length ≤ 140737488355328) := by
  obtain ⟨y0, y1, y2, y3, n, hz, t0, t1, t2, t3⟩ := trod_structE4 Tryz.underlying71 htr
  obtain ⟨c0, c1, c2, c3, rfl⟩ : ∃ c0 c1 c2 c3, cs = [c0, c1, c2, c3] := by
    match cs, hl with
    | [c0, c1, c2, c3], _ => exact ⟨c0, c1, c2, c3, rfl⟩
  have t0' : DataW.trod enc Tryz.prog W 0 (fun _ => true) held n 3 [c0] = some y0 := t0
  have t1' : DataW.trod enc Tryz.prog W 0 (fun _ => true) held n 3 [c1] = some y1 := t1
  have t2' : DataW.trod enc Tryz.prog W 0 (fun _ => true) held n 3 [c2] = some y2 := t2
  have t3' : DataW.trod enc Tryz.prog W 0 (fun _ => true) held n 22 [c3] = some y3 := t3
  obtain ⟨k0, e0, _, w0⟩ := DataW.trod_int Tryz.underlying3 t0'
  obtain ⟨k1, e1, _, w1⟩ := DataW.trod_int Tryz.underlying3 t1'
  obtain ⟨k2, e2, _, w2⟩ := DataW.trod_int Tryz.underlying3 t2'
  obtain ⟨A3, n3, c3', bs, e3, hs3, hd3⟩ := sl_of_trod t3'
  simp only [List.cons.injEq, and_true] at e0 e1 e2
  subst e0; subst e1; subst e2; subst e3
  refine ⟨⟨k0, k1, k2, bs⟩, _, ⟨inI_of w0, inI_of w1, inI_of w2⟩, rfl, Bys.of_sl hs3, fun hw => ?_⟩
  rcases hd3 with ⟨_, rfl⟩ | ⟨es, sp, hd, hel⟩
  · simp
  · rw [hz] at hw
    have := hw (es.length + sp.length) (by
      simp [DataW.weights, Tryz.underlying71, DataW.weightsEach, hd, Tryz.underlying22, bByteE])
    simp only [reachBytes] at this
    show bs.length ≤ _
    omega
/-- A slice of entries. -/
theorem ents_of_trod {H : Type} {enc : TypeId × Value → H} {W : World} {held : Bool} {fuel : Nat} {v : Value} {y : DataW H × List MemPlace}
    (h : DataW.trod enc Tryz.prog W 0 (fun _ => true) held fuel 23 [v] = some y) (hw : ∀ n ∈ y.1.weights Tryz.prog 23, n ≤ reachBytes) :
    ∃ A c l, v = .slice A (List.length l) c ∧ Ents W (.slice A l.length c) l ∧ ∀ e ∈ l, e.data.length ≤ 140737488355328 := by
  obtain ⟨A, n, c, cs, rfl, hr, hd⟩ := row_of_trod Tryz.underlying23 cEntE (by omega) h
  rcases hd with ⟨hy, rfl⟩ | ⟨es, sp, hy, hl, he⟩
  · exact ⟨A, c, [], rfl, ⟨⟨cs, hr, fun j hj => by simp at hj⟩, fun e he => by cases he⟩, fun e he => by cases he⟩
  · have hone : ∀ i : Fin n, ∃ e : En, e.ok ∧ cs[i.1 * 4]? = some (.int .i64 e.index) ∧ cs[i.1 * 4 + 1]? = some (.int .i64 e.term) ∧ cs[i.1 * 4 + 2]? = some (.int .i64 e.kind) ∧ (∃ u, cs[i.1 * 4 + 3]? = some u ∧ Bys W u e.data) ∧ e.data.length ≤ 140737488355328 := fun ⟨i, hi⟩ => by
      obtain ⟨m, z, htr, hz⟩ := he i hi
      have hl1 : cs.length = n * 4 := hr.1
      obtain ⟨a, u, hok, hcs, hb, hlen⟩ := ent_of (by rw [List.length_take, List.length_drop]; omega) htr
      have hg : ∀ o x, [Value.int .i64 a.index, .int .i64 a.term, .int .i64 a.kind, u][o]? = some x → cs[i * 4 + o]? = some x := fun o x hx => by
        rw [← hcs, List.getElem?_take] at hx
        split at hx
        · rw [List.getElem?_drop] at hx; exact hx
        · cases hx
      refine ⟨a, hok, hg 0 _ rfl, hg 1 _ rfl, hg 2 _ rfl, ⟨u, hg 3 _ rfl, hb⟩, hlen fun k hk => hw k ?_⟩
      rw [hy]
      simp only [DataW.weights, Tryz.underlying23]
      exact List.mem_cons_of_mem _ (List.mem_append_left _ (weightsAll_in (List.mem_of_getElem? hz) k hk))
    obtain ⟨f, hf⟩ := Classical.axiomOfChoice hone
    have hln : (List.ofFn f).length = n := List.length_ofFn ..
    refine ⟨A, c, List.ofFn f, by rw [hln], ⟨⟨cs, by rw [hln]; exact hr, fun j hj => ?_⟩, fun e he => ?_⟩, fun e he => ?_⟩
    · have hj' : j < n := by rw [hln] at hj; exact hj
      have := hf ⟨j, hj'⟩
      simp only [List.getElem_ofFn]
      exact ⟨this.2.1, this.2.2.1, this.2.2.2.1, this.2.2.2.2.1⟩
    · obtain ⟨i, rfl⟩ := List.mem_ofFn.1 he
      exact (hf i).1
    · obtain ⟨i, rfl⟩ := List.mem_ofFn.1 he
      exact (hf i).2.2.2.2.2
theorem cMsgE : Tryz.prog.cellsOf 25 = 12 := by kernel_rfl
theorem open_msg {H : Type} {enc : TypeId × Value → H} {W : World} {r : Reach} {b0 : Nat} {held : Bool} {v : Value} {d : DataW H} {ps : List MemPlace} (hval : Value.okWide Tryz.prog W r b0 25 v)
    (hd : DataW.Trod enc Tryz.prog W 0 (fun _ => true) held 25 v d ps) (hw : ∀ n ∈ d.weights Tryz.prog 25, n ≤ reachBytes) :
    ∃ (m : Ms) (Ad : Option Addr) (nd cd : Nat) (Ae : Option Addr) (ne ce : Nat), v = .agg #[.int .i64 m.kind, .int .i64 m.frm, .int .i64 m.to, .int .i64 m.term, .int .i64 m.index, .int .i64 m.logTerm, .int .i64 m.commit, .int .i64 m.round, .bool m.ok, .int .i64 m.off, .slice Ad nd cd, .slice Ae ne ce] ∧ InM m Ad nd cd Ae ne ce W ∧ m.data.length ≤ 140737488355328 ∧ ∀ e ∈ m.ents, e.data.length ≤ 140737488355328 := by
  simp only [Value.okWide, Tryz.underlying25] at hval
  obtain ⟨csa, rfl, hsz, _⟩ := hval
  rw [cMsgE] at hsz
  obtain ⟨fuel, hf⟩ := hd
  obtain ⟨cs, hcs⟩ : ∃ cs, cs = csa.toList := ⟨_, rfl⟩
  have hl : cs.length = 12 := by rw [hcs]; simpa using hsz
  have hf' : DataW.trod enc Tryz.prog W 0 (fun _ => true) held fuel 25 cs = some (d, ps) := by rw [hcs]; exact hf
  have hcsa : csa = cs.toArray := by rw [hcs]
  clear hf hcs
  obtain ⟨y0, y1, y2, y3, y4, y5, y6, y7, y8, y9, y10, y11, n, hz, t0, t1, t2, t3, t4, t5, t6, t7, t8, t9, t10, t11⟩ := trod_structE12 Tryz.underlying25 hf'
  obtain ⟨c0, c1, c2, c3, c4, c5, c6, c7, c8, c9, c10, c11, rfl⟩ : ∃ c0 c1 c2 c3 c4 c5 c6 c7 c8 c9 c10 c11, cs = [c0, c1, c2, c3, c4, c5, c6, c7, c8, c9, c10, c11] := by
    match cs, hl with
    | [c0, c1, c2, c3, c4, c5, c6, c7, c8, c9, c10, c11], _ => exact ⟨c0, c1, c2, c3, c4, c5, c6, c7, c8, c9, c10, c11, rfl⟩
  have t0' : DataW.trod enc Tryz.prog W 0 (fun _ => true) held n 3 [c0] = some y0 := t0
  have t1' : DataW.trod enc Tryz.prog W 0 (fun _ => true) held n 3 [c1] = some y1 := t1
  have t2' : DataW.trod enc Tryz.prog W 0 (fun _ => true) held n 3 [c2] = some y2 := t2
  have t3' : DataW.trod enc Tryz.prog W 0 (fun _ => true) held n 3 [c3] = some y3 := t3
  have t4' : DataW.trod enc Tryz.prog W 0 (fun _ => true) held n 3 [c4] = some y4 := t4
  have t5' : DataW.trod enc Tryz.prog W 0 (fun _ => true) held n 3 [c5] = some y5 := t5
  have t6' : DataW.trod enc Tryz.prog W 0 (fun _ => true) held n 3 [c6] = some y6 := t6
  have t7' : DataW.trod enc Tryz.prog W 0 (fun _ => true) held n 3 [c7] = some y7 := t7
  have t8' : DataW.trod enc Tryz.prog W 0 (fun _ => true) held n 4 [c8] = some y8 := t8
  have t9' : DataW.trod enc Tryz.prog W 0 (fun _ => true) held n 3 [c9] = some y9 := t9
  have t10' : DataW.trod enc Tryz.prog W 0 (fun _ => true) held n 22 [c10] = some y10 := t10
  have t11' : DataW.trod enc Tryz.prog W 0 (fun _ => true) held n 23 [c11] = some y11 := t11
  obtain ⟨k0, e0, _, w0⟩ := DataW.trod_int Tryz.underlying3 t0'
  obtain ⟨k1, e1, _, w1⟩ := DataW.trod_int Tryz.underlying3 t1'
  obtain ⟨k2, e2, _, w2⟩ := DataW.trod_int Tryz.underlying3 t2'
  obtain ⟨k3, e3, _, w3⟩ := DataW.trod_int Tryz.underlying3 t3'
  obtain ⟨k4, e4, _, w4⟩ := DataW.trod_int Tryz.underlying3 t4'
  obtain ⟨k5, e5, _, w5⟩ := DataW.trod_int Tryz.underlying3 t5'
  obtain ⟨k6, e6, _, w6⟩ := DataW.trod_int Tryz.underlying3 t6'
  obtain ⟨k7, e7, _, w7⟩ := DataW.trod_int Tryz.underlying3 t7'
  obtain ⟨k9, e9, _, w9⟩ := DataW.trod_int Tryz.underlying3 t9'
  obtain ⟨k8, e8, -⟩ := DataW.trod_bool Tryz.underlying4 t8'
  obtain ⟨A3, n3, c3', bs, e10, hs3, hd3⟩ := sl_of_trod t10'
  obtain ⟨Ae, ce, l, e11, h1, h2⟩ := ents_of_trod t11' (fun k hk => hw k (by
    have hz' : d = _ := hz
    rw [hz']
    simp only [DataW.weights, Tryz.underlying25]
    simp only [DataW.weightsEach, List.map_cons]
    exact List.mem_append_right _ (List.mem_append_right _ (List.mem_append_right _ (List.mem_append_right _ (List.mem_append_right _ (List.mem_append_right _ (List.mem_append_right _ (List.mem_append_right _ (List.mem_append_right _ (List.mem_append_right _ (List.mem_append_right _ (List.mem_append_left _ hk)))))))))))))
  simp only [List.cons.injEq, and_true] at e0 e1 e2 e3 e4 e5 e6 e7 e8 e9
  subst e0; subst e1; subst e2; subst e3; subst e4; subst e5; subst e6; subst e7; subst e8; subst e9; subst e10; subst e11
  have hlen : bs.length ≤ 140737488355328 := by
    rcases hd3 with ⟨_, rfl⟩ | ⟨es, sp, hd, hel⟩
    · simp
    · have hz' : d = _ := hz
      rw [hz'] at hw
      have := hw (es.length + sp.length) (by
        simp [DataW.weights, Tryz.underlying25, DataW.weightsEach, hd, Tryz.underlying22, bByteE])
      simp only [reachBytes] at this
      omega
  exact ⟨⟨k0, k1, k2, k3, k4, k5, k6, k7, k8, k9, bs, l⟩, A3, _, c3', Ae, _, ce, by rw [hcsa], ⟨Bys.of_sl hs3, h1, inI_of w0, inI_of w1, inI_of w2, inI_of w3, inI_of w4, inI_of w5, inI_of w6, inI_of w7, inI_of w9⟩, hlen, h2⟩

end Go.Proofs.YtfblgkcipnkhaaaGreatDoor.pk
