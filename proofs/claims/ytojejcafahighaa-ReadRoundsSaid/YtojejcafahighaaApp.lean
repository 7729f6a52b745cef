/-
  Appending bytes that read as a list onto a row that the call owns; what a row of its own reads as.
-/
import Derived.Test.YtojejcafahighaaSl
import Derived.OwnWalk
import Derived.Lib.AppendStr
namespace Go.Proofs.Ytojejcafahighaa.pk
open Go Go.RowKit

theorem byteCells_get (bs : List UInt8) (j : Nat) : (Lib.byteCells bs)[j]? = (bs[j]?).map fun b => Value.int .u8 (b.toNat : Int) := by
  simp [Lib.byteCells]

/-- What the call owns reads as a slice. -/
theorem Sl.of_own {w : World} {base e : Nat} {v : Value} {bs : List UInt8} (h : w.ownsRow base e 1 v bs.length (Lib.byteCells bs)) (B : Nat) (hB : ∀ g, v.ownBlock = some g → g < B) : Sl w B v bs := by
  rcases h.2 with ⟨rfl, hn⟩ | ⟨g, cap, cur, rfl, hb, hg, hnc, hcm, hcs, htk⟩
  · obtain rfl := List.eq_nil_of_length_eq_zero hn
    exact Sl.nil_ w B
  · refine ⟨some ⟨g, 0, none⟩, cap, rfl, hnc, by simp only [maxLen] at hcm; omega, ?_⟩
    right
    refine ⟨g, 0, rfl, hB g rfl, fun j hj => ?_⟩
    have hc := h.cells (g := g) rfl j (.int .u8 ((bs[j].toNat : Nat) : Int)) (by rw [byteCells_get, List.getElem?_eq_getElem hj]; rfl)
    rw [Lib.add_plain] at hc
    rw [hc]
    simp [List.getD, List.getElem?_eq_getElem hj]

theorem run_append_sl {P : Program} (w : World) (base : Nat) (t ty e : TypeId) (i : TypeInfo) (z : Value) (ht : P.underlying t = some (.slice e)) (hi : P.info? e = some i) (hz : i.zero = some z)
    (hsize : i.size = 1) (hby : i.bytes = 1) (hzs : z.cells.size = 1) (v : Value) (n : Nat) (xs : List Value) (hown : w.ownsRow base e 1 v n xs)
    (B : Nat) (A : Option Addr) (m c : Nat) (bs : List UInt8) (h : Sl w B (.slice A m c) bs) (hbytes : n + bs.length ≤ 140737488355328) (hbase : base ≤ w.heap.size) :
    ∃ v' w', (Builtin.append_ #[t, t] ty #[v, .slice A m c]).run P w = .ok v' w' ∧ w'.ownsRow base e 1 v' (n + bs.length) (xs ++ Lib.byteCells bs) ∧ w.grownBy w' v.ownBlock := by
  obtain ⟨hm, _, _⟩ := h.len
  subst hm
  have nilcase : ∀ a : Option Addr, bs = [] → (Builtin.append_ #[t, t] ty #[v, .slice none 0 c]).run P w = .ok v w := by
    intro _ _
    rcases hown.2 with ⟨rfl, rfl⟩ | ⟨g, cap, cur, rfl, _, _, hnc, _⟩
    · simp [Builtin.append_, run_underlying ht, sizeOf, typeInfo, hi, Builtin.lenOf, Builtin.firstCells]
    · simp [Builtin.append_, run_underlying ht, sizeOf, typeInfo, hi, Builtin.lenOf, Builtin.firstCells, hnc, storeCells]
  have hlen : (Lib.byteCells bs).length = bs.length * 1 := by simp [Lib.byteCells]
  have h1c : ∀ u ∈ Lib.byteCells bs, u.oneCell' = true := by
    intro u hu
    simp only [Lib.byteCells, List.mem_map] at hu
    obtain ⟨b, _, rfl⟩ := hu
    rfl
  rcases A with _ | a
  · have hbs : bs = [] := by
      obtain ⟨A', c', hv, _, _, h3⟩ := h
      rcases h3 with h3 | ⟨b, off, hA, _⟩
      · exact h3
      · injection hv with e1 _ _
        rw [hA] at e1
        cases e1
    subst hbs
    exact ⟨v, w, nilcase none rfl, by simpa [Lib.byteCells] using hown, World.grownBy.refl w _⟩
  · have hcells : ∀ j u, (Lib.byteCells bs)[j]? = some u → w.cell? (a.add j) = some u := by
      intro j u hu
      rw [byteCells_get] at hu
      obtain ⟨A', c', hv, _, _, h3⟩ := h
      rcases h3 with h3 | ⟨b, off, hA, _, hc⟩
      · subst h3; simp at hu
      · injection hv with e1 _ _
        rw [hA] at e1
        injection e1 with e1
        subst e1
        rw [Lib.add_plain]
        have hj : j < bs.length := by
          rcases Nat.lt_or_ge j bs.length with hlt | hge
          · exact hlt
          · rw [List.getElem?_eq_none hge] at hu; simp at hu
        rw [List.getElem?_eq_getElem hj] at hu
        rw [hc j hj]
        simpa [List.getD, List.getElem?_eq_getElem hj] using hu
    obtain ⟨v', w', hrun, h2, h3, _⟩ := run_append_own (P := P) w base t ty e i z 1 1 ht hi hz hsize hby hzs (by decide) v n xs hown a bs.length c (Lib.byteCells bs) hlen hcells h1c
      (by simp only [maxLen]; omega) (by omega) hbase
    exact ⟨v', w', hrun, h2, h3⟩

theorem wp_append_sl {P : Program} {w : World} {o : Oper} {a : Act} {K : Act → World → Prop} {Q : Exit → Act → World → Prop} (s x : Operand) (t : TypeId)
    (ho : o.op = .call { callee := .builtin .append, args := #[s, x], argTypes := #[t, t] })
    (base : Nat) (e : TypeId) (i : TypeInfo) (z : Value) (ht : P.underlying t = some (.slice e)) (hi : P.info? e = some i) (hz : i.zero = some z)
    (hsize : i.size = 1) (hby : i.bytes = 1) (hzs : z.cells.size = 1)
    (v : Value) (n : Nat) (xs : List Value) (hs : a.eval s = v) (hown : w.ownsRow base e 1 v n xs)
    (B : Nat) (A : Option Addr) (m c : Nat) (bs : List UInt8) (hx : a.eval x = .slice A m c) (hr : Sl w B (.slice A m c) bs) (hbytes : n + bs.length ≤ 140737488355328) (hbase : base ≤ w.heap.size)
    (h : ∀ v' w', w'.ownsRow base e 1 v' (n + bs.length) (xs ++ Lib.byteCells bs) → w.grownBy w' v.ownBlock → K (a.put o.dst v') w') : o.wp P a w K Q := by
  obtain ⟨v', w', hrun, h2, h3⟩ := run_append_sl (P := P) w base t o.type e i z ht hi hz hsize hby hzs v n xs hown B A m c bs hr hbytes hbase
  unfold Oper.wp execOp
  simp only [ho, resolve, invoke, builtin, Sem.run_bind, Sem.run_pure, Result.andThen_ok, List.map_toArray, List.map_cons, List.map_nil, hs, hx, hrun]
  exact h v' w' h2 h3

theorem wpList_append_sl {P : Program} {w : World} {ops : Array Oper} {rest : List Oper} {o : Oper} {a : Act} {Q : Exit → Act → World → Prop} (hgd : o.guard = none) (s x : Operand) (t : TypeId)
    (ho : o.op = .call { callee := .builtin .append, args := #[s, x], argTypes := #[t, t] })
    (base : Nat) (e : TypeId) (i : TypeInfo) (z : Value) (ht : P.underlying t = some (.slice e)) (hi : P.info? e = some i) (hz : i.zero = some z)
    (hsize : i.size = 1) (hby : i.bytes = 1) (hzs : z.cells.size = 1)
    (v : Value) (n : Nat) (xs : List Value) (hs : a.eval s = v) (hown : w.ownsRow base e 1 v n xs)
    (B : Nat) (A : Option Addr) (m c : Nat) (bs : List UInt8) (hx : a.eval x = .slice A m c) (hr : Sl w B (.slice A m c) bs) (hbytes : n + bs.length ≤ 140737488355328) (hbase : base ≤ w.heap.size)
    (h : ∀ v' w', w'.ownsRow base e 1 v' (n + bs.length) (xs ++ Lib.byteCells bs) → w.grownBy w' v.ownBlock → wpList P ops Q rest (a.put o.dst v') w') : wpList P ops Q (o :: rest) a w :=
  wpList_plain hgd fun _ hK => wp_append_sl s x t ho base e i z ht hi hz hsize hby hzs v n xs hs hown B A m c bs hx hr hbytes hbase fun v' w' h2 h3 => hK _ _ (h v' w' h2 h3)

/-- A byte's row of the table of types. -/
theorem info_u8 : (Try.prog.info? 5).map (fun i => (i.zero, i.size, i.bytes)) = some (some (.int .u8 0), 1, 1) := by kernel_rfl

end Go.Proofs.Ytojejcafahighaa.pk
